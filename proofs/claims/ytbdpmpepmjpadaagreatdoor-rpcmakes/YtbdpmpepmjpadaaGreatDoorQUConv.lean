/- Bytes as a text: what a conversion makes of them. -/
import Derived.Test.YtbdpmpepmjpadaaGreatDoorUOneM
import Derived.Test.YtbdpmpepmjpadaaGreatDoorFStr
import Derived.Lib.ItoaNum
import Derived.Lib.OwnKind
namespace Go.Proofs.YtbdpmpepmjpadaaGreatDoor
set_option linter.unusedVariables false
set_option linter.unusedSimpArgs false
open Go Go.RowKit Go.Shelf Go.Lib

theorem strOf_inj {A B : List Nat} (hA : ∀ x ∈ A, x < 256) (hB : ∀ x ∈ B, x < 256) (h : strOf A = strOf B) : A = B := by
  have h1 : A.map UInt8.ofNat = B.map UInt8.ofNat := by
    have := congrArg (fun s : ByteArray => s.data.toList) h
    simpa [strOf] using this
  have key : ∀ {L : List Nat}, (∀ x ∈ L, x < 256) → (L.map UInt8.ofNat).map UInt8.toNat = L := by
    intro L hL
    rw [List.map_map]
    conv => rhs; rw [← List.map_id L]
    apply List.map_congr_left
    intro x hx
    have := hL x hx
    simp only [Function.comp_apply, UInt8.toNat_ofNat', id_eq]
    omega
  rw [← key hA, ← key hB, h1]

end Go.Proofs.YtbdpmpepmjpadaaGreatDoor
