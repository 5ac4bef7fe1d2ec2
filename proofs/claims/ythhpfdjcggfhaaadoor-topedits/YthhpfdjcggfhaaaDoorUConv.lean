/- Bytes as a text: what a conversion makes of them. -/
import Derived.Test.YthhpfdjcggfhaaaDoorUOneM
import Derived.Lib.ItoaNum
import Derived.Lib.OwnKind
namespace Go.Proofs.YthhpfdjcggfhaaaDoor
set_option linter.unusedVariables false
set_option linter.unusedSimpArgs false
open Go Go.RowKit Go.Shelf Go.Lib

/-- The text of bytes. -/
def strOf (T : List Nat) : ByteArray := ⟨(T.map UInt8.ofNat).toArray⟩

theorem strOf_inj {A B : List Nat} (hA : ∀ x ∈ A, x < 256) (hB : ∀ x ∈ B, x < 256) (h : strOf A = strOf B) : A = B := by
  have h1 : A.map UInt8.ofNat = B.map UInt8.ofNat := by
    have := congrArg (fun s : ByteArray => s.data.toList) h
    simpa [strOf] using this
  have key : ∀ {L : List Nat}, (∀ x ∈ L, x < 256) → (L.map UInt8.ofNat).map UInt8.toNat = L := by
    intro L hL
    rw [List.map_map]
    conv => rhs; rw [← List.map_id L]
    apply List.map_congr_left
    intro x hx
    have := hL x hx
    simp only [Function.comp_apply, UInt8.toNat_ofNat', id_eq]
    omega
  rw [← key hA, ← key hB, h1]

theorem conv_byts {W : World} {v : Value} {T : List Nat} (h : Byts W v T) : (convert 36 9 v).run Tryd.prog W = .ok (.string (strOf T)) W := by
  obtain ⟨ao, cap, rfl, hb, hc⟩ := h
  by_cases h0 : T.length = 0
  · obtain rfl : T = [] := List.length_eq_zero_iff.1 h0
    cases ao with
    | none =>
      rw [List.length_nil, run_convert_bytes_nil W _ _ Tryd.underlying36 Tryd.underlying5 _ _ _ Tryd.underlying9]
      rfl
    | some a =>
      refine run_convert_bytes_back (P := Tryd.prog) W 36 9 5 a cap [] Tryd.underlying36 Tryd.underlying5 Tryd.underlying9 (fun j hj => ?_)
      simp at hj
  · obtain ⟨b, off, rfl, _⟩ := hc 0 (by omega)
    have e : T.length = (T.map UInt8.ofNat).length := by simp
    rw [e]
    refine run_convert_bytes_back (P := Tryd.prog) W 36 9 5 ⟨b, off, none⟩ cap (T.map UInt8.ofNat) Tryd.underlying36 Tryd.underlying5 Tryd.underlying9 (fun j hj => ?_)
    have hj' : j < T.length := by simpa using hj
    have hx := Byts.at (n := 0) (cap := 0) hc hj'
    have hv : ((T.map UInt8.ofNat)[j]).toNat = nth T j := by
      have h1 := hb T[j] (List.getElem_mem hj')
      simp only [List.getElem_map, UInt8.toNat_ofNat', nth, List.getElem?_eq_getElem hj', Option.getD_some]
      omega
    have ea : (⟨b, off, none⟩ : Addr).add j = ⟨b, off + j, none⟩ := by simp [Addr.add]
    rw [hv, ea]
    exact hx

end Go.Proofs.YthhpfdjcggfhaaaDoor
