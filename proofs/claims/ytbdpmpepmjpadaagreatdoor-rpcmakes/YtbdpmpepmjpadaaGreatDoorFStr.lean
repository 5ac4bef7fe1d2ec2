/- Bytes in memory: parts of slices; as texts; constants. -/
import Derived.Test.YtbdpmpepmjpadaaGreatDoorUMem
import Derived.Lib.ItoaNum
import Derived.Lib.OwnKind
import Derived.Lib.SlBytesConst
import Derived.RangeFuncRecord
namespace Go.Proofs.YtbdpmpepmjpadaaGreatDoor
set_option linter.unusedVariables false
set_option linter.unusedSimpArgs false
open Go Go.RowKit Go.Shelf Go.Lib

theorem Byts.small {W : World} {v : Value} {T : List Nat} (h : Byts W v T) : ∀ x ∈ T, x < 256 := by
  obtain ⟨_, _, _, h1, _⟩ := h
  exact h1
theorem nth_drop (T : List Nat) (p j : Nat) : nth (T.drop p) j = nth T (p + j) := by
  unfold nth
  rw [List.getElem?_drop]
theorem nth_take {T : List Nat} {m j : Nat} (h : j < m) : nth (T.take m) j = nth T j := by
  unfold nth
  rw [List.getElem?_take_of_lt h]
theorem Byts.cut {W : World} {b off cap cap' p m : Nat} {T : List Nat} (h : Byts W (.slice (some ⟨b, off, none⟩) T.length cap) T) (hp : p + m ≤ T.length) : Byts W (.slice (some ⟨b, off + p, none⟩) m cap') ((T.drop p).take m) := by
  obtain ⟨ao, c, e, h1, h2⟩ := h
  cases e
  have hl : ((T.drop p).take m).length = m := by rw [List.length_take, List.length_drop]; omega
  refine ⟨some ⟨b, off + p, none⟩, cap', by rw [hl], fun x hx => h1 x (List.mem_of_mem_drop (List.mem_of_mem_take hx)), fun j hj => ?_⟩
  rw [hl] at hj
  obtain ⟨b', off', e, hc⟩ := h2 (p + j) (by omega)
  cases e
  refine ⟨b, off + p, rfl, ?_⟩
  rw [nth_take hj, nth_drop, Nat.add_assoc]
  exact hc

/-- The text of bytes. -/
def strOf (T : List Nat) : ByteArray := ⟨(T.map UInt8.ofNat).toArray⟩
theorem strOf_list (T : List Nat) : (strOf T).data.toList = T.map UInt8.ofNat := by simp [strOf]
theorem map_inj {A B : List Nat} (hA : ∀ x ∈ A, x < 256) (hB : ∀ x ∈ B, x < 256) (h1 : A.map UInt8.ofNat = B.map UInt8.ofNat) : A = B := by
  have key : ∀ {L : List Nat}, (∀ x ∈ L, x < 256) → (L.map UInt8.ofNat).map UInt8.toNat = L := by
    intro L hL
    rw [List.map_map]
    conv => rhs; rw [← List.map_id L]
    apply List.map_congr_left
    intro x hx
    have := hL x hx
    simp only [Function.comp_apply, UInt8.toNat_ofNat', id_eq]
    omega
  rw [← key hA, ← key hB, h1]
theorem str_eq {A B : List Nat} (hA : ∀ x ∈ A, x < 256) (hB : ∀ x ∈ B, x < 256) : ((strOf A).toList == (strOf B).toList) = decide (A = B) := by
  rw [toList_data, toList_data, strOf_list, strOf_list]
  by_cases h : A = B
  · rw [h]; simp
  · rw [decide_eq_false h]
    exact beq_eq_false_iff_ne.2 (fun k => h (map_inj hA hB k))

theorem conv_byts {W : World} {v : Value} {T : List Nat} (h : Byts W v T) : (convert 22 9 v).run Tryz.prog W = .ok (.string (strOf T)) W := by
  obtain ⟨ao, cap, rfl, hb, hc⟩ := h
  by_cases h0 : T.length = 0
  · obtain rfl : T = [] := List.length_eq_zero_iff.1 h0
    cases ao with
    | none =>
      rw [List.length_nil, run_convert_bytes_nil W _ _ Tryz.underlying22 Tryz.underlying5 _ _ _ Tryz.underlying9]
      rfl
    | some a =>
      refine run_convert_bytes_back (P := Tryz.prog) W 22 9 5 a cap [] Tryz.underlying22 Tryz.underlying5 Tryz.underlying9 (fun j hj => ?_)
      simp at hj
  · obtain ⟨b, off, rfl, _⟩ := hc 0 (by omega)
    have e : T.length = (T.map UInt8.ofNat).length := by simp
    rw [e]
    refine run_convert_bytes_back (P := Tryz.prog) W 22 9 5 ⟨b, off, none⟩ cap (T.map UInt8.ofNat) Tryz.underlying22 Tryz.underlying5 Tryz.underlying9 (fun j hj => ?_)
    have hj' : j < T.length := by simpa using hj
    obtain ⟨b', off', e', hx⟩ := hc j hj'
    cases e'
    have hv : ((T.map UInt8.ofNat)[j]).toNat = nth T j := by
      have h1 := hb T[j] (List.getElem_mem hj')
      simp only [List.getElem_map, UInt8.toNat_ofNat', nth, List.getElem?_eq_getElem hj', Option.getD_some]
      omega
    have ea : (⟨b, off, none⟩ : Addr).add j = ⟨b, off + j, none⟩ := by simp [Addr.add]
    rw [hv, ea]
    exact hx

theorem byts_lit (w : World) (T : List Nat) (hT : ∀ x ∈ T, x < 256) (fr : Nat × Nat) : Byts (w.alloc (.cells (T.map (fun x : Nat => Value.int .u8 (x : Int))).toArray 5 fr)) (.slice (some ⟨w.heap.size, 0, none⟩) T.length T.length) T := by
  refine ⟨some ⟨w.heap.size, 0, none⟩, T.length, rfl, hT, fun j hj => ⟨w.heap.size, 0, rfl, ?_⟩⟩
  have hh : (w.alloc (.cells (T.map (fun x : Nat => Value.int .u8 (x : Int))).toArray 5 fr)).heap[w.heap.size]? = _ := World.alloc_heap_new w _
  rw [Nat.zero_add]
  simp only [World.cell?, hh]
  simp [nth, hj]


end Go.Proofs.YtbdpmpepmjpadaaGreatDoor
