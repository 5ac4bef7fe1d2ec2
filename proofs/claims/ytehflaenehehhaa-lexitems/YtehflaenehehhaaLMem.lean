/- Bytes in memory, for the walks of lex: parts of slices; as texts; constants. -/
import Derived.Test.YtehflaenehehhaaLWord
import Derived.Lib.ItoaNum
import Derived.Lib.OwnKind
import Derived.Lib.SlBytesConst
import Derived.RangeFuncRecord
namespace Go.Proofs.Ytehflaenehehhaa
set_option linter.unusedVariables false
set_option linter.unusedSimpArgs false
open Go Go.RowKit Go.Shelf Go.Lib

theorem Byts.small {W : World} {v : Value} {T : List Nat} (h : Byts W v T) : ∀ x ∈ T, x < 256 := by
  obtain ⟨_, _, _, h1, _⟩ := h
  exact h1
theorem nth_drop (T : List Nat) (p j : Nat) : nth (T.drop p) j = nth T (p + j) := by
  unfold nth
  rw [List.getElem?_drop]
theorem nth_take {T : List Nat} {m j : Nat} (h : j < m) : nth (T.take m) j = nth T j := by
  unfold nth
  rw [List.getElem?_take_of_lt h]
theorem Byts.cut {W : World} {b off cap cap' p m : Nat} {T : List Nat} (h : Byts W (.slice (some ⟨b, off, none⟩) T.length cap) T) (hp : p + m ≤ T.length) : Byts W (.slice (some ⟨b, off + p, none⟩) m cap') ((T.drop p).take m) := by
  obtain ⟨ao, c, e, h1, h2⟩ := h
  cases e
  have hl : ((T.drop p).take m).length = m := by rw [List.length_take, List.length_drop]; omega
  refine ⟨some ⟨b, off + p, none⟩, cap', by rw [hl], fun x hx => h1 x (List.mem_of_mem_drop (List.mem_of_mem_take hx)), fun j hj => ?_⟩
  rw [hl] at hj
  obtain ⟨b', off', e, hc⟩ := h2 (p + j) (by omega)
  cases e
  refine ⟨b, off + p, rfl, ?_⟩
  rw [nth_take hj, nth_drop, Nat.add_assoc]
  exact hc

/-- The text of bytes. -/
def strOf (T : List Nat) : ByteArray := ⟨(T.map UInt8.ofNat).toArray⟩
theorem strOf_list (T : List Nat) : (strOf T).data.toList = T.map UInt8.ofNat := by simp [strOf]
theorem map_inj {A B : List Nat} (hA : ∀ x ∈ A, x < 256) (hB : ∀ x ∈ B, x < 256) (h1 : A.map UInt8.ofNat = B.map UInt8.ofNat) : A = B := by
  have key : ∀ {L : List Nat}, (∀ x ∈ L, x < 256) → (L.map UInt8.ofNat).map UInt8.toNat = L := by
    intro L hL
    rw [List.map_map]
    conv => rhs; rw [← List.map_id L]
    apply List.map_congr_left
    intro x hx
    have := hL x hx
    simp only [Function.comp_apply, UInt8.toNat_ofNat', id_eq]
    omega
  rw [← key hA, ← key hB, h1]
theorem str_eq {A B : List Nat} (hA : ∀ x ∈ A, x < 256) (hB : ∀ x ∈ B, x < 256) : ((strOf A).toList == (strOf B).toList) = decide (A = B) := by
  rw [toList_data, toList_data, strOf_list, strOf_list]
  by_cases h : A = B
  · rw [h]; simp
  · rw [decide_eq_false h]
    exact beq_eq_false_iff_ne.2 (fun k => h (map_inj hA hB k))

theorem conv_byts {W : World} {v : Value} {T : List Nat} (h : Byts W v T) : (convert 22 9 v).run Try.prog W = .ok (.string (strOf T)) W := by
  obtain ⟨ao, cap, rfl, hb, hc⟩ := h
  by_cases h0 : T.length = 0
  · obtain rfl : T = [] := List.length_eq_zero_iff.1 h0
    cases ao with
    | none =>
      rw [List.length_nil, run_convert_bytes_nil W _ _ Try.underlying22 Try.underlying5 _ _ _ Try.underlying9]
      rfl
    | some a =>
      refine run_convert_bytes_back (P := Try.prog) W 22 9 5 a cap [] Try.underlying22 Try.underlying5 Try.underlying9 (fun j hj => ?_)
      simp at hj
  · obtain ⟨b, off, rfl, _⟩ := hc 0 (by omega)
    have e : T.length = (T.map UInt8.ofNat).length := by simp
    rw [e]
    refine run_convert_bytes_back (P := Try.prog) W 22 9 5 ⟨b, off, none⟩ cap (T.map UInt8.ofNat) Try.underlying22 Try.underlying5 Try.underlying9 (fun j hj => ?_)
    have hj' : j < T.length := by simpa using hj
    obtain ⟨b', off', e', hx⟩ := hc j hj'
    cases e'
    have hv : ((T.map UInt8.ofNat)[j]).toNat = nth T j := by
      have h1 := hb T[j] (List.getElem_mem hj')
      simp only [List.getElem_map, UInt8.toNat_ofNat', nth, List.getElem?_eq_getElem hj', Option.getD_some]
      omega
    have ea : (⟨b, off, none⟩ : Addr).add j = ⟨b, off + j, none⟩ := by simp [Addr.add]
    rw [hv, ea]
    exact hx

theorem byts_lit (w : World) (T : List Nat) (hT : ∀ x ∈ T, x < 256) (fr : Nat × Nat) : Byts (w.alloc (.cells (T.map (fun x : Nat => Value.int .u8 (x : Int))).toArray 5 fr)) (.slice (some ⟨w.heap.size, 0, none⟩) T.length T.length) T := by
  refine ⟨some ⟨w.heap.size, 0, none⟩, T.length, rfl, hT, fun j hj => ⟨w.heap.size, 0, rfl, ?_⟩⟩
  have hh : (w.alloc (.cells (T.map (fun x : Nat => Value.int .u8 (x : Int))).toArray 5 fr)).heap[w.heap.size]? = _ := World.alloc_heap_new w _
  rw [Nat.zero_add]
  simp only [World.cell?, hh]
  simp [nth, hj]

set_option maxRecDepth 100000 in
set_option maxHeartbeats 2000000 in
theorem equal_calls (w : World) (av bv : Value) (A B : List Nat) (ha : Byts w av A) (hb : Byts w bv B) :
    Calls Try.prog 40 #[av, bv] w fun e w' => e = .returned (.bool (decide (A = B))) ∧ w' = w := by
  have h1 := conv_byts ha
  have h2 := conv_byts hb
  have HE := hide (str_eq ha.small hb.small)
  obtain ⟨ao, ac, rfl, _⟩ := ha
  obtain ⟨bo, bc, rfl, _⟩ := hb
  generalize strOf A = sa at *
  generalize strOf B = sb at *
  go_enter Try.func40, Try.ntmps40
  go_wp2
  go_ret
  exact ⟨by rw [← HE.out]; rfl, rfl⟩

/-- Does a text begin a remark? -/
def remB (T : List Nat) : Bool := decide (2 ≤ T.length) && decide (nth T 0 = 47) && decide (nth T 1 = 47)
theorem rem_take {T : List Nat} (h : 2 ≤ T.length) : decide (T.take 2 = [47, 47]) = remB T := by
  match T, h with
  | a :: b :: l, _ => simp [remB, nth]

set_option maxRecDepth 100000 in
set_option maxHeartbeats 2000000 in
theorem hasPrefix_calls (w : World) (b off cap : Nat) (pv : Value) (T : List Nat) (h : Byts w (.slice (some ⟨b, off, none⟩) T.length cap) T) (hcap : T.length ≤ cap) (hp : Byts w pv [47, 47]) :
    Calls Try.prog 33 #[.slice (some ⟨b, off, none⟩) T.length cap, pv] w fun e w' => e = .returned (.bool (remB T)) ∧ w' = w := by
  by_cases h2 : 2 ≤ T.length
  · have hc := h.cut (cap' := cap) (p := 0) (m := 2) (by omega)
    rw [List.drop_zero, Nat.add_zero] at hc
    have HE := hide (equal_calls w _ _ _ _ hc hp)
    rw [rem_take h2] at HE
    obtain ⟨po, pc, rfl, _⟩ := hp
    have d1 : (T.length : Int) ≥ 2 := by omega
    have d2 : (2 : Int) ≤ (T.length : Int) := by omega
    have d3 : (2 : Int) ≤ (cap : Int) := by omega
    clear h hc
    generalize remB T = r at *
    simp only [List.length_cons, List.length_nil, Nat.zero_add, Nat.reduceAdd] at HE ⊢
    go_enter Try.func33, Try.ntmps33
    go_wp2_with fail
    refine HE.out.mono ?_
    rintro e w1 ⟨rfl, hw⟩
    rw [hw]
    clear hw
    go_wp2
    go_ret
    exact ⟨rfl, rfl⟩
  · have e : remB T = false := by unfold remB; simp [h2]
    rw [e]
    obtain ⟨po, pc, rfl, _⟩ := hp
    have d1 : ¬ (T.length : Int) ≥ 2 := by omega
    simp only [List.length_cons, List.length_nil, Nat.zero_add, Nat.reduceAdd]
    clear h e
    go_enter Try.func33, Try.ntmps33
    go_wp2
    go_ret
    exact ⟨rfl, rfl⟩

end Go.Proofs.Ytehflaenehehhaa
