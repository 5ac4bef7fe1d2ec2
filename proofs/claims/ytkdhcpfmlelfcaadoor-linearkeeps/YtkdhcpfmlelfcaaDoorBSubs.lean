/- The reference's Cmp: which of two numbers is the greater. The reference's Sub: the difference of two numbers of which the second isn't greater. What the reference's DivMod works on: a block of digits, written in place; its reckoning. -/
import Derived.Test.YtkdhcpfmlelfcaaDoorRBase
import Derived.Test.YtkdhcpfmlelfcaaDoorCmp

/- The reference's Cmp: which of two numbers is the greater. -/
namespace Go.Proofs.YtkdhcpfmlelfcaaDoor
set_option linter.unusedVariables false
set_option linter.unusedSimpArgs false
open Go Go.RowKit Go.Shelf

theorem cmp_len10 {us vs : List Nat} (hu : Canon 10 us) (hv : Canon 10 vs) (h : us.length ≠ vs.length) : cmpI (us.length : Int) (vs.length : Int) = cmpI (val 10 us : Int) (val 10 vs : Int) := by
  rcases Nat.lt_or_gt_of_ne h with h | h
  · have := canon_len_lt ten_pos hu.1 hv h
    rw [cmpI_lt (by omega), cmpI_lt (by omega)]
  · have := canon_len_lt ten_pos hv.1 hu h
    rw [cmpI_gt (by omega), cmpI_gt (by omega)]

theorem cmp_top10 {us vs : List Nat} (hu : Small 10 us) (hv : Small 10 vs) (hl : us.length = vs.length) {i : Nat} (hi : i < us.length) (hd : us.drop (i + 1) = vs.drop (i + 1)) (h : nth us i ≠ nth vs i) : cmpI (nth us i : Int) (nth vs i : Int) = cmpI (val 10 us : Int) (val 10 vs : Int) := by
  have h2 : i < vs.length := by omega
  rcases Nat.lt_or_gt_of_ne h with h | h
  · have := lt_of_top hu i hi h2 hd (by rw [nth_eq hi, nth_eq h2] at h; exact h)
    rw [cmpI_lt (by omega), cmpI_lt (by omega)]
  · have := lt_of_top hv i h2 hi hd.symm (by rw [nth_eq hi, nth_eq h2] at h; exact h)
    rw [cmpI_gt (by omega), cmpI_gt (by omega)]

theorem drop_eq_step {us vs : List Nat} {j : Nat} (h1 : j < us.length) (h2 : j < vs.length) (h : us.drop (j + 1) = vs.drop (j + 1)) (he : nth us j = nth vs j) : us.drop j = vs.drop j := by
  rw [nth_eq h1, nth_eq h2] at he
  rw [List.drop_eq_getElem_cons h1, List.drop_eq_getElem_cons h2, he, h]

end Go.Proofs.YtkdhcpfmlelfcaaDoor

/- The reference's Sub: the difference of two numbers of which the second isn't greater. -/
namespace Go.Proofs.YtkdhcpfmlelfcaaDoor
set_option linter.unusedVariables false
set_option linter.unusedSimpArgs false
open Go Go.RowKit Go.Shelf

theorem sub_step10 {xs ys ds : List Nat} {c c' k s : Nat} (hl : ds.length = k) (h : val 10 ds + val 10 (ys.take k) = val 10 (xs.take k) + 10 ^ k * c) (hs : s + nth ys k + c = nth xs k + 10 * c') :
    val 10 (ds ++ [s]) + val 10 (ys.take (k + 1)) = val 10 (xs.take (k + 1)) + 10 ^ (k + 1) * c' := by
  rw [val_take_nth, val_take_nth, val_snoc, hl, Nat.pow_succ, Nat.mul_assoc (10 ^ k) 10 c']
  have e : 10 ^ k * (s + nth ys k + c) = 10 ^ k * (nth xs k + 10 * c') := by rw [hs]
  rw [Nat.mul_add, Nat.mul_add, Nat.mul_add] at e
  omega

theorem small_one {ds : List Nat} (hs : Small 10 ds) {s : Nat} (h : s < 10) : Small 10 (ds ++ [s]) := hs.append (fun x hx => by rw [List.mem_singleton.1 hx]; exact h)

theorem sub_end {xs ys ds : List Nat} {c : Nat} (hs : Small 10 ds) (hxs : Small 10 xs) (cy : Canon 10 ys) (hl : ds.length = xs.length) (hle : val 10 ys ≤ val 10 xs) (h : val 10 ds + val 10 (ys.take xs.length) = val 10 (xs.take xs.length) + 10 ^ xs.length * c) : val 10 ds = val 10 xs - val 10 ys := by
  have hyl : ys.length ≤ xs.length := by
    apply Decidable.byContradiction
    intro hn
    have := canon_len_lt ten_pos hxs cy (by omega)
    omega
  rw [List.take_of_length_le hyl, List.take_of_length_le (Nat.le_refl _)] at h
  have hd := val_lt hs
  rw [hl] at hd
  rcases Nat.eq_zero_or_pos c with rfl | hp
  · omega
  · have : 10 ^ xs.length * 1 ≤ 10 ^ xs.length * c := Nat.mul_le_mul_left _ hp
    omega

end Go.Proofs.YtkdhcpfmlelfcaaDoor

/- What the reference's DivMod works on: a block of digits, written in place; its reckoning. -/
namespace Go.Proofs.YtkdhcpfmlelfcaaDoor
set_option linter.unusedVariables false
set_option linter.unusedSimpArgs false
open Go Go.RowKit Go.Shelf

/-- Block g holds the digits zs, and nothing else. -/
def RowI (W : World) (g : Nat) (zs : List Nat) : Prop := W.heap[g]? = some (.cells (dcells zs).toArray 3 (0, 0))

theorem RowI.lt {W : World} {g : Nat} {zs : List Nat} (h : RowI W g zs) : g < W.heap.size := (Array.getElem?_eq_some_iff.1 h).1

theorem RowI.cell {W : World} {g : Nat} {zs : List Nat} (h : RowI W g zs) {j : Nat} (hj : j < zs.length) : W.cell? ⟨g, j, none⟩ = some (.int .i64 ((nth zs j : Nat) : Int)) := by
  rw [cell_of_row W g j _ _ _ h, nth_eq hj]
  simp [dcells, hj]

theorem RowI.frozen {W : World} {g : Nat} {zs : List Nat} (h : RowI W g zs) (j : Nat) : W.frozen? ⟨g, j, none⟩ = false := frozen_of_row W g j _ _ h

theorem RowI.set {W : World} {g : Nat} {zs : List Nat} (h : RowI W g zs) (j v : Nat) : RowI (W.setCell ⟨g, j, none⟩ (.int .i64 (v : Int))) g (zs.set j v) := by
  unfold RowI
  rw [heap_setCell_same W g j _ _ _ h]
  simp [dcells, List.map_set]

theorem RowI.keep {W W' : World} {g : Nat} {zs : List Nat} (h : RowI W g zs) (hb : Below W.heap.size W W') : RowI W' g zs := (hb.block g h.lt).trans h

theorem RowI.digs {W : World} {g : Nat} {zs : List Nat} (h : RowI W g zs) (hs : Small 10 zs) : Digs W (.slice (some ⟨g, 0, none⟩) zs.length zs.length) zs :=
  ⟨some ⟨g, 0, none⟩, zs.length, rfl, Nat.le_refl _, hs, fun j hj => ⟨g, 0, rfl, by rw [Nat.zero_add]; exact h.cell hj⟩⟩

theorem RNew.setBelow {n₀ : Nat} {W : World} {v : Value} {n g j : Nat} (h : RNew n₀ W v n) (hg : g < n₀) (u : Value) : RNew n₀ (W.setCell ⟨g, j, none⟩ u) v n := by
  obtain ⟨ds, h1, h2⟩ := h
  exact ⟨ds, ownsRow_setCell_below h1 hg u, h2⟩

theorem RNew.keep {n₀ : Nat} {W W' : World} {v : Value} {n : Nat} (h : RNew n₀ W v n) (hb : Below W.heap.size W W') : RNew n₀ W' v n := by
  obtain ⟨ds, h1, h2⟩ := h
  exact ⟨ds, h1.keep hb, h2⟩

theorem RNew.nil (n₀ : Nat) (W : World) : RNew n₀ W (.slice none 0 0) 0 := ⟨[], Own.nil _ _, canon_nil 10, rfl⟩

/-- One digit more of the quotient. -/
theorem rdiv_step {zs : List Nat} {n r x c r' j X : Nat} (hj : j < zs.length) (hX : X = val 10 (zs.drop (j + 1)) * n + r) (hc : c * n + r' = r * 10 + x) :
    x + 10 * X = val 10 ((zs.set j c).drop j) * n + r' := by
  have e : (zs.set j c).drop j = c :: zs.drop (j + 1) := by
    rw [List.drop_eq_getElem_cons (by simpa using hj), List.drop_set_of_lt (by omega)]
    simp
  rw [e, val_cons, hX, Nat.add_mul, Nat.mul_add, Nat.mul_assoc]
  omega

theorem div_count {n r x c r' : Nat} (hr : r < n) (hx : x < 10) (hc : c * n + r' = r * 10 + x) : c < 10 := by
  apply Decidable.byContradiction
  intro h
  have h1 : 10 * n ≤ c * n := Nat.mul_le_mul_right _ (by omega)
  omega

end Go.Proofs.YtkdhcpfmlelfcaaDoor
