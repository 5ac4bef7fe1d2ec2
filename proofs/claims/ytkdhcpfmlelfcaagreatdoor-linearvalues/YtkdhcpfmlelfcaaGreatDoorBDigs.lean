/- The reference's numbers: slices of decimal digits, the lowest first; what append leaves of them. The reference's Trim: digits without noughts at their end, in memory of their own. The reference's Small: the digits of a small number. -/
import Derived.Test.YtkdhcpfmlelfcaaGreatDoorText2

/- The reference's numbers: slices of decimal digits, the lowest first; what append leaves of them. -/
namespace Go.Proofs.YtkdhcpfmlelfcaaGreatDoor
set_option linter.unusedVariables false
set_option linter.unusedSimpArgs false
open Go Go.RowKit Go.Shelf

theorem ten_pos : 0 < 10 := by decide

theorem infoI64 : (Tryz.prog.info? 3).map (fun i => (i.zero, i.size, i.bytes)) = some (some (.int .i64 0), 1, 8) := by kernel_rfl

def dcells (ds : List Nat) : List Value := ds.map (fun z : Nat => Value.int .i64 (z : Int))

theorem dcells_length (ds : List Nat) : (dcells ds).length = ds.length := by simp [dcells]

/-- The slice value v holds the digits ds. -/
def Digs (W : World) (v : Value) (ds : List Nat) : Prop :=
  ∃ ao cap, v = .slice ao ds.length cap ∧ ds.length ≤ cap ∧ Small 10 ds ∧ ∀ j, j < ds.length → ∃ b off, ao = some ⟨b, off, none⟩ ∧ W.cell? ⟨b, off + j, none⟩ = some (.int .i64 ((nth ds j : Nat) : Int))

theorem Digs.below {W W' : World} {v : Value} {ds : List Nat} (h : Digs W v ds) (hb : Below W.heap.size W W') : Digs W' v ds := by
  obtain ⟨ao, cap, rfl, h1, h3, h4⟩ := h
  refine ⟨ao, cap, rfl, h1, h3, fun j hj => ?_⟩
  obtain ⟨b, off, e, hc⟩ := h4 j hj
  exact ⟨b, off, e, (hb.cell (p := ⟨b, off + j, none⟩) (block_lt_of_cell hc)).trans hc⟩

theorem Digs.nil (W : World) : Digs W (.slice none 0 0) [] := ⟨none, 0, rfl, Nat.le_refl _, Small.nil _, fun j hj => by simp at hj⟩

theorem Digs.small {W : World} {v : Value} {ds : List Nat} (h : Digs W v ds) : Small 10 ds := by
  obtain ⟨ao, cap, e, _, h, _⟩ := h; exact h

theorem Digs.len {W : World} {v : Value} {ds : List Nat} (h : Digs W v ds) : ∃ ao cap, v = .slice ao ds.length cap := by
  obtain ⟨ao, cap, e, _⟩ := h; exact ⟨ao, cap, e⟩

theorem Digs.cells {W : World} {ao : Option Addr} {n cap : Nat} {ds : List Nat} (h : Digs W (.slice ao n cap) ds) : ∀ j, j < ds.length → ∃ b off, ao = some ⟨b, off, none⟩ ∧ W.cell? ⟨b, off + j, none⟩ = some (.int .i64 ((nth ds j : Nat) : Int)) := by
  obtain ⟨ao', cap', e, _, _, h⟩ := h
  cases e
  exact h

/-- Digits that the call has gathered in memory of its own. -/
def Own (n₀ : Nat) (W : World) (v : Value) (ds : List Nat) : Prop := W.ownsRow n₀ 3 1 v ds.length (dcells ds)

theorem Own.nil (n₀ : Nat) (W : World) : Own n₀ W (.slice none 0 0) [] := World.ownsRow_nil _ _ _ _

theorem Own.digs {n₀ : Nat} {W : World} {v : Value} {ds : List Nat} (h : Own n₀ W v ds) (hs : Small 10 ds) : Digs W v ds := by
  rcases h.2 with ⟨rfl, h0⟩ | ⟨g, cap, cur, rfl, hg, hh, hn, hm, hc, ht⟩
  · have : ds = [] := List.eq_nil_of_length_eq_zero h0
    subst this
    exact Digs.nil W
  · refine ⟨some ⟨g, 0, none⟩, cap, rfl, hn, hs, fun j hj => ⟨g, 0, rfl, ?_⟩⟩
    have := World.ownsRow.cellAt (show W.ownsRow n₀ 3 1 (.slice (some ⟨g, 0, none⟩) ds.length cap) ds.length (dcells ds) from h) j (by omega)
    rw [Nat.zero_add, this, nth_eq hj]
    simp [dcells, hj]

theorem Own.keep {n₀ : Nat} {W W' : World} {v : Value} {ds : List Nat} (h : Own n₀ W v ds) (hb : Below W.heap.size W W') : Own n₀ W' v ds := ownsRow_keep h hb

/-- What an append of one digit leaves. -/
theorem Own.pushed {n₀ : Nat} {w wr w1 : World} {v v' : Value} {ds : List Nat} {o : Obj} {d : Nat} (h : Own n₀ wr v ds) (hB : Below w.heap.size w wr) (hn : w.heap.size ≤ n₀) (hn2 : n₀ ≤ wr.heap.size)
    (hown : w1.ownsRow n₀ 3 1 v' (ds.length + 1) (dcells ds ++ [.int .i64 (d : Int)])) (hg : (wr.alloc o).grownBy w1 v.ownBlock) :
    Own n₀ w1 v' (ds ++ [d]) ∧ Below w.heap.size w w1 ∧ n₀ ≤ w1.heap.size := by
  refine ⟨?_, ?_, ?_⟩
  · unfold Own
    have e1 : (ds ++ [d]).length = ds.length + 1 := by simp
    have e2 : dcells (ds ++ [d]) = dcells ds ++ [.int .i64 (d : Int)] := by simp [dcells]
    rw [e1, e2]
    exact hown
  · exact (hB.alloc hB.size o).grown hg (by simp; have := hB.size; omega) (fun j hj => by have := (h.lt j hj).1; omega)
  · have := hg.size
    simp at this
    omega

end Go.Proofs.YtkdhcpfmlelfcaaGreatDoor

/- The reference's Trim: digits without noughts at their end, in memory of their own. -/
namespace Go.Proofs.YtkdhcpfmlelfcaaGreatDoor
set_option linter.unusedVariables false
set_option linter.unusedSimpArgs false
open Go Go.RowKit Go.Shelf

theorem tl_drop {zs : List Nat} {k : Nat} (hk : k ≤ zs.length) (h : ∀ x ∈ zs.drop k, x = 0) (hz : k = 0 ∨ nth zs (k - 1) ≠ 0) : tl zs = k := by
  rcases Nat.eq_zero_or_pos k with rfl | hp
  · rw [List.drop_zero] at h
    exact (tl_zero_iff zs).2 h
  · have hz' : nth zs (k - 1) ≠ 0 := hz.resolve_left (by omega)
    have := tl_of_top zs (k - 1) (by omega) (by rw [← nth_eq (by omega)]; exact hz') (by rw [show k - 1 + 1 = k by omega]; exact h)
    omega

theorem drop_more {zs : List Nat} {k : Nat} (hk : k < zs.length) (h : ∀ x ∈ zs.drop (k + 1), x = 0) (hz : nth zs k = 0) : ∀ x ∈ zs.drop k, x = 0 := by
  rw [List.drop_eq_getElem_cons hk]
  intro x hx
  rcases List.mem_cons.1 hx with rfl | hx
  · rw [nth_eq hk] at hz; exact hz
  · exact h x hx

set_option maxRecDepth 100000 in
set_option maxHeartbeats 1000000 in
theorem rtrim_calls (w : World) (v : Value) (ds : List Nat) (h : Digs w v ds) (hl : ds.length ≤ 1048576) :
    Calls Tryz.prog 88 #[v] w fun e w' => ∃ rv, e = .returned rv ∧ Own w.heap.size w' rv (trm ds) ∧ Below w.heap.size w w' := by
  obtain ⟨ao, cap, rfl, h1, hs, hc⟩ := h
  obtain ⟨i0, hi, hz0, hz1, hz2⟩ := info_parts infoI64
  go_enter Tryz.func88, Tryz.ntmps88
  go_wp2
  go_loopw [3] (fun i wr => ∃ k : Nat, k ≤ ds.length ∧ i = .int .i64 k ∧ (∀ x ∈ ds.drop k, x = 0) ∧ wr = w) (fun i _ => (intOf i).toNat)
  case atStart => exact ⟨ds.length, Nat.le_refl _, rfl, by simp, rfl⟩
  case round =>
    obtain ⟨k, hk, rfl, hz, rfl⟩ := hrel
    cases ao with
    | none =>
      have hd0 : ds = [] := by
        cases ds with
        | nil => rfl
        | cons x r => obtain ⟨b, off, e, _⟩ := hc 0 (by simp); cases e
      subst hd0
      obtain rfl : k = 0 := by simp at hk; exact hk
      go_wp2
      go_ret
      exact ⟨_, rfl, Own.nil _ _, Below.refl _ _⟩
    | some ad =>
      have hcell : ∀ j, j < ds.length → wr.cell? (ad.add j) = some (.int .i64 ((nth ds j : Nat) : Int)) := fun j hj => by
        obtain ⟨b, off, e, hh⟩ := hc j hj
        cases e
        unfold Addr.add
        split
        · rename_i h0; subst h0; simpa using hh
        · exact hh
      by_cases hst : k = 0 ∨ nth ds (k - 1) ≠ 0
      · have ht := tl_drop hk hz hst
        have hnews : ∀ j u, (dcells (ds.take k))[j]? = some u → wr.cell? (ad.add j) = some u := fun j u hj => by
          have hj2 : j < (ds.take k).length := by
            have := (List.getElem?_eq_some_iff.1 hj).1
            rw [dcells_length] at this
            exact this
          have hj3 : j < k := by simp at hj2; omega
          rw [hcell j (by omega)]
          have : (dcells (ds.take k))[j]? = some (.int .i64 ((nth (ds.take k) j : Nat) : Int)) := by
            rw [nth_eq hj2]
            simp [dcells, hj3, show j < ds.length by omega]
          rw [this] at hj
          rw [← hj, nth_take hj3]
        rcases Nat.eq_zero_or_pos k with rfl | hp
        · go_wp2
          go_ret
          refine ⟨_, rfl, ?_, Below.refl _ _⟩
          rw [trm_nil_of ht]
          exact Own.nil _ _
        · obtain ⟨j, rfl⟩ : ∃ j, k = j + 1 := ⟨k - 1, by omega⟩
          obtain ⟨b, off, e, hcj⟩ := hc j (by omega)
          cases e
          have hnz : nth ds j ≠ 0 := hst.resolve_left (by omega)
          have d2 : (((nth ds j : Nat) : Int) == 0) = false := by simp; omega
          have hsub : ((j + 1 : Nat) : Int) - 1 = (j : Int) := by omega
          have hone : ∀ u ∈ dcells (ds.take (j + 1)), u.oneCell' = true := fun u hu => by
            obtain ⟨a, _, rfl⟩ := List.mem_map.1 hu
            rfl
          have hlen : (dcells (ds.take (j + 1))).length = (j + 1) * 1 := by rw [dcells_length]; simp; omega
          go_wp2_with (at_builtin; go_must (refine wpList_append_own _ rfl (.tmp 19) (.tmp 22) 30 rfl wr.heap.size 3 i0 (.int .i64 0) 1 8 Tryz.underlying30 hi hz0 hz1 hz2 rfl (by decide) (.slice none 0 0) 0 [] rfl (World.ownsRow_nil _ _ _ _) ⟨b, off, none⟩ (j + 1) cap (dcells (ds.take (j + 1))) rfl hlen hnews hone (by unfold maxLen; omega) (by omega) (Nat.le_refl _) ?_; intro v' w1 hown' hgrow hnil))
          go_ret
          refine ⟨_, rfl, ?_, (Below.refl _ _).grown hgrow (Nat.le_refl _) (fun k hk => by cases hk)⟩
          unfold Own trm
          rw [ht]
          have e1 : (ds.take (j + 1)).length = 0 + (j + 1) := by simp; omega
          rw [e1]
          exact hown'
      · obtain ⟨hk0, hk1⟩ := not_or.1 hst
        obtain ⟨j, rfl⟩ : ∃ j, k = j + 1 := ⟨k - 1, by omega⟩
        obtain ⟨b, off, e, hcj⟩ := hc j (by omega)
        cases e
        have hz0' : nth ds j = 0 := Decidable.not_not.1 hk1
        rw [hz0'] at hcj
        clear hcell
        go_wp2
        go_roundw
        case rel => exact ⟨j, by omega, by go_num, drop_more (by omega) hz hz0', trivial⟩
        case measure => simp [intOf]

/-- A number of the reference's, as an argument and as an answer. -/
def RRes (W : World) (v : Value) (n : Nat) : Prop := ∃ ds, Digs W v ds ∧ Canon 10 ds ∧ val 10 ds = n
def RArg (W : World) (v : Value) (n : Nat) : Prop := ∃ ds, Digs W v ds ∧ Canon 10 ds ∧ val 10 ds = n ∧ ds.length ≤ 100000

theorem RRes.below {W W' : World} {v : Value} {n : Nat} (h : RRes W v n) (hb : Below W.heap.size W W') : RRes W' v n := by
  obtain ⟨xs, h1, h2⟩ := h
  exact ⟨xs, h1.below hb, h2⟩
theorem RArg.below {W W' : World} {v : Value} {n : Nat} (h : RArg W v n) (hb : Below W.heap.size W W') : RArg W' v n := by
  obtain ⟨xs, h1, h2⟩ := h
  exact ⟨xs, h1.below hb, h2⟩
theorem RArg.res {W : World} {v : Value} {n : Nat} (h : RArg W v n) : RRes W v n := by
  obtain ⟨xs, h1, h2, h3, _⟩ := h
  exact ⟨xs, h1, h2, h3⟩

theorem canon_len_of {B : Nat} (hB : 0 < B) {xs : List Nat} (hc : Canon B xs) {k : Nat} (h : val B xs < B ^ k) : xs.length ≤ k := by
  induction k generalizing xs with
  | zero =>
    rw [Nat.pow_zero] at h
    rw [hc.val_zero hB (by omega)]
    simp
  | succ k ih =>
    cases xs with
    | nil => simp
    | cons x r =>
      have : val B r < B ^ k := by
        rw [val_cons, Nat.pow_succ] at h
        have h2 : B * val B r < B * B ^ k := by rw [Nat.mul_comm B (B ^ k)]; omega
        exact Nat.lt_of_mul_lt_mul_left h2
      have := ih hc.tail this
      simp only [List.length_cons]
      omega

theorem RRes.arg {W : World} {v : Value} {n k : Nat} (h : RRes W v n) (hn : n < 10 ^ k) (hk : k ≤ 100000) : RArg W v n := by
  obtain ⟨xs, h1, h2, h3⟩ := h
  exact ⟨xs, h1, h2, h3, Nat.le_trans (canon_len_of ten_pos h2 (by rw [h3]; exact hn)) hk⟩

theorem RRes.nil (W : World) : RRes W (.slice none 0 0) 0 := ⟨[], Digs.nil W, canon_nil 10, rfl⟩

theorem Own.res {n₀ : Nat} {W : World} {v : Value} {ds : List Nat} (h : Own n₀ W v ds) (hc : Canon 10 ds) : RRes W v (val 10 ds) := ⟨ds, h.digs hc.1, hc, rfl⟩

theorem tl_snoc (ds : List Nat) (d : Nat) (h : d ≠ 0) : tl (ds ++ [d]) = (ds ++ [d]).length := by
  have := tl_of_top (ds ++ [d]) ds.length (by simp) (by simpa using h) (by simp)
  rw [this]
  simp

/-- A number that lies in memory made since the heap had so many blocks. -/
def RNew (n₀ : Nat) (W : World) (v : Value) (n : Nat) : Prop := ∃ ds, Own n₀ W v ds ∧ Canon 10 ds ∧ val 10 ds = n

theorem RNew.res {n₀ : Nat} {W : World} {v : Value} {n : Nat} (h : RNew n₀ W v n) : RRes W v n := by
  obtain ⟨ds, h1, h2, rfl⟩ := h
  exact h1.res h2

theorem RNew.mono {n₀ n₁ : Nat} {W : World} {v : Value} {n : Nat} (h : RNew n₀ W v n) (hn : n₁ ≤ n₀) : RNew n₁ W v n := by
  obtain ⟨ds, ⟨h0, h1⟩, h2⟩ := h
  refine ⟨ds, ⟨h0, ?_⟩, h2⟩
  rcases h1 with h1 | ⟨g, cap, cur, e, hg, h⟩
  · exact .inl h1
  · exact .inr ⟨g, cap, cur, e, by omega, h⟩

/-- What Trim makes of gathered digits. -/
theorem trim_res (w : World) (v : Value) (ds : List Nat) (h : Digs w v ds) (hl : ds.length ≤ 1048576) :
    Calls Tryz.prog 88 #[v] w fun e w' => ∃ rv, e = .returned rv ∧ RNew w.heap.size w' rv (val 10 ds) ∧ Below w.heap.size w w' := by
  refine (rtrim_calls w v ds h hl).mono ?_
  rintro e w' ⟨rv, rfl, ho, hb⟩
  exact ⟨rv, rfl, ⟨_, ho, canon_trm h.small, val_trm _ _⟩, hb⟩

end Go.Proofs.YtkdhcpfmlelfcaaGreatDoor

/- The reference's Small: the digits of a small number. -/
namespace Go.Proofs.YtkdhcpfmlelfcaaGreatDoor
set_option linter.unusedVariables false
set_option linter.unusedSimpArgs false
open Go Go.RowKit Go.Shelf

theorem one_cell {k : IntKind} {x : Int} : ∀ u ∈ [Value.int k x], u.oneCell' = true := fun u hu => by
  rw [List.mem_singleton.1 hu]; rfl

theorem tmod10 (m : Nat) : Int.tmod (m : Int) 10 = ((m % 10 : Nat) : Int) := by
  rw [Int.tmod_eq_emod_of_nonneg (by omega)]; omega
theorem tdiv10 (m : Nat) : Int.tdiv (m : Int) 10 = ((m / 10 : Nat) : Int) := by
  rw [Int.tdiv_eq_ediv_of_nonneg (by omega)]; omega

theorem small_step {ds : List Nat} {m n : Nat} (hs : Small 10 ds) (hv : val 10 ds + 10 ^ ds.length * m = n) (hm : m ≠ 0) :
    Small 10 (ds ++ [m % 10]) ∧ val 10 (ds ++ [m % 10]) + 10 ^ (ds ++ [m % 10]).length * (m / 10) = n ∧ (m / 10 = 0 → tl (ds ++ [m % 10]) = (ds ++ [m % 10]).length) := by
  refine ⟨hs.append (fun x hx => by rw [List.mem_singleton.1 hx]; exact Nat.mod_lt _ (by decide)), ?_, fun h => tl_snoc _ _ (by omega)⟩
  rw [val_snoc, ← hv, List.length_append, List.length_singleton, Nat.pow_succ, Nat.add_assoc, Nat.mul_assoc, ← Nat.mul_add, Nat.mod_add_div]

theorem small_len {L m n : Nat} (h : 10 ^ L * m ≤ n) (hm : m ≠ 0) (hn : n < 18446744073709551616) : L ≤ 20 := by
  apply Decidable.byContradiction
  intro hl
  have h1 : 10 ^ 20 ≤ 10 ^ L := Nat.pow_le_pow_right (by decide) (by omega)
  have h2 : 10 ^ L * 1 ≤ 10 ^ L * m := Nat.mul_le_mul_left _ (by omega)
  have h3 : (10 : Nat) ^ 20 = 100000000000000000000 := by decide
  omega

set_option maxRecDepth 100000 in
set_option maxHeartbeats 1000000 in
theorem rsmall_calls (w : World) (n : Nat) (hn : n < 18446744073709551616) :
    Calls Tryz.prog 89 #[.int .u64 (n : Int)] w fun e w' => ∃ rv, e = .returned rv ∧ RRes w' rv n ∧ Below w.heap.size w w' := by
  obtain ⟨i0, hi, hz0, hz1, hz2⟩ := info_parts infoI64
  go_enter Tryz.func89, Tryz.ntmps89
  go_wp2
  go_loopw [0, 3] (fun x out wr => ∃ (m : Nat) (ds : List Nat), x = .int .u64 (m : Int) ∧ Own w.heap.size wr out ds ∧ Small 10 ds ∧ val 10 ds + 10 ^ ds.length * m = n ∧ (m = 0 → tl ds = ds.length) ∧ Below w.heap.size w wr) (fun x _ _ => (intOf x).toNat)
  case atStart => exact ⟨n, [], rfl, Own.nil _ _, Small.nil _, by simp [val_nil], fun _ => rfl, Below.refl _ _⟩
  case round =>
    obtain ⟨m, ds, rfl, hown, hs, hv, htl, hB⟩ := hrel
    have Hs := hide hs
    have Hv := hide hv
    have Htl := hide htl
    have HB := hide hB
    have Hown := hide hown
    clear hs hv htl hB hown
    by_cases hm : m = 0
    · subst hm
      go_wp2
      go_ret
      have hc : Canon 10 ds := ⟨Hs.out, Htl.out trivial⟩
      have hvv := Hv.out
      rw [Nat.mul_zero, Nat.add_zero] at hvv
      have := Hown.out.res hc
      rw [hvv] at this
      exact ⟨_, rfl, this, HB.out⟩
    · have hle : 10 ^ ds.length * m ≤ n := by have := Hv.out; omega
      have hdl := small_len hle hm hn
      have hm2 : m ≤ n := by
        have : 1 * m ≤ 10 ^ ds.length * m := Nat.mul_le_mul_right _ (Nat.pow_pos (by decide))
        omega
      have hgt : (m : Int) > 0 := by omega
      have hr := tmod10 m
      have hq := tdiv10 m
      have hlt : m % 10 < 10 := Nat.mod_lt _ (by decide)
      go_wp2_with (at_builtin; go_must (refine wpList_append_own _ rfl (.tmp 6) (.tmp 10) 30 rfl w.heap.size 3 i0 (.int .i64 0) 1 8 Tryz.underlying30 hi hz0 hz1 hz2 rfl (by decide) _ ds.length (dcells ds) rfl (by exact World.ownsRow.alloc Hown.out _) ⟨wr.heap.size, 0, none⟩ 1 1 [.int .i64 ((m % 10 : Nat) : Int)] rfl rfl (by exact World.news_of_block (World.alloc_heap_new _ _)) one_cell (by unfold maxLen; omega) (by omega) (by have := HB.out.size; simp; omega) ?_; intro v' w1 hown' hgrow hnil))
      have hp := Own.pushed Hown.out HB.out (Nat.le_refl _) HB.out.size hown' hgrow
      have hst := small_step Hs.out Hv.out hm
      go_roundw
      case rel => exact ⟨m / 10, ds ++ [m % 10], by go_num, hp.1, hst.1, hst.2.1, hst.2.2, hp.2.1⟩
      case measure => simp [intOf]; omega

end Go.Proofs.YtkdhcpfmlelfcaaGreatDoor
