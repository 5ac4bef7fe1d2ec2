/- The reference's Trim: digits without noughts at their end, in memory of their own. -/
import Derived.Test.YtjmbblglfabefaaDoorRefMem
namespace Go.Proofs.YtjmbblglfabefaaDoor
set_option linter.unusedVariables false
set_option linter.unusedSimpArgs false
open Go Go.RowKit Go.Shelf

theorem tl_drop {zs : List Nat} {k : Nat} (hk : k ≤ zs.length) (h : ∀ x ∈ zs.drop k, x = 0) (hz : k = 0 ∨ nth zs (k - 1) ≠ 0) : tl zs = k := by
  rcases Nat.eq_zero_or_pos k with rfl | hp
  · rw [List.drop_zero] at h
    exact (tl_zero_iff zs).2 h
  · have hz' : nth zs (k - 1) ≠ 0 := hz.resolve_left (by omega)
    have := tl_of_top zs (k - 1) (by omega) (by rw [← nth_eq (by omega)]; exact hz') (by rw [show k - 1 + 1 = k by omega]; exact h)
    omega

theorem drop_more {zs : List Nat} {k : Nat} (hk : k < zs.length) (h : ∀ x ∈ zs.drop (k + 1), x = 0) (hz : nth zs k = 0) : ∀ x ∈ zs.drop k, x = 0 := by
  rw [List.drop_eq_getElem_cons hk]
  intro x hx
  rcases List.mem_cons.1 hx with rfl | hx
  · rw [nth_eq hk] at hz; exact hz
  · exact h x hx

set_option maxRecDepth 100000 in
set_option maxHeartbeats 1000000 in
theorem rtrim_calls (w : World) (v : Value) (ds : List Nat) (h : Digs w v ds) (hl : ds.length ≤ 1048576) :
    Calls Tryd.prog 28 #[v] w fun e w' => ∃ rv, e = .returned rv ∧ Own w.heap.size w' rv (trm ds) ∧ Below w.heap.size w w' := by
  obtain ⟨ao, cap, rfl, h1, hs, hc⟩ := h
  obtain ⟨i0, hi, hz0, hz1, hz2⟩ := info_parts infoI64
  go_enter Tryd.func28, Tryd.ntmps28
  go_wp2
  go_loopw [3] (fun i wr => ∃ k : Nat, k ≤ ds.length ∧ i = .int .i64 k ∧ (∀ x ∈ ds.drop k, x = 0) ∧ wr = w) (fun i _ => (intOf i).toNat)
  case atStart => exact ⟨ds.length, Nat.le_refl _, rfl, by simp, rfl⟩
  case round =>
    obtain ⟨k, hk, rfl, hz, rfl⟩ := hrel
    cases ao with
    | none =>
      have hd0 : ds = [] := by
        cases ds with
        | nil => rfl
        | cons x r => obtain ⟨b, off, e, _⟩ := hc 0 (by simp); cases e
      subst hd0
      obtain rfl : k = 0 := by simp at hk; exact hk
      go_wp2
      go_ret
      exact ⟨_, rfl, Own.nil _ _, Below.refl _ _⟩
    | some ad =>
      have hcell : ∀ j, j < ds.length → wr.cell? (ad.add j) = some (.int .i64 ((nth ds j : Nat) : Int)) := fun j hj => by
        obtain ⟨b, off, e, hh⟩ := hc j hj
        cases e
        unfold Addr.add
        split
        · rename_i h0; subst h0; simpa using hh
        · exact hh
      by_cases hst : k = 0 ∨ nth ds (k - 1) ≠ 0
      · have ht := tl_drop hk hz hst
        have hnews : ∀ j u, (dcells (ds.take k))[j]? = some u → wr.cell? (ad.add j) = some u := fun j u hj => by
          have hj2 : j < (ds.take k).length := by
            have := (List.getElem?_eq_some_iff.1 hj).1
            rw [dcells_length] at this
            exact this
          have hj3 : j < k := by simp at hj2; omega
          rw [hcell j (by omega)]
          have : (dcells (ds.take k))[j]? = some (.int .i64 ((nth (ds.take k) j : Nat) : Int)) := by
            rw [nth_eq hj2]
            simp [dcells, hj3, show j < ds.length by omega]
          rw [this] at hj
          rw [← hj, nth_take hj3]
        rcases Nat.eq_zero_or_pos k with rfl | hp
        · go_wp2
          go_ret
          refine ⟨_, rfl, ?_, Below.refl _ _⟩
          rw [trm_nil_of ht]
          exact Own.nil _ _
        · obtain ⟨j, rfl⟩ : ∃ j, k = j + 1 := ⟨k - 1, by omega⟩
          obtain ⟨b, off, e, hcj⟩ := hc j (by omega)
          cases e
          have hnz : nth ds j ≠ 0 := hst.resolve_left (by omega)
          have d2 : (((nth ds j : Nat) : Int) == 0) = false := by simp; omega
          have hsub : ((j + 1 : Nat) : Int) - 1 = (j : Int) := by omega
          have hone : ∀ u ∈ dcells (ds.take (j + 1)), u.oneCell' = true := fun u hu => by
            obtain ⟨a, _, rfl⟩ := List.mem_map.1 hu
            rfl
          have hlen : (dcells (ds.take (j + 1))).length = (j + 1) * 1 := by rw [dcells_length]; simp; omega
          go_wp2_with (at_builtin; go_must (refine wpList_append_own _ rfl (.tmp 19) (.tmp 22) 27 rfl wr.heap.size 3 i0 (.int .i64 0) 1 8 Tryd.underlying27 hi hz0 hz1 hz2 rfl (by decide) (.slice none 0 0) 0 [] rfl (World.ownsRow_nil _ _ _ _) ⟨b, off, none⟩ (j + 1) cap (dcells (ds.take (j + 1))) rfl hlen hnews hone (by unfold maxLen; omega) (by omega) (Nat.le_refl _) ?_; intro v' w1 hown' hgrow hnil))
          go_ret
          refine ⟨_, rfl, ?_, (Below.refl _ _).grown hgrow (Nat.le_refl _) (fun k hk => by cases hk)⟩
          unfold Own trm
          rw [ht]
          have e1 : (ds.take (j + 1)).length = 0 + (j + 1) := by simp; omega
          rw [e1]
          exact hown'
      · obtain ⟨hk0, hk1⟩ := not_or.1 hst
        obtain ⟨j, rfl⟩ : ∃ j, k = j + 1 := ⟨k - 1, by omega⟩
        obtain ⟨b, off, e, hcj⟩ := hc j (by omega)
        cases e
        have hz0' : nth ds j = 0 := Decidable.not_not.1 hk1
        rw [hz0'] at hcj
        clear hcell
        go_wp2
        go_roundw
        case rel => exact ⟨j, by omega, by go_num, drop_more (by omega) hz hz0', trivial⟩
        case measure => simp [intOf]

/-- A number of the reference's, as an argument and as an answer. -/
def RRes (W : World) (v : Value) (n : Nat) : Prop := ∃ ds, Digs W v ds ∧ Canon 10 ds ∧ val 10 ds = n
def RArg (W : World) (v : Value) (n : Nat) : Prop := ∃ ds, Digs W v ds ∧ Canon 10 ds ∧ val 10 ds = n ∧ ds.length ≤ 100000

theorem RRes.below {W W' : World} {v : Value} {n : Nat} (h : RRes W v n) (hb : Below W.heap.size W W') : RRes W' v n := by
  obtain ⟨xs, h1, h2⟩ := h
  exact ⟨xs, h1.below hb, h2⟩
theorem RArg.below {W W' : World} {v : Value} {n : Nat} (h : RArg W v n) (hb : Below W.heap.size W W') : RArg W' v n := by
  obtain ⟨xs, h1, h2⟩ := h
  exact ⟨xs, h1.below hb, h2⟩
theorem RArg.res {W : World} {v : Value} {n : Nat} (h : RArg W v n) : RRes W v n := by
  obtain ⟨xs, h1, h2, h3, _⟩ := h
  exact ⟨xs, h1, h2, h3⟩

theorem canon_len_of {B : Nat} (hB : 0 < B) {xs : List Nat} (hc : Canon B xs) {k : Nat} (h : val B xs < B ^ k) : xs.length ≤ k := by
  induction k generalizing xs with
  | zero =>
    rw [Nat.pow_zero] at h
    rw [hc.val_zero hB (by omega)]
    simp
  | succ k ih =>
    cases xs with
    | nil => simp
    | cons x r =>
      have : val B r < B ^ k := by
        rw [val_cons, Nat.pow_succ] at h
        have h2 : B * val B r < B * B ^ k := by rw [Nat.mul_comm B (B ^ k)]; omega
        exact Nat.lt_of_mul_lt_mul_left h2
      have := ih hc.tail this
      simp only [List.length_cons]
      omega

theorem RRes.arg {W : World} {v : Value} {n k : Nat} (h : RRes W v n) (hn : n < 10 ^ k) (hk : k ≤ 100000) : RArg W v n := by
  obtain ⟨xs, h1, h2, h3⟩ := h
  exact ⟨xs, h1, h2, h3, Nat.le_trans (canon_len_of ten_pos h2 (by rw [h3]; exact hn)) hk⟩

theorem RRes.nil (W : World) : RRes W (.slice none 0 0) 0 := ⟨[], Digs.nil W, canon_nil 10, rfl⟩

theorem Own.res {n₀ : Nat} {W : World} {v : Value} {ds : List Nat} (h : Own n₀ W v ds) (hc : Canon 10 ds) : RRes W v (val 10 ds) := ⟨ds, h.digs hc.1, hc, rfl⟩

theorem tl_snoc (ds : List Nat) (d : Nat) (h : d ≠ 0) : tl (ds ++ [d]) = (ds ++ [d]).length := by
  have := tl_of_top (ds ++ [d]) ds.length (by simp) (by simpa using h) (by simp)
  rw [this]
  simp

/-- A number that lies in memory made since the heap had so many blocks. -/
def RNew (n₀ : Nat) (W : World) (v : Value) (n : Nat) : Prop := ∃ ds, Own n₀ W v ds ∧ Canon 10 ds ∧ val 10 ds = n

theorem RNew.res {n₀ : Nat} {W : World} {v : Value} {n : Nat} (h : RNew n₀ W v n) : RRes W v n := by
  obtain ⟨ds, h1, h2, rfl⟩ := h
  exact h1.res h2

theorem RNew.mono {n₀ n₁ : Nat} {W : World} {v : Value} {n : Nat} (h : RNew n₀ W v n) (hn : n₁ ≤ n₀) : RNew n₁ W v n := by
  obtain ⟨ds, ⟨h0, h1⟩, h2⟩ := h
  refine ⟨ds, ⟨h0, ?_⟩, h2⟩
  rcases h1 with h1 | ⟨g, cap, cur, e, hg, h⟩
  · exact .inl h1
  · exact .inr ⟨g, cap, cur, e, by omega, h⟩

/-- What Trim makes of gathered digits. -/
theorem trim_res (w : World) (v : Value) (ds : List Nat) (h : Digs w v ds) (hl : ds.length ≤ 1048576) :
    Calls Tryd.prog 28 #[v] w fun e w' => ∃ rv, e = .returned rv ∧ RNew w.heap.size w' rv (val 10 ds) ∧ Below w.heap.size w w' := by
  refine (rtrim_calls w v ds h hl).mono ?_
  rintro e w' ⟨rv, rfl, ho, hb⟩
  exact ⟨rv, rfl, ⟨_, ho, canon_trm h.small, val_trm _ _⟩, hb⟩

end Go.Proofs.YtjmbblglfabefaaDoor
