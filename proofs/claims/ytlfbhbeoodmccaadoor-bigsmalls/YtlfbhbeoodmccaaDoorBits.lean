/- The contract of Bits: how many binary digits a number has. -/
import Derived.Test.YtlfbhbeoodmccaaDoorLaw0
import Derived.Test.YtlfbhbeoodmccaaDoorLz
import Derived.Test.YtlfbhbeoodmccaaDoorBitsMath
namespace Go.Proofs.YtlfbhbeoodmccaaDoor
set_option linter.unusedVariables false
set_option linter.unusedSimpArgs false
set_option maxRecDepth 100000
open Go Go.RowKit Go.Shelf Go.Lib

attribute [local go_sem] Oper.semAt_some

/-- The count by the highest limb that isn't 0. -/
def bitsOf (zs : List Nat) : Nat := if tl zs = 0 then 0 else (tl zs - 1) * 32 + Lib.bitLen (nth zs (tl zs - 1))

theorem R_two : R = 2 ^ 32 := by decide

theorem isBits_top {zs : List Nat} {i : Nat} (hs : Small R zs) (hi : i < zs.length) (ht : tl zs = i + 1) (hx : 0 < nth zs i) : IsBits (val R zs) (i * 32 + Lib.bitLen (nth zs i)) := by
  have hlt := hs.nth R_pos i
  rw [R_eq] at hlt
  obtain ⟨b1, b2, b3, b4⟩ := len_bounds hx hlt
  have e1 : val R zs = val R (zs.take i) + R ^ i * nth zs i := by
    rw [← val_take_nth, ← val_trm R zs]
    unfold trm
    rw [ht]
  have e2 : val R (zs.take i) < R ^ i := by
    have := val_lt (hs.take i)
    rw [List.length_take, Nat.min_eq_left (by omega)] at this
    exact this
  have e3 : R ^ i = 2 ^ (i * 32) := by rw [R_two, ← Nat.pow_mul, Nat.mul_comm]
  generalize nth zs i = x at *
  generalize Lib.bitLen x = b at *
  refine ⟨?_, .inr ?_⟩
  · rw [Nat.pow_add, ← e3, e1]
    have : R ^ i * (x + 1) ≤ R ^ i * 2 ^ b := Nat.mul_le_mul_left _ b4
    rw [Nat.mul_add] at this
    omega
  · rw [show i * 32 + b - 1 = i * 32 + (b - 1) from by omega, Nat.pow_add, ← e3, e1]
    have : R ^ i * 2 ^ (b - 1) ≤ R ^ i * x := Nat.mul_le_mul_left _ b3
    omega

theorem isBits_of {zs : List Nat} (hs : Small R zs) : IsBits (val R zs) (bitsOf zs) := by
  unfold bitsOf
  by_cases h : tl zs = 0
  · rw [if_pos h]
    have : val R zs = 0 := val_of_zeros R ((tl_zero_iff zs).1 h)
    rw [this]
    exact ⟨by decide, .inl rfl⟩
  · rw [if_neg h]
    have hle := tl_le zs
    have ht : tl zs = tl zs - 1 + 1 := by omega
    have hpos : 0 < nth zs (tl zs - 1) := by
      have h1 := tl_trm zs
      rcases Nat.eq_zero_or_pos (nth zs (tl zs - 1)) with h0 | h0
      · have hz : trm zs = trm zs := rfl
        have h2 : trm (zs.take (tl zs - 1)) = trm zs := by
          have hcan := canon_trm hs
          have hcan2 := canon_trm (hs.take (tl zs - 1))
          refine hcan2.unique R_pos hcan ?_
          rw [val_trm, val_trm]
          have e1 : val R zs = val R (zs.take (tl zs - 1)) + R ^ (tl zs - 1) * nth zs (tl zs - 1) := by
            rw [← val_take_nth, ← ht, ← val_trm R zs]
            rfl
          rw [e1, h0]
          simp
        have h3 := congrArg List.length h2
        rw [trm_length, trm_length] at h3
        have h4 := tl_le (zs.take (tl zs - 1))
        rw [List.length_take] at h4
        omega
      · exact h0
    exact isBits_top hs (by omega) ht hpos

set_option maxRecDepth 100000 in
set_option maxHeartbeats 2000000 in
theorem bits_calls (w : World) (ao : Option Addr) (cap : Nat) (zs : List Nat) (h : Limbs w (.slice ao zs.length cap) zs) (hlen : zs.length ≤ 1048576) :
    Calls Tryd.prog 36 #[.slice ao zs.length cap] w fun e w' => e = .returned (.int .i64 (bitsOf zs : Int)) ∧ Below w.heap.size w w' := by
  obtain ⟨ao', cap', e, h1, h2, h3, h4⟩ := id h
  cases e
  refine (callsIn_wide (n := 3)).1 ?_
  refine callsIn_of_wp_marks Tryd.func36 rfl trivial ?_ rfl
  simp only [Tryd.ntmps36, List.size_toArray, List.length_cons, List.length_nil, Nat.reduceAdd, Nat.reduceSub, Array.replicate_succ, Array.replicate_zero, List.push_toArray, List.append_toArray, List.nil_append, List.cons_append]
  gi_wp2_with (refine ⟨trivial, ?_⟩; gi_at_call 61; refine (callsIn_wide.2 (fromTop_calls _ _ ⟨_, _, _, rfl⟩)).mono ?_; rintro e w' ⟨rfl, rfl⟩)
  have b1 := Boxed.new w 3 (.int .i64 0)
  have b2 := Boxed.new (w.alloc (.cells #[.int .i64 0] 3)) 22 (.slice ao zs.length cap)
  simp only [World.size_alloc] at b2
  have hB0 : Below w.heap.size w ((w.alloc (.cells #[.int .i64 0] 3)).alloc (.cells #[.slice ao zs.length cap] 22)) :=
    ((Below.refl _ w).alloc (Nat.le_refl _) _).alloc (by simp) _
  refine range_known (gf := 80) (lb := #[.pointer (some ⟨w.heap.size + 1, 0, none⟩)]) rfl (enters_of Tryd.func80 (by kernel_rfl) rfl)
    (top_hands (w.heap.size + 1) ao zs.length cap (fun k => ((nth zs (zs.length - 1 - k) : Nat) : Int)) (by omega)) (fun _ => rfl)
    (fun k W => (Boxed W w.heap.size 3 (.int .i64 0) ∧ Boxed W (w.heap.size + 1) 22 (.slice ao zs.length cap) ∧ (∀ x ∈ zs.drop (zs.length - k), x = 0)) ∧ Below w.heap.size w W)
    (fun c k W => (c = .ret ∧ Boxed W w.heap.size 3 (.int .i64 (bitsOf zs : Int))) ∧ Below w.heap.size w W)
    (OwnFrom.and (OwnFrom.and (own_boxed _ _ _ _) (OwnFrom.and (own_boxed _ _ _ _) (ownFrom_pure _ _))) (ownFrom_below (Nat.le_refl _) (by simp; omega)))
    (fun c => OwnFrom.and (OwnFrom.and (ownFrom_pure _ _) (own_boxed _ _ _ _)) (ownFrom_below (Nat.le_refl _) (by simp; omega)))
    ?know ⟨⟨b1.alloc _, b2, by simp⟩, hB0⟩
    (fun k => { tmps := #[.slice ao zs.length cap, undef, .pointer (some ⟨w.heap.size, 0, none⟩), .int .i64 ((zs.length : Int) - 1 - k), .int .u32 ((nth zs (zs.length - 1 - k) : Nat) : Int), .slice ao zs.length cap, .func (.func 80) #[] #[.pointer (some ⟨w.heap.size + 1, 0, none⟩)], .int .i64 ((zs.length : Int) - 1 - k), .int .u32 ((nth zs (zs.length - 1 - k) : Nat) : Int), undef, undef, undef, undef, undef, undef, undef], defers := [] }) ?assign ?body ?done ?stop
  case know =>
    rintro k W ⟨⟨_, hb, _⟩, hB⟩
    refine ⟨hb.cell, fun hk => ?_⟩
    obtain ⟨b, off, e, hc⟩ := h4 (zs.length - 1 - k) (by omega)
    exact ⟨b, off, e, (hB.cell (p := ⟨b, off + (zs.length - 1 - k), none⟩) (block_lt_of_cell hc)).trans hc⟩
  case assign =>
    intro l k W K hk hK
    gi_wp2
    exact hK
  case body =>
    rintro l k W hk ⟨⟨hb1, hb2, hz⟩, hB⟩
    have c1 := hb1.cell
    have f1 := hb1.frozen
    by_cases hv : nth zs (zs.length - 1 - k) = 0
    · have hv' : (((nth zs (zs.length - 1 - k) : Nat) : Int) != 0) = false := by simp [hv]
      have Hv := hide hv
      clear hv
      gi_wp2
      exact ⟨KeepsFrom.refl _ _, ⟨hb1, hb2, drop_zero_step hk hz Hv.out⟩, hB⟩
    · have hv' : (((nth zs (zs.length - 1 - k) : Nat) : Int) != 0) = true := by simp; omega
      have hR := h3.nth R_pos (zs.length - 1 - k)
      rw [R_eq] at hR
      have ht : tl zs = zs.length - 1 - k + 1 := tl_of_top zs (zs.length - 1 - k) (by omega) (by rw [nth_eq (by omega)] at hv; exact hv) (by rw [show zs.length - 1 - k + 1 = zs.length - k from by omega]; exact hz)
      obtain ⟨hl1, hl2, _, _⟩ := len_bounds (Nat.pos_of_ne_zero hv) hR
      have Ht : Hid (bitsOf zs = (zs.length - 1 - k) * 32 + Lib.bitLen (nth zs (zs.length - 1 - k))) := by
        show bitsOf zs = _
        unfold bitsOf
        rw [ht, if_neg (by omega)]
        rfl
      clear ht hv
      gi_wp2_with (refine ⟨trivial, ?_⟩; gi_at_call 62; refine (callsIn_wide.2 (len32_calls _ _ (by omega) (by omega))).mono ?_; rintro e w' ⟨rfl, rfl⟩; rw [Int.toNat_natCast])
      refine ⟨(KeepsOthers.setCell _ _ _).from _, ⟨rfl, ?_⟩, hB.setCell (p := ⟨w.heap.size, 0, none⟩) (by simp) _⟩
      have e5 : ((bitsOf zs : Nat) : Int) = ((zs.length : Int) - 1 - (k : Int)) * 32 + (Lib.bitLen (nth zs (zs.length - 1 - k)) : Int) := by
        rw [Ht.out]
        omega
      rw [e5]
      exact hb1.set _
  case done =>
    rintro D W hD ⟨⟨hb1, hb2, hz⟩, hB⟩ hK
    have c1 := hb1.cell
    have f1 := hb1.frozen
    have ht : Hid (bitsOf zs = 0) := by
      show bitsOf zs = 0
      unfold bitsOf
      rw [if_pos ((tl_zero_iff zs).2 (by simpa using hz))]
    gi_wp2
    have hb3 := hb1.set (.int .i64 0)
    have hK' := (KeepsOthers.setCell W ⟨w.heap.size, 0, none⟩ (.int .i64 0)).same D _ hK rfl
    refine ⟨by simp, .inl ⟨_, _, rfl, run_takeDeferred hK', ?_⟩⟩
    have hc5 := cell_kept hb3.cell (grownBy_putObj' _ D (.deferred none)) (fun r e => by cases e; exact ⟨_, hK', rfl⟩)
    refine ⟨.int .i64 0, ?_, by rw [ht.out]; rfl, (hB.setCell (p := ⟨w.heap.size, 0, none⟩) (by simp) _).trans (belowK_b (w := w) (Nat.le_refl _) _ D _ _ (by simp at hD; omega) hK' rfl rfl)⟩
    simp [results, Tryd.f36, go_sem, hc5]
  case stop =>
    rintro D c k W hD hk ⟨⟨rfl, hb1⟩, hB⟩ hK
    gi_wp2
    refine ⟨by simp, .inl ⟨_, _, rfl, run_takeDeferred hK, ?_⟩⟩
    have hc5 := cell_kept hb1.cell (grownBy_putObj' _ D (.deferred none)) (fun r e => by cases e; exact ⟨_, hK, rfl⟩)
    refine ⟨.int .i64 (bitsOf zs : Int), ?_, rfl, hB.trans (belowK_b (w := w) (Nat.le_refl _) W D _ _ (by simp at hD; omega) hK rfl rfl)⟩
    simp [results, Tryd.f36, go_sem, hc5]

theorem bits_res {w : World} {sv : Value} {m : Nat} (hx : Arg w sv m) :
    Calls Tryd.prog 36 #[sv] w fun e w' => ∃ c : Nat, e = .returned (.int .i64 (c : Int)) ∧ IsBits m c ∧ Below w.heap.size w w' := by
  obtain ⟨xs, h1, h2, rfl⟩ := hx
  obtain ⟨ao, cap, rfl⟩ := h1.len
  refine (bits_calls w ao cap xs h1 h2).mono ?_
  rintro e w' ⟨rfl, hb⟩
  exact ⟨_, rfl, isBits_of h1.small, hb⟩

end Go.Proofs.YtlfbhbeoodmccaaDoor
