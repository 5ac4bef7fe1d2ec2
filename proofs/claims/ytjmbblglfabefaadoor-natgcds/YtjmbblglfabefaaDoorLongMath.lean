/- The arithmetic of the long division: what each round keeps. -/
import Derived.Test.YtjmbblglfabefaaDoorKnuth
namespace Go.Proofs.YtjmbblglfabefaaDoor
set_option linter.unusedVariables false
set_option linter.unusedSimpArgs false

/-- What k rounds of a long division have made: rs is what is left, qs the quotient's limbs so far; there are N rounds. -/
structure LongInv (B A D N n len k : Nat) (rs qs : List Nat) : Prop where
  rl : rs.length = len
  rsm : Small B rs
  ql : qs.length = k
  qsm : Small B qs
  kN : k ≤ N
  less : val B (rs.drop (N - k)) < D
  sum : A = val B rs + B ^ (N - k) * (val B qs * D)

theorem pow_lt_mul {B n D t : Nat} (hD : D < B ^ n) (h : B ^ n * t < D) : t = 0 := by
  rcases Nat.eq_zero_or_pos t with h0 | h0
  · exact h0
  · have := Nat.mul_le_mul_left (B ^ n) h0
    omega

/-- Cutting out the part of a round. -/
theorem LongInv.cut {B A D N n len k : Nat} {rs qs : List Nat} (h : LongInv B A D N n len k rs qs) (hk : k < N) (hlen : len = N + n) (hD : D < B ^ n) :
    ∃ pre ps post, rs = pre ++ (ps ++ post) ∧ pre.length = N - 1 - k ∧ ps.length = n + 1 ∧ val B (ps.drop 1) < D ∧ val B post = 0 ∧ Small B ps := by
  refine ⟨rs.take (N - 1 - k), (rs.drop (N - 1 - k)).take (n + 1), rs.drop (N - 1 - k + (n + 1)), ?_, ?_, ?_, ?_, ?_, (h.rsm.drop _).take _⟩
  · rw [← List.drop_drop, List.take_append_drop, List.take_append_drop]
  · simp only [List.length_take, h.rl]; omega
  · simp only [List.length_take, List.length_drop, h.rl]; omega
  · have e : ((rs.drop (N - 1 - k)).take (n + 1)).drop 1 = (rs.drop (N - k)).take n := by
      rw [List.drop_take, List.drop_drop, show N - 1 - k + 1 = N - k from by omega, Nat.add_sub_cancel]
    rw [e]
    have := val_split B (rs.drop (N - k)) n (by rw [List.length_drop, h.rl]; omega)
    have := h.less
    omega
  · have hs := val_split B (rs.drop (N - k)) n (by rw [List.length_drop, h.rl]; omega)
    rw [List.drop_drop] at hs
    have hl := h.less
    rw [show N - 1 - k + (n + 1) = N - k + n from by omega]
    exact pow_lt_mul hD (by omega)

/-- A round: the part becomes its rest. -/
theorem LongInv.step {B A D N n len k qt : Nat} {rs qs pre ps post ns : List Nat} (h : LongInv B A D N n len k rs qs) (hk : k < N) (e : rs = pre ++ (ps ++ post)) (hp : pre.length = N - 1 - k) (hpl : ps.length = n + 1) (hz : val B post = 0)
    (hnl : ns.length = n + 1) (hns : Small B ns) (hq : qt < B) (hv : val B ps = val B ns + qt * D) (hlt : val B ns < D) : LongInv B A D N n len (k + 1) (pre ++ (ns ++ post)) (qt :: qs) := by
  have hps : Small B pre ∧ Small B post := by
    constructor
    · intro x hx; exact h.rsm x (by rw [e]; simp [hx])
    · intro x hx; exact h.rsm x (by rw [e]; simp [hx])
  refine ⟨?_, hps.1.append (hns.append hps.2), by simp [h.ql], ?_, by omega, ?_, ?_⟩
  · rw [← h.rl, e]; simp [hnl, hpl]
  · intro x hx
    rcases List.mem_cons.1 hx with rfl | hx
    · exact hq
    · exact h.qsm x hx
  · rw [show N - (k + 1) = pre.length from by omega, List.drop_left, val_append, hz]
    simpa using hlt
  · rw [h.sum, e, show N - (k + 1) = pre.length from by omega, show N - k = pre.length + 1 from by omega]
    simp only [val_append, hz, hv, val_cons, Nat.pow_succ, hnl, hpl]
    generalize B ^ pre.length = X
    generalize val B qs = V
    have e1 : X * ((qt + B * V) * D) = X * (qt * D) + X * B * (V * D) := by rw [Nat.add_mul, Nat.mul_add, Nat.mul_assoc X B, Nat.mul_assoc B V D]
    rw [e1]
    simp only [Nat.mul_zero, Nat.add_zero, Nat.mul_add]
    omega

theorem LongInv.done {B A D N n len : Nat} {rs qs : List Nat} (h : LongInv B A D N n len N rs qs) (hD : D < B ^ n) (hn : n ≤ len) : val B qs = A / D ∧ val B (rs.take n) = A % D := by
  have hl := h.less
  have hs := h.sum
  rw [Nat.sub_self, List.drop_zero] at hl
  rw [Nat.sub_self, Nat.pow_zero, Nat.one_mul] at hs
  have hv := val_split B rs n (by rw [h.rl]; exact hn)
  have hz : val B (rs.drop n) = 0 := pow_lt_mul hD (by omega)
  rw [hz, Nat.mul_zero, Nat.add_zero] at hv
  have hD0 : 0 < D := by omega
  rw [← hv, hs]
  constructor
  · rw [Nat.add_mul_div_right _ _ hD0, Nat.div_eq_of_lt hl, Nat.zero_add]
  · rw [Nat.add_mul_mod_self_right, Nat.mod_eq_of_lt hl]

/-- The guessed limb was right where nothing was borrowed; else it was one too great. -/
theorem limb_right {P D L M v b : Nat} (hD : 0 < D) (h1 : P / D ≤ L) (h2 : L ≤ P / D + 1) (hb : b ≤ 1) (hv : P + M * b = v + L * D) (hM : v < M) : (b = 0 → L = P / D ∧ v = P % D) ∧ (b = 1 → L = P / D + 1 ∧ v + D = P % D + M) := by
  have hm := Nat.div_add_mod P D
  have hl := Nat.mod_lt P hD
  constructor
  · rintro rfl
    have h3 : L * D ≤ P := by omega
    have h4 : L ≤ P / D := (Nat.le_div_iff_mul_le hD).2 h3
    have h5 : L = P / D := by omega
    refine ⟨h5, ?_⟩
    rw [h5, Nat.mul_comm (P / D) D] at hv
    omega
  · rintro rfl
    have h3 : ¬ L ≤ P / D := by
      intro h4
      have := Nat.mul_le_mul_right D h4
      rw [Nat.mul_comm (P / D) D] at this
      omega
    have h5 : L = P / D + 1 := by omega
    refine ⟨h5, ?_⟩
    rw [h5, Nat.add_mul, Nat.one_mul, Nat.mul_comm (P / D) D] at hv
    omega

theorem put_right {x v D M r b : Nat} (h1 : v + D = r + M) (h2 : x + M * b = v + D) (hb : b ≤ 1) (hx : x < M) (hr : r < M) : x = r := by
  have : b = 0 ∨ b = 1 := by omega
  rcases this with rfl | rfl <;> omega

/-- What is shifted out of the highest limb is less than a divisor whose highest bit is set. -/
theorem top_less {B : Nat} {rs ds : List Nat} {m n : Nat} (hrs : Small B rs) (hr : rs.length = m + 1) (hd : ds.length = n + 1) (hmn : n ≤ m) (h : nth rs m < nth ds n) : val B (rs.drop (m - n)) < val B ds := by
  have hl : (rs.drop (m - n)).length = n + 1 := by rw [List.length_drop, hr]; omega
  have e1 := val_take_nth B (rs.drop (m - n)) n
  rw [List.take_of_length_le (by omega), nth_drop, show m - n + n = m from by omega] at e1
  have hs := val_lt ((hrs.drop (m - n)).take n)
  rw [show ((rs.drop (m - n)).take n).length = n from by rw [List.length_take, hl]; omega] at hs
  have e2 := val_take_nth B ds n
  rw [List.take_of_length_le (by omega)] at e2
  have := Nat.mul_le_mul_left (B ^ n) h
  rw [Nat.mul_succ] at this
  omega

end Go.Proofs.YtjmbblglfabefaaDoor
