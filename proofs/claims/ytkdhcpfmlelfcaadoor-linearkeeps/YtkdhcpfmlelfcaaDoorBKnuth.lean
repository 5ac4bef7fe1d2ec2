/- Why a quotient's limb that is guessed by the highest limbs is right or one too great. The contract of guess: the quotient's limb, or one more. The arithmetic of the long division: what each round keeps. -/
import Derived.Test.YtkdhcpfmlelfcaaDoorBMem
import Derived.Test.YtkdhcpfmlelfcaaDoorBTake
import Derived.Test.YtkdhcpfmlelfcaaDoorDivby
import Derived.Deep.QuietTactic
import Derived.BigQuiet

/- Why a quotient's limb that is guessed by the highest limbs is right or one too great. -/
namespace Go.Proofs.YtkdhcpfmlelfcaaDoor
set_option linter.unusedVariables false
set_option linter.unusedSimpArgs false

/-- A divisor and a part, cut ahead of their highest limbs. -/
structure Cut2 (B X D P v0 v1 u0 hh Dl Pl : Nat) : Prop where
  d : D = Dl + X * (v0 + B * v1)
  p : P = Pl + X * (u0 + B * hh)
  dl : Dl < X
  pl : Pl < X
  u : u0 < B
  v : 0 < v1

theorem Cut2.times {B X D P v0 v1 u0 hh Dl Pl q : Nat} (c : Cut2 B X D P v0 v1 u0 hh Dl Pl) (h : q * D ≤ P) : q * (v0 + B * v1) ≤ u0 + B * hh := by
  have hX : 0 < X := Nat.lt_of_le_of_lt (Nat.zero_le _) c.dl
  have h1 : X * (q * (v0 + B * v1)) < X * (u0 + B * hh + 1) := by
    have e : X * (q * (v0 + B * v1)) ≤ q * D := by
      rw [c.d, Nat.mul_add q Dl, Nat.mul_left_comm q X]
      exact Nat.le_add_left _ _
    have e2 : P < X * (u0 + B * hh + 1) := by
      rw [c.p, Nat.mul_add X (u0 + B * hh) 1]
      have := c.pl
      omega
    omega
  have := Nat.lt_of_mul_lt_mul_left h1
  omega

theorem Cut2.init {B X D P v0 v1 u0 hh Dl Pl : Nat} (c : Cut2 B X D P v0 v1 u0 hh Dl Pl) : P / D ≤ hh / v1 := by
  have h := c.times (Nat.div_mul_le_self P D)
  rw [Nat.le_div_iff_mul_le c.v]
  have h2 : B * (P / D * v1) < B * (hh + 1) := by
    rw [Nat.mul_add (P / D), Nat.mul_left_comm (P / D) B] at h
    rw [Nat.mul_add B hh 1]
    have := c.u
    omega
  have := Nat.lt_of_mul_lt_mul_left h2
  omega

theorem Cut2.dec {B X D P v0 v1 u0 hh Dl Pl L r : Nat} (c : Cut2 B X D P v0 v1 u0 hh Dl Pl) (hL : L * v1 + r = hh) (h : r * B + u0 < L * v0) : P / D < L := by
  rcases Nat.lt_or_ge (P / D) L with h1 | h1
  · exact h1
  · have h2 : L * D ≤ P := Nat.le_trans (Nat.mul_le_mul_right D h1) (Nat.div_mul_le_self P D)
    have h3 := c.times h2
    rw [← hL, Nat.mul_add L, Nat.mul_left_comm L B, Nat.mul_add B] at h3
    rw [Nat.mul_comm r B] at h
    omega

theorem Cut2.exit {B X D P v0 v1 u0 hh Dl Pl L r : Nat} (c : Cut2 B X D P v0 v1 u0 hh Dl Pl) (hL : L * v1 + r = hh) (h : L * v0 ≤ r * B + u0) (hB : L < B) : L ≤ P / D + 1 := by
  rcases Nat.lt_or_ge (P / D + 1) L with h1 | h1
  · exfalso
    have hX : 0 < X := Nat.lt_of_le_of_lt (Nat.zero_le _) c.dl
    have hD : X * B ≤ D := by
      have e : X * B ≤ X * (v0 + B * v1) := Nat.mul_le_mul_left X (by
        have := Nat.mul_le_mul_left B c.v
        omega)
      rw [c.d]
      omega
    have hD0 : 0 < D := Nat.lt_of_lt_of_le (Nat.mul_pos hX (by omega)) hD
    have h2 : P < (P / D + 1) * D := by
      have := Nat.lt_mul_div_succ P hD0
      rw [Nat.mul_comm] at this
      exact this
    have h3 : (P / D + 2) * D ≤ L * D := Nat.mul_le_mul_right D h1
    have h4 : (P / D + 2) * D = (P / D + 1) * D + D := by rw [Nat.add_mul, Nat.add_mul, Nat.one_mul]; omega
    have h5 : L * D ≤ L * X + P := by
      have e1 : L * (v0 + B * v1) ≤ u0 + B * hh := by
        rw [← hL, Nat.mul_add L, Nat.mul_left_comm L B, Nat.mul_add B]
        rw [Nat.mul_comm r B] at h
        omega
      have e2 : L * D = L * Dl + X * (L * (v0 + B * v1)) := by rw [c.d, Nat.mul_add, Nat.mul_left_comm L X]
      have e3 : L * Dl ≤ L * X := Nat.mul_le_mul_left L (Nat.le_of_lt c.dl)
      have e4 := Nat.mul_le_mul_left X e1
      rw [e2, c.p]
      omega
    have h6 : L * X + X ≤ X * B := by
      have := Nat.mul_le_mul_left X hB
      rw [Nat.mul_succ, Nat.mul_comm X L] at this
      exact this
    omega
  · exact h1

theorem val_top2 (B : Nat) (xs : List Nat) (n : Nat) (h : xs.length = n + 2) : val B xs = val B (xs.take n) + B ^ n * (nth xs n + B * nth xs (n + 1)) := by
  have e := val_take_nth B xs (n + 1)
  rw [List.take_of_length_le (by omega), val_take_nth] at e
  rw [e, Nat.pow_succ, Nat.mul_add, Nat.mul_assoc, Nat.add_assoc]

theorem val_top3 (B : Nat) (xs : List Nat) (n : Nat) (h : xs.length = n + 3) : val B xs = val B (xs.take n) + B ^ n * (nth xs n + B * (nth xs (n + 1) + B * nth xs (n + 2))) := by
  have e := val_take_nth B xs (n + 2)
  rw [List.take_of_length_le (by omega), val_take_nth, val_take_nth] at e
  rw [e, show n + 2 = n + 1 + 1 from rfl, Nat.pow_succ B (n + 1), Nat.pow_succ B n]
  simp only [Nat.mul_add, Nat.mul_assoc, Nat.add_assoc]

theorem cut2_of {B : Nat} {ds ps : List Nat} {n : Nat} (hd : Small B ds) (hp : Small B ps) (hB : 0 < B) (h1 : ds.length = n + 2) (h2 : ps.length = n + 3) (hv : 0 < nth ds (n + 1)) :
    Cut2 B (B ^ n) (val B ds) (val B ps) (nth ds n) (nth ds (n + 1)) (nth ps n) (nth ps (n + 1) + B * nth ps (n + 2)) (val B (ds.take n)) (val B (ps.take n)) := by
  have l1 : (ds.take n).length = n := by simp; omega
  have l2 : (ps.take n).length = n := by simp; omega
  have a := val_lt (hd.take n)
  have b := val_lt (hp.take n)
  rw [l1] at a
  rw [l2] at b
  exact ⟨val_top2 B ds n h1, val_top3 B ps n h2, a, b, hp.nth hB _, hv⟩

/-- The part's highest limb is not above the divisor's. -/
theorem top_le {B : Nat} {ds ps : List Nat} {n : Nat} (hd : Small B ds) (hB : 0 < B) (h1 : ds.length = n + 2) (h2 : ps.length = n + 3) (h : val B (ps.drop 1) < val B ds) : nth ps (n + 2) ≤ nth ds (n + 1) := by
  have e1 : B ^ (n + 1) * nth ps (n + 2) ≤ val B (ps.drop 1) := by
    have := val_take_nth B (ps.drop 1) (n + 1)
    rw [List.take_of_length_le (by simp; omega), nth_drop, show 1 + (n + 1) = n + 2 from by omega] at this
    omega
  have e2 : val B ds < B ^ (n + 1) * (nth ds (n + 1) + 1) := by
    have := val_take_nth B ds (n + 1)
    rw [List.take_of_length_le (by omega)] at this
    have hl := val_lt (hd.take (n + 1))
    rw [show (ds.take (n + 1)).length = n + 1 from by simp; omega] at hl
    rw [Nat.mul_add]
    omega
  have := Nat.lt_of_mul_lt_mul_left (Nat.lt_of_le_of_lt e1 (Nat.lt_trans h e2))
  omega

theorem quo_lt {B : Nat} {ds ps : List Nat} (hp : Small B ps) (hl : 0 < ps.length) (h : val B (ps.drop 1) < val B ds) : val B ps / val B ds < B := by
  have e : val B ps = nth ps 0 + B * val B (ps.drop 1) := by
    cases ps with
    | nil => simp at hl
    | cons p r => simp [nth, val_cons]
  have h0 : nth ps 0 < B := by
    rw [nth_eq hl]; exact hp _ (List.getElem_mem hl)
  rw [Nat.div_lt_iff_lt_mul (by omega), e]
  have := Nat.mul_le_mul_left B h
  rw [Nat.mul_succ] at this
  omega

end Go.Proofs.YtkdhcpfmlelfcaaDoor

/- The contract of guess: the quotient's limb, or one more. -/
namespace Go.Proofs.YtkdhcpfmlelfcaaDoor
set_option linter.unusedVariables false
set_option linter.unusedSimpArgs false
open Go Go.RowKit Go.Shelf

end Go.Proofs.YtkdhcpfmlelfcaaDoor

/- The arithmetic of the long division: what each round keeps. -/
namespace Go.Proofs.YtkdhcpfmlelfcaaDoor
set_option linter.unusedVariables false
set_option linter.unusedSimpArgs false

/-- What k rounds of a long division have made: rs is what is left, qs the quotient's limbs so far; there are N rounds. -/
structure LongInv (B A D N n len k : Nat) (rs qs : List Nat) : Prop where
  rl : rs.length = len
  rsm : Small B rs
  ql : qs.length = k
  qsm : Small B qs
  kN : k ≤ N
  less : val B (rs.drop (N - k)) < D
  sum : A = val B rs + B ^ (N - k) * (val B qs * D)

theorem pow_lt_mul {B n D t : Nat} (hD : D < B ^ n) (h : B ^ n * t < D) : t = 0 := by
  rcases Nat.eq_zero_or_pos t with h0 | h0
  · exact h0
  · have := Nat.mul_le_mul_left (B ^ n) h0
    omega

/-- Cutting out the part of a round. -/
theorem LongInv.cut {B A D N n len k : Nat} {rs qs : List Nat} (h : LongInv B A D N n len k rs qs) (hk : k < N) (hlen : len = N + n) (hD : D < B ^ n) :
    ∃ pre ps post, rs = pre ++ (ps ++ post) ∧ pre.length = N - 1 - k ∧ ps.length = n + 1 ∧ val B (ps.drop 1) < D ∧ val B post = 0 ∧ Small B ps := by
  refine ⟨rs.take (N - 1 - k), (rs.drop (N - 1 - k)).take (n + 1), rs.drop (N - 1 - k + (n + 1)), ?_, ?_, ?_, ?_, ?_, (h.rsm.drop _).take _⟩
  · rw [← List.drop_drop, List.take_append_drop, List.take_append_drop]
  · simp only [List.length_take, h.rl]; omega
  · simp only [List.length_take, List.length_drop, h.rl]; omega
  · have e : ((rs.drop (N - 1 - k)).take (n + 1)).drop 1 = (rs.drop (N - k)).take n := by
      rw [List.drop_take, List.drop_drop, show N - 1 - k + 1 = N - k from by omega, Nat.add_sub_cancel]
    rw [e]
    have := val_split B (rs.drop (N - k)) n (by rw [List.length_drop, h.rl]; omega)
    have := h.less
    omega
  · have hs := val_split B (rs.drop (N - k)) n (by rw [List.length_drop, h.rl]; omega)
    rw [List.drop_drop] at hs
    have hl := h.less
    rw [show N - 1 - k + (n + 1) = N - k + n from by omega]
    exact pow_lt_mul hD (by omega)

/-- A round: the part becomes its rest. -/
theorem LongInv.step {B A D N n len k qt : Nat} {rs qs pre ps post ns : List Nat} (h : LongInv B A D N n len k rs qs) (hk : k < N) (e : rs = pre ++ (ps ++ post)) (hp : pre.length = N - 1 - k) (hpl : ps.length = n + 1) (hz : val B post = 0)
    (hnl : ns.length = n + 1) (hns : Small B ns) (hq : qt < B) (hv : val B ps = val B ns + qt * D) (hlt : val B ns < D) : LongInv B A D N n len (k + 1) (pre ++ (ns ++ post)) (qt :: qs) := by
  have hps : Small B pre ∧ Small B post := by
    constructor
    · intro x hx; exact h.rsm x (by rw [e]; simp [hx])
    · intro x hx; exact h.rsm x (by rw [e]; simp [hx])
  refine ⟨?_, hps.1.append (hns.append hps.2), by simp [h.ql], ?_, by omega, ?_, ?_⟩
  · rw [← h.rl, e]; simp [hnl, hpl]
  · intro x hx
    rcases List.mem_cons.1 hx with rfl | hx
    · exact hq
    · exact h.qsm x hx
  · rw [show N - (k + 1) = pre.length from by omega, List.drop_left, val_append, hz]
    simpa using hlt
  · rw [h.sum, e, show N - (k + 1) = pre.length from by omega, show N - k = pre.length + 1 from by omega]
    simp only [val_append, hz, hv, val_cons, Nat.pow_succ, hnl, hpl]
    generalize B ^ pre.length = X
    generalize val B qs = V
    have e1 : X * ((qt + B * V) * D) = X * (qt * D) + X * B * (V * D) := by rw [Nat.add_mul, Nat.mul_add, Nat.mul_assoc X B, Nat.mul_assoc B V D]
    rw [e1]
    simp only [Nat.mul_zero, Nat.add_zero, Nat.mul_add]
    omega

theorem LongInv.done {B A D N n len : Nat} {rs qs : List Nat} (h : LongInv B A D N n len N rs qs) (hD : D < B ^ n) (hn : n ≤ len) : val B qs = A / D ∧ val B (rs.take n) = A % D := by
  have hl := h.less
  have hs := h.sum
  rw [Nat.sub_self, List.drop_zero] at hl
  rw [Nat.sub_self, Nat.pow_zero, Nat.one_mul] at hs
  have hv := val_split B rs n (by rw [h.rl]; exact hn)
  have hz : val B (rs.drop n) = 0 := pow_lt_mul hD (by omega)
  rw [hz, Nat.mul_zero, Nat.add_zero] at hv
  have hD0 : 0 < D := by omega
  rw [← hv, hs]
  constructor
  · rw [Nat.add_mul_div_right _ _ hD0, Nat.div_eq_of_lt hl, Nat.zero_add]
  · rw [Nat.add_mul_mod_self_right, Nat.mod_eq_of_lt hl]

/-- The guessed limb was right where nothing was borrowed; else it was one too great. -/
theorem limb_right {P D L M v b : Nat} (hD : 0 < D) (h1 : P / D ≤ L) (h2 : L ≤ P / D + 1) (hb : b ≤ 1) (hv : P + M * b = v + L * D) (hM : v < M) : (b = 0 → L = P / D ∧ v = P % D) ∧ (b = 1 → L = P / D + 1 ∧ v + D = P % D + M) := by
  have hm := Nat.div_add_mod P D
  have hl := Nat.mod_lt P hD
  constructor
  · rintro rfl
    have h3 : L * D ≤ P := by omega
    have h4 : L ≤ P / D := (Nat.le_div_iff_mul_le hD).2 h3
    have h5 : L = P / D := by omega
    refine ⟨h5, ?_⟩
    rw [h5, Nat.mul_comm (P / D) D] at hv
    omega
  · rintro rfl
    have h3 : ¬ L ≤ P / D := by
      intro h4
      have := Nat.mul_le_mul_right D h4
      rw [Nat.mul_comm (P / D) D] at this
      omega
    have h5 : L = P / D + 1 := by omega
    refine ⟨h5, ?_⟩
    rw [h5, Nat.add_mul, Nat.one_mul, Nat.mul_comm (P / D) D] at hv
    omega

theorem put_right {x v D M r b : Nat} (h1 : v + D = r + M) (h2 : x + M * b = v + D) (hb : b ≤ 1) (hx : x < M) (hr : r < M) : x = r := by
  have : b = 0 ∨ b = 1 := by omega
  rcases this with rfl | rfl <;> omega

/-- What is shifted out of the highest limb is less than a divisor whose highest bit is set. -/
theorem top_less {B : Nat} {rs ds : List Nat} {m n : Nat} (hrs : Small B rs) (hr : rs.length = m + 1) (hd : ds.length = n + 1) (hmn : n ≤ m) (h : nth rs m < nth ds n) : val B (rs.drop (m - n)) < val B ds := by
  have hl : (rs.drop (m - n)).length = n + 1 := by rw [List.length_drop, hr]; omega
  have e1 := val_take_nth B (rs.drop (m - n)) n
  rw [List.take_of_length_le (by omega), nth_drop, show m - n + n = m from by omega] at e1
  have hs := val_lt ((hrs.drop (m - n)).take n)
  rw [show ((rs.drop (m - n)).take n).length = n from by rw [List.length_take, hl]; omega] at hs
  have e2 := val_take_nth B ds n
  rw [List.take_of_length_le (by omega)] at e2
  have := Nat.mul_le_mul_left (B ^ n) h
  rw [Nat.mul_succ] at this
  omega

end Go.Proofs.YtkdhcpfmlelfcaaDoor
