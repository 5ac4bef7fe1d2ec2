/- Why a quotient's limb that is guessed by the highest limbs is right or one too great. -/
import Derived.Test.YtjmbblglfabefaaDoorNum
namespace Go.Proofs.YtjmbblglfabefaaDoor
set_option linter.unusedVariables false
set_option linter.unusedSimpArgs false

/-- A divisor and a part, cut ahead of their highest limbs. -/
structure Cut2 (B X D P v0 v1 u0 hh Dl Pl : Nat) : Prop where
  d : D = Dl + X * (v0 + B * v1)
  p : P = Pl + X * (u0 + B * hh)
  dl : Dl < X
  pl : Pl < X
  u : u0 < B
  v : 0 < v1

theorem Cut2.times {B X D P v0 v1 u0 hh Dl Pl q : Nat} (c : Cut2 B X D P v0 v1 u0 hh Dl Pl) (h : q * D ≤ P) : q * (v0 + B * v1) ≤ u0 + B * hh := by
  have hX : 0 < X := Nat.lt_of_le_of_lt (Nat.zero_le _) c.dl
  have h1 : X * (q * (v0 + B * v1)) < X * (u0 + B * hh + 1) := by
    have e : X * (q * (v0 + B * v1)) ≤ q * D := by
      rw [c.d, Nat.mul_add q Dl, Nat.mul_left_comm q X]
      exact Nat.le_add_left _ _
    have e2 : P < X * (u0 + B * hh + 1) := by
      rw [c.p, Nat.mul_add X (u0 + B * hh) 1]
      have := c.pl
      omega
    omega
  have := Nat.lt_of_mul_lt_mul_left h1
  omega

theorem Cut2.init {B X D P v0 v1 u0 hh Dl Pl : Nat} (c : Cut2 B X D P v0 v1 u0 hh Dl Pl) : P / D ≤ hh / v1 := by
  have h := c.times (Nat.div_mul_le_self P D)
  rw [Nat.le_div_iff_mul_le c.v]
  have h2 : B * (P / D * v1) < B * (hh + 1) := by
    rw [Nat.mul_add (P / D), Nat.mul_left_comm (P / D) B] at h
    rw [Nat.mul_add B hh 1]
    have := c.u
    omega
  have := Nat.lt_of_mul_lt_mul_left h2
  omega

theorem Cut2.dec {B X D P v0 v1 u0 hh Dl Pl L r : Nat} (c : Cut2 B X D P v0 v1 u0 hh Dl Pl) (hL : L * v1 + r = hh) (h : r * B + u0 < L * v0) : P / D < L := by
  rcases Nat.lt_or_ge (P / D) L with h1 | h1
  · exact h1
  · have h2 : L * D ≤ P := Nat.le_trans (Nat.mul_le_mul_right D h1) (Nat.div_mul_le_self P D)
    have h3 := c.times h2
    rw [← hL, Nat.mul_add L, Nat.mul_left_comm L B, Nat.mul_add B] at h3
    rw [Nat.mul_comm r B] at h
    omega

theorem Cut2.exit {B X D P v0 v1 u0 hh Dl Pl L r : Nat} (c : Cut2 B X D P v0 v1 u0 hh Dl Pl) (hL : L * v1 + r = hh) (h : L * v0 ≤ r * B + u0) (hB : L < B) : L ≤ P / D + 1 := by
  rcases Nat.lt_or_ge (P / D + 1) L with h1 | h1
  · exfalso
    have hX : 0 < X := Nat.lt_of_le_of_lt (Nat.zero_le _) c.dl
    have hD : X * B ≤ D := by
      have e : X * B ≤ X * (v0 + B * v1) := Nat.mul_le_mul_left X (by
        have := Nat.mul_le_mul_left B c.v
        omega)
      rw [c.d]
      omega
    have hD0 : 0 < D := Nat.lt_of_lt_of_le (Nat.mul_pos hX (by omega)) hD
    have h2 : P < (P / D + 1) * D := by
      have := Nat.lt_mul_div_succ P hD0
      rw [Nat.mul_comm] at this
      exact this
    have h3 : (P / D + 2) * D ≤ L * D := Nat.mul_le_mul_right D h1
    have h4 : (P / D + 2) * D = (P / D + 1) * D + D := by rw [Nat.add_mul, Nat.add_mul, Nat.one_mul]; omega
    have h5 : L * D ≤ L * X + P := by
      have e1 : L * (v0 + B * v1) ≤ u0 + B * hh := by
        rw [← hL, Nat.mul_add L, Nat.mul_left_comm L B, Nat.mul_add B]
        rw [Nat.mul_comm r B] at h
        omega
      have e2 : L * D = L * Dl + X * (L * (v0 + B * v1)) := by rw [c.d, Nat.mul_add, Nat.mul_left_comm L X]
      have e3 : L * Dl ≤ L * X := Nat.mul_le_mul_left L (Nat.le_of_lt c.dl)
      have e4 := Nat.mul_le_mul_left X e1
      rw [e2, c.p]
      omega
    have h6 : L * X + X ≤ X * B := by
      have := Nat.mul_le_mul_left X hB
      rw [Nat.mul_succ, Nat.mul_comm X L] at this
      exact this
    omega
  · exact h1

theorem val_top2 (B : Nat) (xs : List Nat) (n : Nat) (h : xs.length = n + 2) : val B xs = val B (xs.take n) + B ^ n * (nth xs n + B * nth xs (n + 1)) := by
  have e := val_take_nth B xs (n + 1)
  rw [List.take_of_length_le (by omega), val_take_nth] at e
  rw [e, Nat.pow_succ, Nat.mul_add, Nat.mul_assoc, Nat.add_assoc]

theorem val_top3 (B : Nat) (xs : List Nat) (n : Nat) (h : xs.length = n + 3) : val B xs = val B (xs.take n) + B ^ n * (nth xs n + B * (nth xs (n + 1) + B * nth xs (n + 2))) := by
  have e := val_take_nth B xs (n + 2)
  rw [List.take_of_length_le (by omega), val_take_nth, val_take_nth] at e
  rw [e, show n + 2 = n + 1 + 1 from rfl, Nat.pow_succ B (n + 1), Nat.pow_succ B n]
  simp only [Nat.mul_add, Nat.mul_assoc, Nat.add_assoc]

theorem cut2_of {B : Nat} {ds ps : List Nat} {n : Nat} (hd : Small B ds) (hp : Small B ps) (hB : 0 < B) (h1 : ds.length = n + 2) (h2 : ps.length = n + 3) (hv : 0 < nth ds (n + 1)) :
    Cut2 B (B ^ n) (val B ds) (val B ps) (nth ds n) (nth ds (n + 1)) (nth ps n) (nth ps (n + 1) + B * nth ps (n + 2)) (val B (ds.take n)) (val B (ps.take n)) := by
  have l1 : (ds.take n).length = n := by simp; omega
  have l2 : (ps.take n).length = n := by simp; omega
  have a := val_lt (hd.take n)
  have b := val_lt (hp.take n)
  rw [l1] at a
  rw [l2] at b
  exact ⟨val_top2 B ds n h1, val_top3 B ps n h2, a, b, hp.nth hB _, hv⟩

/-- The part's highest limb is not above the divisor's. -/
theorem top_le {B : Nat} {ds ps : List Nat} {n : Nat} (hd : Small B ds) (hB : 0 < B) (h1 : ds.length = n + 2) (h2 : ps.length = n + 3) (h : val B (ps.drop 1) < val B ds) : nth ps (n + 2) ≤ nth ds (n + 1) := by
  have e1 : B ^ (n + 1) * nth ps (n + 2) ≤ val B (ps.drop 1) := by
    have := val_take_nth B (ps.drop 1) (n + 1)
    rw [List.take_of_length_le (by simp; omega), nth_drop, show 1 + (n + 1) = n + 2 from by omega] at this
    omega
  have e2 : val B ds < B ^ (n + 1) * (nth ds (n + 1) + 1) := by
    have := val_take_nth B ds (n + 1)
    rw [List.take_of_length_le (by omega)] at this
    have hl := val_lt (hd.take (n + 1))
    rw [show (ds.take (n + 1)).length = n + 1 from by simp; omega] at hl
    rw [Nat.mul_add]
    omega
  have := Nat.lt_of_mul_lt_mul_left (Nat.lt_of_le_of_lt e1 (Nat.lt_trans h e2))
  omega

theorem quo_lt {B : Nat} {ds ps : List Nat} (hp : Small B ps) (hl : 0 < ps.length) (h : val B (ps.drop 1) < val B ds) : val B ps / val B ds < B := by
  have e : val B ps = nth ps 0 + B * val B (ps.drop 1) := by
    cases ps with
    | nil => simp at hl
    | cons p r => simp [nth, val_cons]
  have h0 : nth ps 0 < B := by
    rw [nth_eq hl]; exact hp _ (List.getElem_mem hl)
  rw [Nat.div_lt_iff_lt_mul (by omega), e]
  have := Nat.mul_le_mul_left B h
  rw [Nat.mul_succ] at this
  omega

end Go.Proofs.YtjmbblglfabefaaDoor
