/- The contract of left: the list of a number times a power of two, with one limb more for what is shifted out. The contract of right: the list of a number divided by a power of two that is less than a limb. -/
import Derived.Test.YtkdhcpfmlelfcaaDoorBRows
import Derived.Test.YtkdhcpfmlelfcaaDoorDivby

/- The contract of left: the list of a number times a power of two, with one limb more for what is shifted out. -/
namespace Go.Proofs.YtkdhcpfmlelfcaaDoor
set_option linter.unusedVariables false
set_option linter.unusedSimpArgs false
open Go Go.RowKit Go.Shelf

attribute [local go_sem] Oper.semAt_some

/-- What k rounds have made of the k highest limbs. -/
def LeftInv (xs : List Nat) (rs k : Nat) (ts : List Nat) : Prop :=
  ts.length = k + 1 ∧ Small R ts ∧ val R ts = val R (xs.drop (xs.length - k)) * 2 ^ rs ∧ nth ts 0 % 2 ^ rs = 0

theorem LeftInv.zero (xs : List Nat) (rs : Nat) : LeftInv xs rs 0 [0] := ⟨rfl, fun x hx => by rw [List.mem_singleton.1 hx]; exact R_pos, by simp [val], by simp [nth]⟩

theorem pow_le31 {rs : Nat} (h : rs ≤ 31) : 2 ^ rs ≤ 2147483648 := Nat.pow_le_pow_right (n := 2) (by omega) h

theorem R_split {rs : Nat} (h : rs ≤ 31) : R = 2 ^ (32 - rs) * 2 ^ rs := by
  rw [← Nat.pow_add, show 32 - rs + rs = 32 from by omega]; rfl

theorem shifted_lt {x rs : Nat} (hx : x < R) (h : rs ≤ 31) : x * 2 ^ rs < 9223372036854775808 := by
  have h1 := pow_le31 h
  have h2 := Nat.pow_pos (n := rs) (show 0 < 2 from by omega)
  rw [R_eq] at hx
  have : x * 2 ^ rs ≤ 4294967295 * 2147483648 := Nat.mul_le_mul (by omega) h1
  omega

theorem hi_lt {x rs : Nat} (hx : x < R) : x * 2 ^ rs / 4294967296 < 2 ^ rs := by
  have h2 := Nat.pow_pos (n := rs) (show 0 < 2 from by omega)
  rw [R_eq] at hx
  rw [Nat.div_lt_iff_lt_mul (by omega), Nat.mul_comm]
  exact Nat.mul_lt_mul_of_pos_left hx h2

theorem lo_mod {x rs : Nat} (h : rs ≤ 31) : (x * 2 ^ rs % 4294967296) % 2 ^ rs = 0 := by
  have : 2 ^ rs ∣ 4294967296 := by rw [← R_eq, R_split h]; exact Nat.dvd_mul_left _ _
  rw [Nat.mod_mod_of_dvd _ this]
  exact Nat.mul_mod_left _ _

theorem join_lt {t hi rs : Nat} (h : rs ≤ 31) (ht : t < R) (hm : t % 2 ^ rs = 0) (hh : hi < 2 ^ rs) : t + hi < R := by
  have hd : 2 ^ rs ∣ t := Nat.dvd_of_mod_eq_zero hm
  obtain ⟨c, rfl⟩ := hd
  rw [R_split h, Nat.mul_comm] at ht ⊢
  have hc : c < 2 ^ (32 - rs) := by
    have h2 := Nat.pow_pos (n := rs) (show 0 < 2 from by omega)
    exact Nat.lt_of_mul_lt_mul_right (a := 2 ^ rs) ht
  have : (c + 1) * 2 ^ rs ≤ 2 ^ (32 - rs) * 2 ^ rs := Nat.mul_le_mul_right _ hc
  rw [Nat.add_mul] at this
  omega

theorem LeftInv.step {xs : List Nat} {rs k t : Nat} {rest : List Nat} (h : LeftInv xs rs k (t :: rest)) (hs : Small R xs) (hr : rs ≤ 31) (hk : k < xs.length) :
    LeftInv xs rs (k + 1) (nth xs (xs.length - 1 - k) * 2 ^ rs % 4294967296 :: (t + nth xs (xs.length - 1 - k) * 2 ^ rs / 4294967296) :: rest) := by
  obtain ⟨h1, h2, h3, h4⟩ := h
  have hx := hs.nth R_pos (xs.length - 1 - k)
  have ht : t < R := h2 t (by simp)
  have hm : t % 2 ^ rs = 0 := by simpa [nth] using h4
  refine ⟨by simp at h1 ⊢; omega, ?_, ?_, ?_⟩
  · intro y hy
    rcases List.mem_cons.1 hy with rfl | hy
    · rw [R_eq]; omega
    · rcases List.mem_cons.1 hy with rfl | hy
      · exact join_lt hr ht hm (hi_lt hx)
      · exact h2 y (by simp [hy])
  · have e : xs.drop (xs.length - (k + 1)) = nth xs (xs.length - 1 - k) :: xs.drop (xs.length - k) := by
      rw [nth_eq (by omega), List.drop_eq_getElem_cons (by omega)]
      simp only [show xs.length - (k + 1) = xs.length - 1 - k from by omega, show xs.length - 1 - k + 1 = xs.length - k from by omega]
    rw [val_cons] at h3
    have e2 : (nth xs (xs.length - 1 - k) + R * val R (xs.drop (xs.length - k))) * 2 ^ rs = nth xs (xs.length - 1 - k) * 2 ^ rs + R * (t + R * val R rest) := by rw [Nat.add_mul, Nat.mul_assoc, ← h3]
    rw [e]
    simp only [val_cons]
    rw [e2]
    generalize nth xs (xs.length - 1 - k) * 2 ^ rs = wd
    have := Nat.mod_add_div wd 4294967296
    simp only [R_eq, Nat.mul_add]
    omega
  · simp only [nth, List.getElem?_cons_zero, Option.getD_some]
    exact lo_mod hr

theorem wrap_shift {x rs wd : Nat} (h : x * 2 ^ rs = wd) (hw : wd < 9223372036854775808) : IntKind.u64.wrap ((x : Int) * 2 ^ rs) = (wd : Int) := by
  have e : (x : Int) * 2 ^ rs = ((x * 2 ^ rs : Nat) : Int) := by rw [Int.natCast_mul, Int.natCast_pow]; rfl
  rw [e, h, IntKind.wrap_u64]
  omega

theorem or_hi {t wd rs : Nat} (ht : t < 4294967296) (hw : wd < 9223372036854775808) (hm : t % 2 ^ rs = 0) (hh : wd / 4294967296 < 2 ^ rs) : bits BinOp.or IntKind.u32 (t : Int) ((wd : Int) / 4294967296) = ((t + wd / 4294967296 : Nat) : Int) := by
  have e : (wd : Int) / 4294967296 = ((wd / 4294967296 : Nat) : Int) := by omega
  rw [e, u32_or_nat _ _ ht (by omega), nat_join rs _ _ hm hh]

theorem set_two (m t a b : Nat) (rest : List Nat) (hm : 0 < m) : ((List.replicate m 0 ++ t :: rest).set m b).set (m - 1) a = List.replicate (m - 1) 0 ++ a :: b :: rest := by
  obtain ⟨m', rfl⟩ : ∃ m', m = m' + 1 := ⟨m - 1, by omega⟩
  rw [List.set_append_right _ _ (by simp), List.replicate_succ', List.append_assoc, Nat.add_sub_cancel, List.set_append_right _ _ (by simp)]
  simp

end Go.Proofs.YtkdhcpfmlelfcaaDoor

/- The contract of right: the list of a number divided by a power of two that is less than a limb. -/
namespace Go.Proofs.YtkdhcpfmlelfcaaDoor
set_option linter.unusedVariables false
set_option linter.unusedSimpArgs false
open Go Go.RowKit Go.Shelf

attribute [local go_sem] Oper.semAt_some

/-- What k rounds have made of the k highest limbs. -/
def RightInv (xs : List Nat) (n k : Nat) (ts : List Nat) (ab : Nat) : Prop :=
  ts.length = k ∧ Small R ts ∧ ab < R ∧ val R ts = val R (xs.drop (xs.length - k)) / 2 ^ n ∧ ab % 2 ^ n = val R (xs.drop (xs.length - k)) % 2 ^ n

theorem RightInv.zero (xs : List Nat) (n : Nat) : RightInv xs n 0 [] 0 := ⟨rfl, Small.nil _, R_pos, by simp [val], by simp [val]⟩

theorem pow_pos2 (n : Nat) : 0 < 2 ^ n := Nat.pow_pos (by omega)

theorem new_lt {x a n : Nat} (hn : n ≤ 31) (hx : x < R) : x / 2 ^ n + a % 2 ^ n * 2 ^ (32 - n) < R := by
  have h1 : x / 2 ^ n < 2 ^ (32 - n) := by
    rw [Nat.div_lt_iff_lt_mul (pow_pos2 n), ← R_split hn]; exact hx
  have h2 : a % 2 ^ n < 2 ^ n := Nat.mod_lt _ (pow_pos2 n)
  have h3 : (a % 2 ^ n + 1) * 2 ^ (32 - n) ≤ 2 ^ n * 2 ^ (32 - n) := Nat.mul_le_mul_right _ h2
  rw [Nat.mul_comm (2 ^ n), ← R_split hn, Nat.add_mul] at h3
  omega

theorem div_step {x V n : Nat} (hn : n ≤ 31) : (x + R * V) / 2 ^ n = x / 2 ^ n + V % 2 ^ n * 2 ^ (32 - n) + R * (V / 2 ^ n) := by
  have e : R * V = 2 ^ n * (2 ^ (32 - n) * V) := by rw [R_split hn, Nat.mul_comm (2 ^ (32 - n)), Nat.mul_assoc]
  rw [e, Nat.add_mul_div_left _ _ (pow_pos2 n)]
  have h := Nat.div_add_mod V (2 ^ n)
  have e2 : 2 ^ (32 - n) * V = R * (V / 2 ^ n) + V % 2 ^ n * 2 ^ (32 - n) := by
    conv => lhs; rw [← h]
    rw [Nat.mul_add, ← Nat.mul_assoc, ← R_split hn, Nat.mul_comm (2 ^ (32 - n)) (V % 2 ^ n)]
  rw [e2]
  omega

theorem mod_step {x V n : Nat} (hn : n ≤ 31) : (x + R * V) % 2 ^ n = x % 2 ^ n := by
  rw [R_split hn, Nat.mul_comm (2 ^ (32 - n)), Nat.mul_assoc, Nat.add_mul_mod_self_left]

theorem RightInv.step {xs ts : List Nat} {n k ab : Nat} (h : RightInv xs n k ts ab) (hs : Small R xs) (hn : n ≤ 31) (hk : k < xs.length) :
    RightInv xs n (k + 1) ((nth xs (xs.length - 1 - k) / 2 ^ n + ab % 2 ^ n * 2 ^ (32 - n)) :: ts) (nth xs (xs.length - 1 - k)) := by
  obtain ⟨h1, h2, h3, h4, h5⟩ := h
  have hx := hs.nth R_pos (xs.length - 1 - k)
  have e : xs.drop (xs.length - (k + 1)) = nth xs (xs.length - 1 - k) :: xs.drop (xs.length - k) := by
    rw [nth_eq (by omega), List.drop_eq_getElem_cons (by omega)]
    simp only [show xs.length - (k + 1) = xs.length - 1 - k from by omega, show xs.length - 1 - k + 1 = xs.length - k from by omega]
  refine ⟨by simp [h1], ?_, hx, ?_, ?_⟩
  · intro y hy
    rcases List.mem_cons.1 hy with rfl | hy
    · exact new_lt hn hx
    · exact h2 y hy
  · rw [e, val_cons, val_cons, div_step hn, h4, h5]
  · rw [e, val_cons, mod_step hn]

theorem shr_nat (x n : Nat) : (x : Int) / 2 ^ n = ((x / 2 ^ n : Nat) : Int) := by
  rw [Int.natCast_ediv, Int.natCast_pow]; rfl

theorem shl_mod {a n : Nat} (hn : n ≤ 31) : a * 2 ^ (32 - n) % 4294967296 = a % 2 ^ n * 2 ^ (32 - n) := by
  rw [← R_eq, R_split hn, Nat.mul_comm (2 ^ (32 - n)) (2 ^ n), Nat.mul_mod_mul_right]

theorem or_right {x ab n sh : Nat} (hn : n ≤ 31) (hx : x < R) (hs : ab % 2 ^ n * 2 ^ (32 - n) = sh) : bits BinOp.or IntKind.u32 ((x : Int) / 2 ^ n) (sh : Int) = ((x / 2 ^ n + sh : Nat) : Int) := by
  have h1 : x / 2 ^ n < 2 ^ (32 - n) := by
    rw [Nat.div_lt_iff_lt_mul (pow_pos2 n), ← R_split hn]; exact hx
  have h2 := new_lt (a := ab) hn hx
  rw [hs, R_eq] at h2
  have h4 : sh < 4294967296 := Nat.lt_of_le_of_lt (Nat.le_add_left _ _) h2
  have h3 : x / 2 ^ n < 4294967296 := by
    have := Nat.div_le_self x (2 ^ n); rw [R_eq] at hx; omega
  rw [shr_nat, u32_or_nat _ _ h3 h4, Nat.or_comm, nat_join (32 - n) sh _ (by rw [← hs]; exact Nat.mul_mod_left _ _) h1, Nat.add_comm]

theorem wrap_right {ab m sh : Nat} (hm : m ≤ 32) (h : ab * 2 ^ m % 4294967296 = sh) : (ab : Int) * 2 ^ min m 32 % 4294967296 = (sh : Int) := by
  have e : (ab : Int) * 2 ^ m = ((ab * 2 ^ m : Nat) : Int) := by rw [Int.natCast_mul, Int.natCast_pow]; rfl
  rw [Nat.min_eq_left hm, e, ← h]
  rfl

end Go.Proofs.YtkdhcpfmlelfcaaDoor
