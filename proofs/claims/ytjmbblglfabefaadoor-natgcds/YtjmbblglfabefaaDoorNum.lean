/- Numbers as lists of digits to a base, the lowest first: what a list is worth, lists without noughts at their end, and that these are one for each number. -/
import Derived.WalkKit
namespace Go.Proofs.YtjmbblglfabefaaDoor
set_option linter.unusedVariables false
set_option linter.unusedSimpArgs false

/-- What a list of digits is worth, the lowest first. -/
def val (B : Nat) : List Nat → Nat
  | [] => 0
  | x :: r => x + B * val B r

/-- The digit at a place; 0 beyond the end. -/
def nth (xs : List Nat) (i : Nat) : Nat := xs[i]?.getD 0
theorem nth_eq {xs : List Nat} {i : Nat} (h : i < xs.length) : nth xs i = xs[i] := by simp [nth, h]
theorem nth_ge {xs : List Nat} {i : Nat} (h : xs.length ≤ i) : nth xs i = 0 := by simp [nth, h]
theorem nth_take {xs : List Nat} {i n : Nat} (h : i < n) : nth (xs.take n) i = nth xs i := by unfold nth; rw [List.getElem?_take, if_pos h]
theorem nth_drop (xs : List Nat) (n i : Nat) : nth (xs.drop n) i = nth xs (n + i) := by unfold nth; rw [List.getElem?_drop]
theorem nth_set_same {xs : List Nat} {i : Nat} (h : i < xs.length) (v : Nat) : nth (xs.set i v) i = v := by simp [nth, h]
theorem nth_set_other (xs : List Nat) {i j : Nat} (h : i ≠ j) (v : Nat) : nth (xs.set i v) j = nth xs j := by simp [nth, h]

def Small (B : Nat) (xs : List Nat) : Prop := ∀ x ∈ xs, x < B

/-- How many digits are left without the noughts at the end. -/
def tl : List Nat → Nat
  | [] => 0
  | x :: r => if tl r = 0 then (if x = 0 then 0 else 1) else tl r + 1

def trm (xs : List Nat) : List Nat := xs.take (tl xs)

def Canon (B : Nat) (xs : List Nat) : Prop := Small B xs ∧ tl xs = xs.length

theorem val_nil (B : Nat) : val B [] = 0 := rfl
theorem val_cons (B x : Nat) (r : List Nat) : val B (x :: r) = x + B * val B r := rfl

theorem val_append (B : Nat) (xs ys : List Nat) : val B (xs ++ ys) = val B xs + B ^ xs.length * val B ys := by
  induction xs with
  | nil => simp [val]
  | cons x r ih =>
    rw [List.cons_append, val_cons, ih, val_cons, List.length_cons, Nat.pow_succ, Nat.mul_add, Nat.mul_comm (B ^ r.length) B, Nat.mul_assoc, Nat.add_assoc]

theorem val_lt {B : Nat} {xs : List Nat} (h : Small B xs) : val B xs < B ^ xs.length := by
  induction xs with
  | nil => simp [val]
  | cons x r ih =>
    have hx : x < B := h x (by simp)
    have hr : val B r < B ^ r.length := ih (fun y hy => h y (by simp [hy]))
    have : B * (val B r + 1) ≤ B * B ^ r.length := Nat.mul_le_mul_left B hr
    simp only [val_cons, List.length_cons, Nat.pow_succ, Nat.mul_comm (B ^ r.length) B]
    rw [Nat.mul_add] at this
    omega

theorem val_replicate (B n : Nat) : val B (List.replicate n 0) = 0 := by
  induction n with
  | zero => rfl
  | succ n ih => simp [List.replicate_succ, val_cons, ih]

theorem tl_le (xs : List Nat) : tl xs ≤ xs.length := by
  induction xs with
  | nil => simp [tl]
  | cons x r ih =>
    simp only [tl, List.length_cons]
    by_cases h : tl r = 0
    · rw [if_pos h]; split <;> omega
    · rw [if_neg h]; omega

theorem tl_zero_iff (xs : List Nat) : tl xs = 0 ↔ ∀ x ∈ xs, x = 0 := by
  induction xs with
  | nil => simp [tl]
  | cons x r ih =>
    simp only [tl, List.forall_mem_cons]
    by_cases h : tl r = 0
    · rw [if_pos h]
      by_cases hx : x = 0
      · simp only [hx, if_true, true_and, true_iff]; exact ih.1 h
      · simp [hx]
    · rw [if_neg h]
      constructor
      · intro h'; omega
      · intro h'; exact absurd (ih.2 h'.2) h

theorem val_of_zeros (B : Nat) {xs : List Nat} (h : ∀ x ∈ xs, x = 0) : val B xs = 0 := by
  induction xs with
  | nil => rfl
  | cons x r ih => rw [val_cons, h x (by simp), ih (fun y hy => h y (by simp [hy]))]; simp

theorem val_trm (B : Nat) (xs : List Nat) : val B (trm xs) = val B xs := by
  induction xs with
  | nil => simp [trm, tl]
  | cons x r ih =>
    unfold trm at ih ⊢
    simp only [tl]
    by_cases h : tl r = 0
    · have hz := val_of_zeros B ((tl_zero_iff r).1 h)
      rw [if_pos h]
      by_cases hx : x = 0
      · simp [hx, val_cons, hz, val_nil]
      · simp [hx, val_cons, hz, val_nil]
    · rw [if_neg h, List.take_succ_cons, val_cons, val_cons, ih]

theorem Small.nth {B : Nat} {xs : List Nat} (h : Small B xs) (hB : 0 < B) (i : Nat) : nth xs i < B := by
  by_cases hi : i < xs.length
  · rw [nth_eq hi]; exact h _ (List.getElem_mem hi)
  · rw [nth_ge (by omega)]; exact hB
theorem Small.set {B : Nat} {xs : List Nat} (h : Small B xs) (i v : Nat) (hv : v < B) : Small B (xs.set i v) := fun x hx => by
  rcases List.mem_or_eq_of_mem_set hx with h1 | h1
  · exact h x h1
  · subst h1; exact hv
theorem Small.take {B : Nat} {xs : List Nat} (h : Small B xs) (n : Nat) : Small B (xs.take n) := fun x hx => h x (List.mem_of_mem_take hx)
theorem Small.drop {B : Nat} {xs : List Nat} (h : Small B xs) (n : Nat) : Small B (xs.drop n) := fun x hx => h x (List.mem_of_mem_drop hx)
theorem Small.append {B : Nat} {xs ys : List Nat} (h : Small B xs) (k : Small B ys) : Small B (xs ++ ys) := fun x hx => (List.mem_append.1 hx).elim (h x) (k x)
theorem Small.trm {B : Nat} {xs : List Nat} (h : Small B xs) : Small B (trm xs) := h.take _
theorem Small.nil (B : Nat) : Small B [] := fun x hx => by simp at hx

theorem tl_trm (xs : List Nat) : tl (trm xs) = (trm xs).length := by
  have : ∀ xs : List Nat, tl (xs.take (tl xs)) = tl xs := by
    intro xs
    induction xs with
    | nil => rfl
    | cons x r ih =>
      by_cases h : tl r = 0
      · by_cases hx : x = 0
        · simp [tl, h, hx]
        · simp [tl, h, hx]
      · have e : tl (x :: r) = tl r + 1 := by simp [tl, h]
        rw [e, List.take_succ_cons]
        simp only [tl]
        rw [ih, if_neg h]
  unfold trm
  rw [this, List.length_take, Nat.min_eq_left (tl_le xs)]

theorem trm_length (xs : List Nat) : (trm xs).length = tl xs := by
  unfold trm; rw [List.length_take, Nat.min_eq_left (tl_le xs)]

theorem canon_trm {B : Nat} {xs : List Nat} (h : Small B xs) : Canon B (trm xs) := ⟨h.trm, tl_trm xs⟩

theorem canon_nil (B : Nat) : Canon B [] := ⟨Small.nil B, rfl⟩

theorem Canon.tail {B x : Nat} {r : List Nat} (h : Canon B (x :: r)) : Canon B r := by
  refine ⟨fun y hy => h.1 y (by simp [hy]), ?_⟩
  have h2 := h.2
  simp only [tl, List.length_cons] at h2
  by_cases hz : tl r = 0
  · rw [if_pos hz] at h2
    have := tl_le r
    split at h2 <;> omega
  · rw [if_neg hz] at h2; omega

theorem Canon.val_zero {B : Nat} {xs : List Nat} (hB : 0 < B) (h : Canon B xs) (hv : val B xs = 0) : xs = [] := by
  induction xs with
  | nil => rfl
  | cons x r ih =>
    rw [val_cons] at hv
    have h1 : val B r = 0 := by
      rcases Nat.eq_zero_or_pos (val B r) with h0 | h0
      · exact h0
      · have := Nat.mul_pos hB h0; omega
    have h2 := ih h.tail h1
    subst h2
    have h3 := h.2
    simp [tl] at h3
    omega

/-- One list for each number. -/
theorem Canon.unique {B : Nat} {xs ys : List Nat} (hB : 0 < B) (hx : Canon B xs) (hy : Canon B ys) (h : val B xs = val B ys) : xs = ys := by
  induction xs generalizing ys with
  | nil => exact (hy.val_zero hB (by rw [← h]; rfl)).symm
  | cons x r ih =>
    cases ys with
    | nil => exact hx.val_zero hB (by rw [h]; rfl)
    | cons y s =>
      rw [val_cons, val_cons] at h
      have h1 : x < B := hx.1 x (by simp)
      have h2 : y < B := hy.1 y (by simp)
      have h3 : x = y := by
        have := congrArg (· % B) h
        simpa [Nat.add_mul_mod_self_left, Nat.mod_eq_of_lt h1, Nat.mod_eq_of_lt h2] using this
      subst h3
      have h4 : val B r = val B s := Nat.eq_of_mul_eq_mul_left hB (by omega)
      rw [ih hx.tail hy.tail h4]

theorem canon_len_lt {B : Nat} {xs ys : List Nat} (hB : 0 < B) (hx : Small B xs) (hy : Canon B ys) (h : xs.length < ys.length) : val B xs < val B ys := by
  have h1 := val_lt hx
  have h2 : B ^ (ys.length - 1) ≤ val B ys := by
    have : ∀ zs : List Nat, tl zs = zs.length → zs ≠ [] → B ^ (zs.length - 1) ≤ val B zs := by
      intro zs
      induction zs with
      | nil => intro _ h; exact absurd rfl h
      | cons z r ih =>
        intro ht _
        cases r with
        | nil => simp [tl] at ht; simp [val]; omega
        | cons y s =>
          have ht' : tl (y :: s) = (y :: s).length := by
            have hle := tl_le (y :: s)
            generalize hq : (y :: s : List Nat) = q at *
            have hql : 0 < q.length := by rw [← hq]; simp
            simp only [tl, List.length_cons] at ht
            by_cases hz : tl q = 0
            · rw [if_pos hz] at ht
              by_cases hz2 : z = 0
              · rw [if_pos hz2] at ht; omega
              · rw [if_neg hz2] at ht; omega
            · rw [if_neg hz] at ht; omega
          have := ih ht' (by simp)
          simp only [List.length_cons, Nat.add_sub_cancel] at this ⊢
          rw [val_cons, Nat.pow_succ]
          have := Nat.mul_le_mul_left B this
          rw [Nat.mul_comm (B ^ s.length) B]
          omega
    exact this ys hy.2 (by intro e; subst e; simp at h)
  have h3 : B ^ xs.length ≤ B ^ (ys.length - 1) := Nat.pow_le_pow_right hB (by omega)
  omega

/-- The highest digit that differs decides. -/
theorem val_take_succ (B : Nat) (xs : List Nat) (k : Nat) (h : k < xs.length) : val B (xs.take (k + 1)) = val B (xs.take k) + B ^ k * xs[k] := by
  rw [List.take_succ_eq_append_getElem h, val_append, val_cons, val_nil]
  simp [Nat.min_eq_left (Nat.le_of_lt h)]

theorem val_split (B : Nat) (xs : List Nat) (k : Nat) (h : k ≤ xs.length) : val B xs = val B (xs.take k) + B ^ k * val B (xs.drop k) := by
  have := val_append B (xs.take k) (xs.drop k)
  rw [List.take_append_drop, List.length_take, Nat.min_eq_left h] at this
  exact this

theorem lt_of_top {B : Nat} {xs ys : List Nat} (hx : Small B xs) (k : Nat) (h1 : k < xs.length) (h2 : k < ys.length) (hd : xs.drop (k + 1) = ys.drop (k + 1)) (hk : xs[k] < ys[k]) : val B xs < val B ys := by
  rw [val_split B xs (k + 1) h1, val_split B ys (k + 1) h2, hd, val_take_succ B xs k h1, val_take_succ B ys k h2]
  have h3 := val_lt (hx.take k)
  rw [List.length_take, Nat.min_eq_left (Nat.le_of_lt h1)] at h3
  have h4 : B ^ k * (xs[k] + 1) ≤ B ^ k * ys[k] := Nat.mul_le_mul_left _ hk
  rw [Nat.mul_add] at h4
  omega

theorem tl_of_top (xs : List Nat) (i : Nat) (h : i < xs.length) (h1 : xs[i] ≠ 0) (h2 : ∀ x ∈ xs.drop (i + 1), x = 0) : tl xs = i + 1 := by
  induction xs generalizing i with
  | nil => simp at h
  | cons x r ih =>
    cases i with
    | zero =>
      have : tl r = 0 := (tl_zero_iff r).2 (by simpa using h2)
      simp at h1
      simp [tl, this, h1]
    | succ i =>
      have := ih i (by simpa using h) (by simpa using h1) (by simpa using h2)
      simp [tl, this]

theorem val_take_nth (B : Nat) (xs : List Nat) (k : Nat) : val B (xs.take (k + 1)) = val B (xs.take k) + B ^ k * nth xs k := by
  by_cases h : k < xs.length
  · rw [val_take_succ B xs k h, nth_eq h]
  · rw [nth_ge (by omega), List.take_of_length_le (by omega), List.take_of_length_le (by omega)]; simp

theorem val_snoc (B : Nat) (xs : List Nat) (v : Nat) : val B (xs ++ [v]) = val B xs + B ^ xs.length * v := by rw [val_append, val_cons, val_nil]; simp

theorem set_mid (xs : List Nat) (z : Nat) (m v : Nat) (hm : 0 < m) : (xs ++ List.replicate m z).set xs.length v = (xs ++ [v]) ++ List.replicate (m - 1) z := by
  obtain ⟨m', rfl⟩ : ∃ m', m = m' + 1 := ⟨m - 1, by omega⟩
  rw [List.replicate_succ, List.set_append_right _ _ (Nat.le_refl _)]
  simp

/-- One step of a sum with a carry. -/
theorem carry_step {B P X Y c s x y : Nat} (h : s + P * c = X + Y) : s + P * ((x + y + c) % B) + P * B * ((x + y + c) / B) = (X + P * x) + (Y + P * y) := by
  have h1 : P * ((x + y + c) % B) + P * B * ((x + y + c) / B) = P * (x + y + c) := by
    rw [Nat.mul_assoc, ← Nat.mul_add, Nat.mod_add_div]
  rw [Nat.add_assoc, h1, Nat.mul_add, Nat.mul_add]
  omega

theorem val_set (B : Nat) (zs : List Nat) (k v : Nat) (h : k < zs.length) : val B (zs.set k v) + B ^ k * nth zs k = val B zs + B ^ k * v := by
  have e : zs.set k v = zs.take k ++ v :: zs.drop (k + 1) := List.set_eq_take_append_cons_drop.trans (if_pos h)
  have e2 : zs = zs.take k ++ nth zs k :: zs.drop (k + 1) := by rw [nth_eq h]; simp
  have hl : (zs.take k).length = k := by simp; omega
  generalize nth zs k = u at *
  rw [e]
  conv => rhs; rw [e2]
  rw [val_append, val_append, hl, val_cons, val_cons, Nat.mul_add, Nat.mul_add]
  omega

end Go.Proofs.YtjmbblglfabefaaDoor
