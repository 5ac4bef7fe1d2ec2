/- Sums as lists of variables with their numbers: how often a variable is there, the one form, values. -/
import Derived.Test.YtbjolmgobeagoaaGreatDoorBigMem
namespace Go.Proofs.YtbjolmgobeagoaaGreatDoor
set_option linter.unusedVariables false
set_option linter.unusedSimpArgs false
open Go Go.RowKit Go.Shelf Go.Lib

theorem pl_add {x y : Int} {k : Nat} (h : x.natAbs < R ^ k) (g : y.natAbs < R ^ k) : (x + y).natAbs < R ^ (k + 1) := by
  have h1 := Int.natAbs_add_le x y
  have h2 : R ^ (k + 1) = R ^ k * R := rfl
  have h3 : 2 ≤ R := by rw [R_eq]; decide
  have h4 := Nat.mul_le_mul_left (R ^ k) h3
  omega

/-- Parts: variables with their numbers. -/
abbrev Ps := List (Int × Int)
/-- How many times a variable is there. -/
def cf (v : Int) : Ps → Int
  | [] => 0
  | p :: r => (if p.1 = v then p.2 else 0) + cf v r
/-- The one form: rising, none 0 times. -/
def NF (l : Ps) : Prop := l.Pairwise (fun a b => a.1 < b.1) ∧ ∀ p ∈ l, p.2 ≠ 0

theorem cf_nil (v : Int) : cf v [] = 0 := rfl
theorem cf_cons (v : Int) (p : Int × Int) (r : Ps) : cf v (p :: r) = (if p.1 = v then p.2 else 0) + cf v r := rfl
theorem cf_append (v : Int) (a b : Ps) : cf v (a ++ b) = cf v a + cf v b := by
  induction a with
  | nil => simp [cf]
  | cons p r ih => simp only [List.cons_append, cf_cons, ih]; omega
theorem cf_none {v : Int} {l : Ps} (h : ∀ p ∈ l, p.1 ≠ v) : cf v l = 0 := by
  induction l with
  | nil => rfl
  | cons p r ih =>
    rw [cf_cons, if_neg (h p (by simp)), ih (fun q hq => h q (by simp [hq]))]
    rfl
theorem cf_perm {a b : Ps} (h : a.Perm b) (v : Int) : cf v a = cf v b := by
  induction h with
  | nil => rfl
  | cons x _ ih => rw [cf_cons, cf_cons, ih]
  | swap x y l => simp only [cf_cons]; omega
  | trans _ _ h1 h2 => rw [h1, h2]
theorem cf_scale (v n : Int) (l : Ps) : cf v (l.map fun p => (p.1, p.2 * n)) = cf v l * n := by
  induction l with
  | nil => simp [cf]
  | cons p r ih =>
    rw [List.map_cons, cf_cons, cf_cons, ih, Int.add_mul]
    by_cases h : p.1 = v
    · simp [h]
    · simp [h]
theorem cf_without (v u : Int) (l : Ps) : cf u (l.filter fun p => decide (p.1 ≠ v)) = if u = v then 0 else cf u l := by
  induction l with
  | nil => simp [cf]
  | cons p r ih =>
    by_cases h : p.1 = v
    · rw [List.filter_cons_of_neg (by simp [h]), ih, cf_cons]
      by_cases hu : u = v
      · simp [hu]
      · rw [if_neg hu, if_neg hu, if_neg (by omega)]; omega
    · rw [List.filter_cons_of_pos (by simp [h]), cf_cons, ih, cf_cons]
      by_cases hu : u = v
      · rw [if_pos hu, if_pos hu, if_neg (by omega)]; rfl
      · rw [if_neg hu, if_neg hu]
theorem cf_nonzero (u : Int) (l : Ps) : cf u (l.filter fun p => decide (p.2 ≠ 0)) = cf u l := by
  induction l with
  | nil => rfl
  | cons p r ih =>
    by_cases h : p.2 = 0
    · rw [List.filter_cons_of_neg (by simp [h]), ih, cf_cons, h]; split <;> omega
    · rw [List.filter_cons_of_pos (by simp [h]), cf_cons, cf_cons, ih]

theorem NF.tail {p : Int × Int} {r : Ps} (h : NF (p :: r)) : NF r := ⟨(List.pairwise_cons.1 h.1).2, fun q hq => h.2 q (by simp [hq])⟩
theorem NF.head {p : Int × Int} {r : Ps} (h : NF (p :: r)) : ∀ q ∈ r, p.1 < q.1 := (List.pairwise_cons.1 h.1).1
theorem NF.cf_head {p : Int × Int} {r : Ps} (h : NF (p :: r)) : cf p.1 (p :: r) = p.2 := by
  rw [cf_cons, if_pos rfl, cf_none (fun q hq => by have := h.head q hq; omega)]; omega
theorem NF.nil : NF [] := ⟨List.Pairwise.nil, fun p hp => by cases hp⟩
theorem nf_unique : ∀ {a b : Ps}, NF a → NF b → (∀ v, cf v a = cf v b) → a = b
  | [], [], _, _, _ => rfl
  | [], q :: s, ha, hb, h => by
    have h1 := h q.1
    rw [hb.cf_head] at h1
    exact absurd h1.symm (hb.2 q (by simp))
  | p :: r, [], ha, hb, h => by
    have h1 := h p.1
    rw [ha.cf_head] at h1
    exact absurd h1 (ha.2 p (by simp))
  | p :: r, q :: s, ha, hb, h => by
    have hp := ha.2 p (by simp)
    have hq := hb.2 q (by simp)
    have e1 : p.1 = q.1 := by
      rcases Int.lt_trichotomy p.1 q.1 with hlt | he | hlt
      · have h1 := h p.1
        rw [ha.cf_head, cf_cons, if_neg (by omega), cf_none (fun x hx => by have := hb.head x hx; omega)] at h1
        omega
      · exact he
      · have h1 := h q.1
        rw [hb.cf_head, cf_cons, if_neg (by omega), cf_none (fun x hx => by have := ha.head x hx; omega)] at h1
        omega
    have e2 : p.2 = q.2 := by
      have h1 := h p.1
      rw [ha.cf_head, e1, hb.cf_head] at h1
      exact h1
    have e3 : p = q := Prod.ext e1 e2
    subst e3
    have : r = s := nf_unique ha.tail hb.tail (fun v => by
      have h1 := h v
      rw [cf_cons, cf_cons] at h1
      omega)
    rw [this]

theorem nf_mem {l : Ps} (h : NF l) {p : Int × Int} (hp : p ∈ l) : cf p.1 l = p.2 := by
  induction l with
  | nil => cases hp
  | cons q r ih =>
    rcases List.mem_cons.1 hp with rfl | hp
    · exact h.cf_head
    · rw [cf_cons, if_neg (by have := h.head p hp; omega), ih h.tail hp]; omega
theorem cf_bound {k : Nat} {l : Ps} (h : ∀ p ∈ l, p.2.natAbs < R ^ k) (v : Int) : (cf v l).natAbs < R ^ (k + l.length) := by
  induction l with
  | nil => show (0 : Int).natAbs < R ^ (k + 0); exact Nat.pow_pos R_pos
  | cons p r ih =>
    have h1 := ih (fun q hq => h q (by simp [hq]))
    have h2 : (if p.1 = v then p.2 else 0).natAbs < R ^ (k + r.length) := by
      split
      · exact lt_up (h p (by simp)) (by omega)
      · exact Nat.pow_pos R_pos
    rw [cf_cons, List.length_cons, ← Nat.add_assoc]
    exact pl_add h2 h1
theorem nf_filter {l : Ps} (f : Int × Int → Bool) (h : NF l) : NF (l.filter f) := ⟨h.1.filter _, fun p hp => h.2 p ((List.mem_filter.1 hp).1)⟩
theorem nf_scale {l : Ps} {n : Int} (h : NF l) (hn : n ≠ 0) : NF (l.map fun p => (p.1, p.2 * n)) := by
  refine ⟨List.pairwise_map.2 h.1, fun p hp => ?_⟩
  obtain ⟨q, hq, rfl⟩ := List.mem_map.1 hp
  exact Int.mul_ne_zero (h.2 q hq) hn
theorem nf_length {a b : Ps} (ha : NF a) (h : ∀ v, cf v a = cf v b) : a.length ≤ b.length := by
  induction a generalizing b with
  | nil => simp
  | cons p r ih =>
    have hp := ha.2 p (by simp)
    have h1 := ih (b := b.filter fun q => decide (q.1 ≠ p.1)) ha.tail (fun v => by
      rw [cf_without]
      by_cases hv : v = p.1
      · rw [if_pos hv, hv]
        exact cf_none (fun q hq => by have := ha.head q hq; omega)
      · rw [if_neg hv, ← h v, cf_cons, if_neg (by omega)]; omega)
    have h2 : (b.filter fun q => decide (q.1 ≠ p.1)).length < b.length := by
      apply Nat.lt_of_le_of_ne (List.length_filter_le _ _)
      intro e
      have h3 := List.length_filter_eq_length_iff.1 e
      have h4 : cf p.1 b = 0 := cf_none (fun q hq => by simpa using h3 q hq)
      rw [← h p.1, ha.cf_head] at h4
      exact hp h4
    rw [List.length_cons]
    omega

/-- A sum's value without its number. -/
def ev (f : Int → Int) : Ps → Int
  | [] => 0
  | p :: r => p.2 * f p.1 + ev f r
theorem ev_cons (f : Int → Int) (p : Int × Int) (r : Ps) : ev f (p :: r) = p.2 * f p.1 + ev f r := rfl
theorem ev_append (f : Int → Int) (a b : Ps) : ev f (a ++ b) = ev f a + ev f b := by
  induction a with
  | nil => simp [ev]
  | cons p r ih => simp only [List.cons_append, ev_cons, ih]; omega
theorem ev_scale (f : Int → Int) (n : Int) (l : Ps) : ev f (l.map fun p => (p.1, p.2 * n)) = ev f l * n := by
  induction l with
  | nil => simp [ev]
  | cons p r ih =>
    rw [List.map_cons, ev_cons, ev_cons, ih, Int.add_mul]
    congr 1
    show p.2 * n * f p.1 = p.2 * f p.1 * n
    rw [Int.mul_assoc, Int.mul_comm n, Int.mul_assoc]
theorem ev_split (f : Int → Int) (v : Int) (l : Ps) : ev f l = cf v l * f v + ev f (l.filter fun p => decide (p.1 ≠ v)) := by
  induction l with
  | nil => simp [ev, cf]
  | cons p r ih =>
    by_cases h : p.1 = v
    · rw [List.filter_cons_of_neg (by simp [h]), ev_cons, ih, cf_cons, if_pos h, Int.add_mul, h, Int.add_assoc]
    · rw [List.filter_cons_of_pos (by simp [h]), ev_cons, ev_cons, ih, cf_cons, if_neg h, Int.zero_add]
      omega
theorem ev_zero (f : Int → Int) : ∀ (n : Nat) (l : Ps), l.length ≤ n → (∀ v, cf v l = 0) → ev f l = 0
  | _, [], _, _ => rfl
  | 0, p :: r, hn, _ => by simp at hn
  | n + 1, p :: r, hn, h => by
    rw [ev_split f p.1, h p.1, Int.zero_mul, Int.zero_add]
    refine ev_zero f n _ ?_ (fun v => by rw [cf_without]; (split; rfl; exact h v))
    rw [List.filter_cons_of_neg (by simp)]
    have := List.length_filter_le (fun q : Int × Int => decide (q.1 ≠ p.1)) r
    simp only [List.length_cons] at hn
    omega
theorem ev_same (f : Int → Int) {a b : Ps} (h : ∀ v, cf v a = cf v b) : ev f a = ev f b := by
  have h1 := ev_zero f (a ++ b.map fun p : Int × Int => (p.1, p.2 * (-1))).length (a ++ b.map fun p : Int × Int => (p.1, p.2 * (-1))) (Nat.le_refl _) (fun v => by rw [cf_append, cf_scale, h v]; omega)
  rw [ev_append, ev_scale] at h1
  omega

end Go.Proofs.YtbjolmgobeagoaaGreatDoor
