/- Numbers as texts of decimal digits: what a text is worth, the digits of a number group by group, a list without noughts at its end by its worth. -/
import Derived.Test.YtkdhcpfmlelfcaaDoorBText
namespace Go.Proofs.YtkdhcpfmlelfcaaDoor
set_option linter.unusedVariables false
set_option linter.unusedSimpArgs false
open Go Go.RowKit Go.Shelf Go.Lib

/-- The bytes of a string, as numbers. -/
def bl (s : ByteArray) : List Nat := s.data.toList.map UInt8.toNat

theorem bl_length (s : ByteArray) : (bl s).length = s.size := by
  unfold bl
  rw [List.length_map, Array.length_toList]
  rfl

theorem bl_lt (s : ByteArray) (j : Nat) : nth (bl s) j < 256 := by
  unfold nth
  cases h : (bl s)[j]? with
  | none => simp
  | some x =>
    have hm := List.mem_of_getElem? h
    obtain ⟨u, _, rfl⟩ := List.mem_map.1 hm
    exact u.toNat_lt

/-- A byte of a string, for the walk to take. -/
theorem idx_at (s : ByteArray) (j : Nat) (hj : j < s.size) (w : World) :
    (Instr.index 9 (.string s) (.int .i64 (j : Int))).run Tryd.prog w = .ok (.int .u8 ((nth (bl s) j : Nat) : Int)) w := by
  have hd := Lib.getD_at s j hj
  rw [run_index_string w 9 s .i64 _ Tryd.underlying9, dif_pos ⟨by omega, by omega⟩]
  simp only [Int.toNat_natCast]
  have e : (s[j]'hj).toNat = nth (bl s) j := by
    rw [hd]
    unfold nth bl
    simp only [List.getD, List.getElem?_map]
    cases s.data.toList[j]? <;> rfl
  rw [← e]

theorem byte_at (s : ByteArray) (j : Nat) (hj : j < s.size) : (s[j]'hj).toNat = nth (bl s) j := by
  rw [Lib.getD_at s j hj]
  unfold nth bl
  simp only [List.getD, List.getElem?_map]
  cases s.data.toList[j]? <;> rfl

theorem bl_extract (s : ByteArray) (i j : Nat) : bl (s.extract i j) = ((bl s).drop i).take (j - i) := by
  unfold bl
  rw [ByteArray.data_extract]
  simp [List.map_take, List.map_drop]

/-- What a text of digits is worth. -/
def gval (l : List Nat) : Nat := val 10 ((l.map (fun x => x - 48)).reverse)

theorem gval_nil : gval [] = 0 := rfl

theorem gval_snoc (l : List Nat) (x : Nat) : gval (l ++ [x]) = gval l * 10 + (x - 48) := by
  unfold gval
  rw [List.map_append, List.reverse_append]
  simp only [List.map_cons, List.map_nil, List.reverse_cons, List.reverse_nil, List.nil_append, List.cons_append, val_cons]
  omega

theorem gval_append (l m : List Nat) : gval (l ++ m) = gval l * 10 ^ m.length + gval m := by
  unfold gval
  rw [List.map_append, List.reverse_append, val_append]
  simp only [List.length_reverse, List.length_map]
  rw [Nat.mul_comm, Nat.add_comm]

theorem gval_take_succ (l : List Nat) (k : Nat) (h : k < l.length) : gval (l.take (k + 1)) = gval (l.take k) * 10 + (nth l k - 48) := by
  rw [List.take_succ_eq_append_getElem h, gval_snoc, nth_eq h]

/-- All of them are digits. -/
def AllDig (l : List Nat) : Prop := ∀ j, j < l.length → 48 ≤ nth l j ∧ nth l j ≤ 57

theorem AllDig.mem {l : List Nat} (h : AllDig l) : ∀ x ∈ l, 48 ≤ x ∧ x ≤ 57 := by
  intro x hx
  obtain ⟨j, hj, rfl⟩ := List.getElem_of_mem hx
  have := h j hj
  rw [nth_eq hj] at this
  exact this

theorem AllDig.of_mem {l : List Nat} (h : ∀ x ∈ l, 48 ≤ x ∧ x ≤ 57) : AllDig l := fun j hj => by
  rw [nth_eq hj]
  exact h _ (List.getElem_mem hj)

theorem AllDig.take {l : List Nat} (h : AllDig l) (k : Nat) : AllDig (l.take k) := AllDig.of_mem fun x hx => h.mem x (List.mem_of_mem_take hx)
theorem AllDig.drop {l : List Nat} (h : AllDig l) (k : Nat) : AllDig (l.drop k) := AllDig.of_mem fun x hx => h.mem x (List.mem_of_mem_drop hx)

theorem small_digs {l : List Nat} (h : AllDig l) : Small 10 ((l.map (fun x => x - 48)).reverse) := by
  intro y hy
  rw [List.mem_reverse] at hy
  obtain ⟨x, hx, rfl⟩ := List.mem_map.1 hy
  have := h.mem x hx
  omega

theorem gval_lt {l : List Nat} (h : AllDig l) : gval l < 10 ^ l.length := by
  have := val_lt (small_digs h)
  simpa [gval] using this

/-- A text that is a number. -/
def IsNum (l : List Nat) : Prop := 0 < l.length ∧ (1 < l.length → nth l 0 ≠ 48) ∧ AllDig l

/-- The last k digits of g. -/
def pad : Nat → Nat → List UInt8
  | 0, _ => []
  | k + 1, g => pad k (g / 10) ++ [UInt8.ofNat (48 + g % 10)]

theorem decDigits_small {u : Nat} (h : u < 10) : decDigits u = [UInt8.ofNat (48 + u)] := by rw [decDigits, dif_pos h]
theorem decDigits_big {u : Nat} (h : ¬ u < 10) : decDigits u = decDigits (u / 10) ++ [UInt8.ofNat (48 + u % 10)] := by rw [decDigits, dif_neg h]

theorem decDigits_pad : ∀ (k q g : Nat), q ≠ 0 → g < 10 ^ k → decDigits (q * 10 ^ k + g) = decDigits q ++ pad k g := by
  intro k
  induction k with
  | zero =>
    intro q g hq hg
    obtain rfl : g = 0 := by simpa using hg
    simp [pad]
  | succ k ih =>
    intro q g hq hg
    rw [Nat.pow_succ] at hg
    have hp : 0 < 10 ^ k := Nat.pow_pos (by decide)
    have h1 : 1 * 10 ^ k ≤ q * 10 ^ k := Nat.mul_le_mul_right _ (by omega)
    have e0 : q * 10 ^ (k + 1) = q * 10 ^ k * 10 := by rw [Nat.pow_succ, Nat.mul_assoc]
    rw [e0]
    have hbig : ¬ q * 10 ^ k * 10 + g < 10 := by omega
    rw [decDigits_big hbig]
    have e1 : (q * 10 ^ k * 10 + g) / 10 = q * 10 ^ k + g / 10 := by omega
    have e2 : (q * 10 ^ k * 10 + g) % 10 = g % 10 := by omega
    rw [e1, e2, ih q (g / 10) hq (by omega), pad, List.append_assoc]

theorem pad_zero : ∀ k, pad k 0 = List.replicate k 48 := by
  intro k
  induction k with
  | zero => rfl
  | succ k ih =>
    rw [pad, Nat.zero_div, ih, List.replicate_succ']
    rfl

theorem pad_eq : ∀ (k g : Nat), 0 < k → g < 10 ^ k → pad k g = List.replicate (k - (decDigits g).length) 48 ++ decDigits g := by
  intro k
  induction k with
  | zero => intro g h; omega
  | succ k ih =>
    intro g _ hg
    rw [Nat.pow_succ] at hg
    rw [pad]
    by_cases h : g < 10
    · have e1 : g / 10 = 0 := by omega
      have e2 : g % 10 = g := by omega
      rw [e1, e2, pad_zero, decDigits_small h]
      rfl
    · have hk : 0 < k := by
        rcases Nat.eq_zero_or_pos k with rfl | h0
        · simp at hg; omega
        · exact h0
      rw [ih (g / 10) hk (by omega), decDigits_big h, List.length_append]
      simp only [List.length_cons, List.length_nil, List.append_assoc]
      congr 2
      omega

theorem joined_eq : ∀ (m n : Nat), n ≤ m → n ≠ 0 → joined (pieces n) = decDigits n := by
  intro m
  induction m with
  | zero => intro n h h0; omega
  | succ m ih =>
    intro n hn h0
    rw [pieces_pos h0]
    by_cases hq : n / 1000000000 = 0
    · rw [hq, pieces_zero]
      have e : n % 1000000000 = n := by omega
      rw [e]
      rfl
    · have hp := pieces_pos hq
      have e1 : joined (n % 1000000000 :: pieces (n / 1000000000)) = joined (pieces (n / 1000000000)) ++ (List.replicate (9 - (decDigits (n % 1000000000)).length) 48 ++ decDigits (n % 1000000000)) := by
        rw [hp]
        rfl
      have hg : n % 1000000000 < 10 ^ 9 := Nat.mod_lt _ (by decide)
      rw [e1, ih (n / 1000000000) (by omega) hq, ← pad_eq 9 _ (by decide) hg, ← decDigits_pad 9 _ _ hq hg]
      congr 1
      have := Nat.div_add_mod n 1000000000
      omega

theorem textOf_eq (n : Nat) : textOf n = decDigits n := by
  unfold textOf
  by_cases h : n = 0
  · subst h
    rw [if_pos rfl, decDigits_small (by decide)]
    rfl
  · rw [if_neg h]
    exact joined_eq n n (Nat.le_refl _) h

/-- The text of digits, the lowest first. -/
theorem decDigits_val : ∀ ds : List Nat, Canon 10 ds → ds ≠ [] → decDigits (val 10 ds) = (ds.reverse).map (fun d => UInt8.ofNat (48 + d)) := by
  intro ds
  induction ds with
  | nil => intro _ h; exact absurd rfl h
  | cons d r ih =>
    intro hc _
    have hd : d < 10 := hc.1 d (by simp)
    rw [val_cons, List.reverse_cons, List.map_append]
    by_cases hr : r = []
    · subst hr
      rw [val_nil, Nat.mul_zero, Nat.add_zero, decDigits_small hd]
      rfl
    · have hv : val 10 r ≠ 0 := fun e => hr (hc.tail.val_zero (by decide) e)
      rw [decDigits_big (by omega)]
      have e1 : (d + 10 * val 10 r) / 10 = val 10 r := by omega
      have e2 : (d + 10 * val 10 r) % 10 = d := by omega
      rw [e1, e2, ih hc.tail hr]
      rfl

theorem canon_of_big {zs : List Nat} (hs : Small R zs) (h : zs = [] ∨ R ^ (zs.length - 1) ≤ val R zs) : Canon R zs := by
  refine ⟨hs, ?_⟩
  rcases h with rfl | h
  · rfl
  · have hle := tl_le zs
    apply Decidable.byContradiction
    intro hne
    have h1 : val R zs < R ^ tl zs := by
      have := val_lt (hs.trm)
      rw [val_trm, trm_length] at this
      exact this
    have h2 : R ^ tl zs ≤ R ^ (zs.length - 1) := Nat.pow_le_pow_right R_pos (by omega)
    omega

theorem canon_big {zs : List Nat} (h : Canon R zs) (hn : zs ≠ []) : R ^ (zs.length - 1) ≤ val R zs := by
  obtain ⟨k, hk⟩ : ∃ k, zs.length = k + 1 := ⟨zs.length - 1, by
    have : zs.length ≠ 0 := fun e => hn (List.eq_nil_of_length_eq_zero e)
    omega⟩
  rw [hk, Nat.add_sub_cancel]
  rcases Nat.lt_or_ge (val R zs) (R ^ k) with hlt | hge
  · have : zs.length ≤ k := by
      apply Decidable.byContradiction
      intro hc
      have hsm : Small R (zs.take k) := h.1.take k
      have e1 := val_split R zs k (by omega)
      have hd : val R (zs.drop k) = 0 := by
        rcases Nat.eq_zero_or_pos (val R (zs.drop k)) with h0 | h0
        · exact h0
        · have := Nat.mul_le_mul_left (R ^ k) h0
          omega
      have e2 : val R zs = val R (zs.take k) := by rw [e1, hd]; simp
      have hu := (canon_trm hsm).unique R_pos h (by rw [val_trm, e2])
      have hl := congrArg List.length hu
      rw [trm_length] at hl
      have := tl_le (zs.take k)
      rw [List.length_take] at this
      omega
    omega
  · exact hge

end Go.Proofs.YtkdhcpfmlelfcaaDoor
