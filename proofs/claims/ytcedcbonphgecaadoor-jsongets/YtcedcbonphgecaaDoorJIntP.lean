/- Json: small whole numbers: their texts, by themselves. -/
import Derived.Test.YtcedcbonphgecaaDoorJNum
import Derived.Test.YtcedcbonphgecaaDoorFStr
import Derived.Lib.AtoiAllCases
import Derived.Lib.ItoaNum
namespace Go.Proofs.YtcedcbonphgecaaDoor
set_option linter.unusedVariables false
set_option linter.unusedSimpArgs false
set_option maxRecDepth 100000
open Go Go.RowKit Go.Shelf Go.Lib

theorem byt_dig : ∀ x : Fin 256, decide ((0 : Int) ≤ indexByte digS (UInt8.ofNat x.val)) = decide (48 ≤ x.val ∧ x.val ≤ 57) := by decide +kernel
theorem byt_minus : ∀ x : Fin 256, decide ((0 : Int) ≤ indexByte [45] (UInt8.ofNat x.val)) = decide (x.val = 45) := by decide +kernel
theorem byt_zero : ∀ x : Fin 256, decide ((0 : Int) ≤ indexByte [48] (UInt8.ofNat x.val)) = decide (x.val = 48) := by decide +kernel
theorem byt_point : ∀ x : Fin 256, decide ((0 : Int) ≤ indexByte [46] (UInt8.ofNat x.val)) = decide (x.val = 46) := by decide +kernel
theorem byt_e : ∀ x : Fin 256, decide ((0 : Int) ≤ indexByte [101, 69] (UInt8.ofNat x.val)) = decide (x.val = 101 ∨ x.val = 69) := by decide +kernel
theorem nth_byt {T : List Nat} (hT : ∀ x ∈ T, x < 256) (p : Nat) : nth T p < 256 := by
  unfold nth
  rcases Nat.lt_or_ge p T.length with h | h
  · simp only [List.getElem?_eq_getElem h, Option.getD_some]
    exact hT _ (List.getElem_mem h)
  · simp [List.getElem?_eq_none h]
theorem has_dig {T : List Nat} (hT : ∀ x ∈ T, x < 256) (p : Nat) : hasB T p digS = decide (p < T.length ∧ 48 ≤ nth T p ∧ nth T p ≤ 57) := by
  have := byt_dig ⟨nth T p, nth_byt hT p⟩
  simp only at this
  unfold hasB
  rw [this]
  simp
theorem has_minus {T : List Nat} (hT : ∀ x ∈ T, x < 256) (p : Nat) : hasB T p [45] = decide (p < T.length ∧ nth T p = 45) := by
  have := byt_minus ⟨nth T p, nth_byt hT p⟩
  simp only at this
  unfold hasB
  rw [this]
  simp
theorem has_zero {T : List Nat} (hT : ∀ x ∈ T, x < 256) (p : Nat) : hasB T p [48] = decide (p < T.length ∧ nth T p = 48) := by
  have := byt_zero ⟨nth T p, nth_byt hT p⟩
  simp only at this
  unfold hasB
  rw [this]
  simp
theorem has_point {T : List Nat} (hT : ∀ x ∈ T, x < 256) (p : Nat) : hasB T p [46] = decide (p < T.length ∧ nth T p = 46) := by
  have := byt_point ⟨nth T p, nth_byt hT p⟩
  simp only at this
  unfold hasB
  rw [this]
  simp
theorem has_e {T : List Nat} (hT : ∀ x ∈ T, x < 256) (p : Nat) : hasB T p [101, 69] = decide (p < T.length ∧ (nth T p = 101 ∨ nth T p = 69)) := by
  have := byt_e ⟨nth T p, nth_byt hT p⟩
  simp only at this
  unfold hasB
  rw [this]
  simp

/-- What digits spell, behind a number. -/
def valT (acc : Nat) : List Nat → Option Nat
  | [] => some acc
  | c :: r => if 48 ≤ c ∧ c ≤ 57 then valT (acc * 10 + (c - 48)) r else none
/-- Is there a minus ahead? -/
def minusT (T : List Nat) : Bool := decide (0 < T.length ∧ nth T 0 = 45)
/-- What stands behind it. -/
def restT (T : List Nat) : List Nat := if minusT T then T.drop 1 else T
/-- A small whole number's text. -/
def smallT (T : List Nat) : Prop := 1 ≤ (restT T).length ∧ (restT T).length ≤ 9 ∧ ¬ (nth (restT T) 0 = 48 ∧ (1 < (restT T).length ∨ minusT T = true))
instance (T : List Nat) : Decidable (smallT T) := by unfold smallT; infer_instance
def intT (T : List Nat) : Option Int := if smallT T then (valT 0 (restT T)).map (fun u : Nat => if minusT T then -(u : Int) else (u : Int)) else none

theorem valT_all : ∀ (t : List Nat) (acc : Nat), (valT acc t).isSome = true ↔ ∀ p, p < t.length → 48 ≤ nth t p ∧ nth t p ≤ 57
  | [], acc => by simp [valT]
  | c :: r, acc => by
    unfold valT
    constructor
    · intro h p hp
      split at h
      · rename_i hc
        cases p with
        | zero => simpa [nth] using hc
        | succ p =>
          have := (valT_all r _).1 h p (by simpa using hp)
          simpa [nth] using this
      · simp at h
    · intro h
      have h0 := h 0 (by simp)
      simp [nth] at h0
      rw [if_pos h0]
      refine (valT_all r _).2 fun p hp => ?_
      have := h (p + 1) (by simpa using hp)
      simpa [nth] using this

theorem parse_val : ∀ (t : List Nat) (acc : Nat), (∀ x ∈ t, x < 256) → (acc + 1) * 10 ^ t.length ≤ 1000000000 → parseUint10 acc (t.map UInt8.ofNat) = (match valT acc t with | some u => NumEnd.ok u | none => NumEnd.syntax) ∧ ∀ u, valT acc t = some u → u < 1000000000
  | [], acc, _, h => by simp [parseUint10, valT] at h ⊢; omega
  | c :: r, acc, hT, h => by
    have hc : (UInt8.ofNat c).toNat = c := by
      have := hT c (by simp)
      simp; omega
    rw [List.length_cons, Nat.pow_succ] at h
    have hp : 1 ≤ 10 ^ r.length := Nat.one_le_pow _ _ (by decide)
    have hsm : acc + 1 ≤ 100000000 := by
      have : (acc + 1) * 10 ≤ (acc + 1) * (10 ^ r.length * 10) := Nat.mul_le_mul_left _ (by omega)
      omega
    simp only [List.map_cons, parseUint10, valT, hc]
    by_cases hd : 48 ≤ c ∧ c ≤ 57
    · rw [if_pos hd, if_pos hd, if_neg (by omega), if_neg (by omega)]
      refine parse_val r _ (fun x hx => hT x (by simp [hx])) ?_
      have h1 : acc * 10 + (c - 48) + 1 ≤ (acc + 1) * 10 := by omega
      have h2 := Nat.mul_le_mul_right (10 ^ r.length) h1
      have h3 : (acc + 1) * 10 * 10 ^ r.length = (acc + 1) * (10 ^ r.length * 10) := by rw [Nat.mul_assoc, Nat.mul_comm 10]
      omega
    · rw [if_neg hd, if_neg hd]
      simp

theorem restT_length (T : List Nat) : (restT T).length = T.length - (if minusT T then 1 else 0) ∧ ∀ p, nth (restT T) p = nth T (p + (if minusT T then 1 else 0)) := by
  unfold restT
  split
  · refine ⟨by simp, fun p => ?_⟩
    unfold nth
    rw [List.getElem?_drop]
    congr 2
    omega
  · exact ⟨by simp, fun p => rfl⟩
theorem minus_num1 {T : List Nat} (hT : ∀ x ∈ T, x < 256) : num1 T 0 = (if minusT T then 1 else 0) := by
  unfold num1 minusT
  rw [has_minus hT]
theorem rest_lt {T : List Nat} (hT : ∀ x ∈ T, x < 256) : ∀ x ∈ restT T, x < 256 := by
  intro x hx
  unfold restT at hx
  split at hx
  · exact hT x (List.mem_of_mem_drop hx)
  · exact hT x hx

/-- A text of digits is a number, as layer 4 spells one, just if no nought stands ahead. -/
theorem num_of_digits {T : List Nat} (hT : ∀ x ∈ T, x < 256) (hd : ∀ p, p < (restT T).length → 48 ≤ nth (restT T) p ∧ nth (restT T) p ≤ 57) (h1 : 1 ≤ (restT T).length) :
    numEnd T 0 = if nth (restT T) 0 = 48 then ((if minusT T then 1 else 0) + 1, true) else (T.length, true) := by
  obtain ⟨hl, hn⟩ := restT_length T
  generalize hm : (if minusT T then 1 else 0) = m at *
  generalize restT T = t at *
  have hlen : t.length + m = T.length := by omega
  have hdd : ∀ q, m ≤ q → q < T.length → 48 ≤ nth T q ∧ nth T q ≤ 57 := fun q h2 h3 => by
    have := hd (q - m) (by omega)
    rw [hn, show q - m + m = q by omega] at this
    exact this
  unfold numEnd
  rw [minus_num1 hT, hm]
  have h0 := hn 0
  rw [Nat.zero_add] at h0
  have tail : ∀ q, m ≤ q → num4 T (num3 T (q, true)) = (q, true) := fun q hq => by
    have e3 : num3 T (q, true) = (q, true) := by
      unfold num3
      rw [has_point hT, decide_eq_false (fun h => by have := hdd q hq h.1; simp only at h; omega)]
      rfl
    rw [e3]
    unfold num4
    rw [has_e hT, decide_eq_false (fun h => by have := hdd q hq h.1; simp only at h; omega)]
    rfl
  by_cases hz : nth t 0 = 48
  · rw [if_pos hz]
    have e2 : num2 T m = (m + 1, true) := by
      unfold num2
      rw [has_zero hT, decide_eq_true ⟨by omega, by omega⟩]
      rfl
    rw [e2]
    exact tail _ (by omega)
  · rw [if_neg hz]
    have ed : digEnd T m = T.length := digEnd_is (by omega) (fun j h2 h3 => by
      rw [has_dig hT]
      have := hdd j h2 h3
      exact decide_eq_true ⟨h3, this⟩) (by
      rw [has_dig hT]
      exact decide_eq_false (fun h => by omega))
    have e2 : num2 T m = (T.length, true) := by
      unfold num2
      rw [has_zero hT, decide_eq_false (fun h => by omega), ed, decide_eq_true (show m < T.length by omega)]
      rfl
    rw [e2]
    exact tail _ (by omega)

/-- Of a number something stands behind the minus; a plus stands nowhere ahead. -/
theorem num_begins {T : List Nat} (hT : ∀ x ∈ T, x < 256) (h : numEnd T 0 = (T.length, true)) : 1 ≤ (restT T).length ∧ nth T 0 ≠ 43 := by
  obtain ⟨hl, hn⟩ := restT_length T
  generalize hm : (if minusT T then 1 else 0) = m at *
  have key : ∀ q, (num2 T m) = (q, false) → False := fun q e => by
    unfold numEnd at h
    rw [minus_num1 hT, hm, e] at h
    have e3 : num3 T (q, false) = (q, false) := by unfold num3; simp
    have e4 : num4 T (q, false) = (q, false) := by unfold num4; simp
    rw [e3, e4] at h
    simp at h
  have bad : ¬ (m < T.length ∧ 48 ≤ nth T m ∧ nth T m ≤ 57) → False := fun hb => by
    have ed : digEnd T m = m := digEnd_is (Nat.le_refl _) (fun j h2 h3 => by omega) (by rw [has_dig hT]; exact decide_eq_false hb)
    refine key m ?_
    unfold num2
    rw [has_zero hT, decide_eq_false (fun h => hb ⟨h.1, by omega⟩), ed]
    simp
  constructor
  · rcases Nat.lt_or_ge m T.length with h2 | h2
    · omega
    · exact absurd (fun hb : m < T.length ∧ _ => absurd hb.1 (by omega)) bad
  · intro h43
    have hm0 : m = 0 := by
      rw [← hm]
      unfold minusT
      rw [if_neg (by simp; omega)]
    refine bad fun hb => ?_
    rw [hm0] at hb
    omega

theorem map_nats (T : List Nat) (hT : ∀ x ∈ T, x < 256) {c : Nat} {r : List Nat} (h : T = c :: r) : (UInt8.ofNat c).toNat = c := by
  have := hT c (by simp [h])
  simp; omega

/-- strconv.Atoi of such a text. -/
theorem atoi_val {T : List Nat} (hT : ∀ x ∈ T, x < 256) (h1 : 1 ≤ (restT T).length) (h9 : (restT T).length ≤ 9) (h43 : nth T 0 ≠ 43) :
    atoiAll (T.map UInt8.ofNat) = (match valT 0 (restT T) with | some u => NumEnd.ok (if minusT T then -(u : Int) else (u : Int)) | none => NumEnd.syntax) := by
  have hpw : (0 + 1) * 10 ^ (restT T).length ≤ 1000000000 := by
    have := Nat.pow_le_pow_right (show 0 < 10 by omega) h9
    have e : (10 : Nat) ^ 9 = 1000000000 := by decide
    rw [e] at this
    rw [Nat.zero_add, Nat.one_mul]
    exact this
  obtain ⟨hp, hb⟩ := parse_val (restT T) 0 (rest_lt hT) hpw
  have hne : (restT T).map UInt8.ofNat ≠ [] := by
    intro e
    rw [List.map_eq_nil_iff] at e
    rw [e] at h1
    simp at h1
  have hmag : parseMag ((restT T).map UInt8.ofNat) = (match valT 0 (restT T) with | some u => NumEnd.ok u | none => NumEnd.syntax) := by
    unfold parseMag
    rw [if_neg hne]
    exact hp
  match T, hT with
  | [], _ => simp [restT] at h1
  | c :: r, hT =>
    have hc := map_nats _ hT rfl
    rw [List.map_cons]
    by_cases h45 : c = 45
    · subst h45
      have hm : minusT (45 :: r) = true := by simp [minusT, nth]
      have hr : restT (45 :: r) = r := by simp [restT, hm]
      rw [show UInt8.ofNat 45 = 45 from rfl, atoiAll_minus]
      rw [hr] at hmag hb ⊢
      rw [hmag, hm]
      cases hv : valT 0 r with
      | none => rfl
      | some u =>
        have := hb u hv
        simp only [signed]
        rw [if_neg (by omega)]
        simp
    · have hm : minusT (c :: r) = false := by simp [minusT, nth, h45]
      have hr : restT (c :: r) = c :: r := by simp [restT, hm]
      have h43' : c ≠ 43 := by simpa [nth] using h43
      rw [atoiAll_plain _ _ (by rw [hc]; exact h43') (by rw [hc]; exact h45)]
      rw [hr] at hmag hb ⊢
      rw [List.map_cons] at hmag
      rw [hmag, hm]
      cases hv : valT 0 (c :: r) with
      | none => rfl
      | some u =>
        have := hb u hv
        simp only [signless]
        rw [if_neg (by omega)]
        simp

/-- What Int's tests leave: a small whole number has passed them all, and is told. -/
theorem int_some {T : List Nat} (hT : ∀ x ∈ T, x < 256) {v : Int} (h : intT T = some v) : numEnd T 0 = (T.length, true) ∧ T ≠ [45, 48] ∧ (restT T).length ≤ 9 ∧ atoiAll (T.map UInt8.ofNat) = .ok v := by
  unfold intT at h
  split at h
  · rename_i hs
    obtain ⟨h1, h9, h0⟩ := hs
    obtain ⟨u, hu, hv⟩ := Option.map_eq_some_iff.1 h
    have hd := (valT_all (restT T) 0).1 (by rw [hu]; rfl)
    have hnum := num_of_digits hT hd h1
    have hne : T ≠ [45, 48] := by
      rintro rfl
      exact h0 (by decide)
    have hn : numEnd T 0 = (T.length, true) := by
      rw [hnum]
      split
      · rename_i hz
        have hl := (restT_length T).1
        have : (restT T).length = 1 := by
          rcases Nat.lt_or_ge 1 (restT T).length with h | h
          · exact absurd ⟨hz, .inl h⟩ h0
          · omega
        have : T.length = (if minusT T then 1 else 0) + 1 := by omega
        rw [this]
      · rfl
    refine ⟨hn, hne, h9, ?_⟩
    rw [atoi_val hT h1 h9 (num_begins hT hn).2, hu]
    simp only
    rw [hv]
  · cases h
/-- .. and what has passed them and is none is no text of digits. -/
theorem int_none {T : List Nat} (hT : ∀ x ∈ T, x < 256) (h : intT T = none) (hn : numEnd T 0 = (T.length, true)) (hne : T ≠ [45, 48]) (h9 : (restT T).length ≤ 9) : atoiAll (T.map UInt8.ofNat) = .syntax := by
  obtain ⟨h1, h43⟩ := num_begins hT hn
  rw [atoi_val hT h1 h9 h43]
  cases hv : valT 0 (restT T) with
  | none => rfl
  | some u =>
    exfalso
    have hd := (valT_all (restT T) 0).1 (by rw [hv]; rfl)
    have hnum := num_of_digits hT hd h1
    have hl := (restT_length T).1
    have hs : smallT T := by
      refine ⟨h1, h9, fun ⟨hz, hc⟩ => ?_⟩
      rw [if_pos hz, hn] at hnum
      have hTl : T.length = (if minusT T then 1 else 0) + 1 := congrArg Prod.fst hnum
      rcases hc with hc | hc
      · omega
      · rw [hc] at hTl
        simp at hTl
        match T, hTl with
        | [a, b], _ =>
          have ha : a = 45 := by simpa [minusT, nth] using hc
          subst ha
          have hb : b = 48 := by simpa [restT, hc, nth] using hz
          subst hb
          exact hne rfl
    unfold intT at h
    rw [if_pos hs, hv] at h
    simp at h

/-- The digits of a number, as nats. -/
theorem valT_append : ∀ (l : List Nat) (acc u d : Nat), valT acc l = some u → 48 ≤ d → d ≤ 57 → valT acc (l ++ [d]) = some (u * 10 + (d - 48))
  | [], acc, u, d, h, h1, h2 => by
    simp [valT] at h
    subst h
    simp [valT, h1, h2]
  | c :: r, acc, u, d, h, h1, h2 => by
    rw [valT] at h
    rw [List.cons_append, valT]
    split at h
    · rename_i hc
      rw [if_pos hc]
      exact valT_append r _ u d h h1 h2
    · cases h
def digsT (u : Nat) : List Nat := (decDigits u).map (·.toNat)
theorem digs_step {u : Nat} (h : ¬ u < 10) : digsT u = digsT (u / 10) ++ [48 + u % 10] := by
  unfold digsT
  rw [decDigits, dif_neg h, List.map_append]
  have : u % 10 < 10 := Nat.mod_lt _ (by omega)
  simp; omega
theorem digs_one {u : Nat} (h : u < 10) : digsT u = [48 + u] := by
  unfold digsT
  rw [decDigits_one h]
  simp; omega
theorem digs_val (u : Nat) : valT 0 (digsT u) = some u := by
  induction u using Nat.strongRecOn with
  | _ u ih =>
    by_cases h : u < 10
    · rw [digs_one h]
      have h1 : 48 ≤ 48 + u ∧ 48 + u ≤ 57 := by omega
      simp [valT, h1]
    · rw [digs_step h, valT_append _ _ _ _ (ih (u / 10) (by omega)) (by omega) (by omega)]
      simp only [Option.some.injEq]
      omega
theorem digs_head (u : Nat) : digsT u ≠ [] ∧ (nth (digsT u) 0 = 48 → u = 0) ∧ 48 ≤ nth (digsT u) 0 := by
  induction u using Nat.strongRecOn with
  | _ u ih =>
    by_cases h : u < 10
    · rw [digs_one h]
      simp [nth]
    · obtain ⟨h1, h2, h3⟩ := ih (u / 10) (by omega)
      rw [digs_step h]
      have e : nth (digsT (u / 10) ++ [48 + u % 10]) 0 = nth (digsT (u / 10)) 0 := by
        unfold nth
        rw [List.getElem?_append_left (List.length_pos_iff.2 h1)]
      rw [e]
      exact ⟨by simp, fun h4 => by have := h2 h4; omega, h3⟩
theorem digs_length : ∀ (k u : Nat), u < 10 ^ (k + 1) → (digsT u).length ≤ k + 1
  | 0, u, h => by rw [digs_one (by simpa using h)]; simp
  | k + 1, u, h => by
    by_cases h10 : u < 10
    · rw [digs_one h10]; simp
    · rw [digs_step h10, List.length_append]
      have := digs_length k (u / 10) (by rw [Nat.pow_succ] at h; omega)
      simp
      omega
/-- A number's text. -/
def itoaT (n : Int) : List Nat := (itoa n).map (·.toNat)
theorem itoaT_eq (n : Int) : itoaT n = if n < 0 then 45 :: digsT n.natAbs else digsT n.toNat := by
  unfold itoaT itoa digsT
  split <;> simp
theorem int_itoa {n : Int} (h1 : -999999999 ≤ n) (h2 : n ≤ 999999999) : intT (itoaT n) = some n := by
  rw [itoaT_eq]
  by_cases hn : n < 0
  · rw [if_pos hn]
    have hm : minusT (45 :: digsT n.natAbs) = true := by simp [minusT, nth]
    have hr : restT (45 :: digsT n.natAbs) = digsT n.natAbs := by simp [restT, hm]
    obtain ⟨g1, g2, _⟩ := digs_head n.natAbs
    have g3 := digs_length 8 n.natAbs (by have : (10 : Nat) ^ (8 + 1) = 1000000000 := by decide
                                          omega)
    have g4 := List.length_pos_iff.2 g1
    unfold intT
    rw [if_pos (by unfold smallT; rw [hr]; exact ⟨g4, by omega, fun h => by have := g2 h.1; omega⟩), hr, hm, digs_val]
    simp
    omega
  · rw [if_neg hn]
    obtain ⟨g1, g2, g5⟩ := digs_head n.toNat
    have g3 := digs_length 8 n.toNat (by have : (10 : Nat) ^ (8 + 1) = 1000000000 := by decide
                                         omega)
    have g4 := List.length_pos_iff.2 g1
    have hall := (valT_all (digsT n.toNat) 0).1 (by rw [digs_val]; rfl)
    have hm : minusT (digsT n.toNat) = false := by
      unfold minusT
      exact decide_eq_false (fun h => by omega)
    have hr : restT (digsT n.toNat) = digsT n.toNat := by simp [restT, hm]
    unfold intT
    rw [if_pos (by unfold smallT; rw [hr, hm]; refine ⟨g4, by omega, fun h => ?_⟩; have h0 := g2 h.1; rw [h0, digs_one (by omega)] at h; simp at h), hr, hm, digs_val]
    simp
    omega
theorem itoaT_lt {n : Int} : ∀ x ∈ itoaT n, x < 256 := by
  intro x hx
  unfold itoaT at hx
  obtain ⟨c, _, rfl⟩ := List.mem_map.1 hx
  exact c.toNat_lt
theorem itoa_str (n : Int) : (⟨(itoa n).toArray⟩ : ByteArray) = strOf (itoaT n) := by
  unfold strOf itoaT
  rw [List.map_map]
  congr 2
  have : (UInt8.ofNat ∘ fun x : UInt8 => x.toNat) = id := by
    funext x
    simp
  rw [this, List.map_id]

end Go.Proofs.YtcedcbonphgecaaDoor
