/- Json: small whole numbers: their texts; Int, and the reference's. -/
import Derived.Test.YtcedcbonphgecaaDoorJNum
import Derived.Test.YtcedcbonphgecaaDoorFStr
import Derived.Lib.AtoiAllCases
import Derived.Lib.ItoaNum
import Derived.Test.YtcedcbonphgecaaDoorJWr2
import Derived.Test.YtcedcbonphgecaaDoorShelf
import Derived.Test.YtcedcbonphgecaaDoorJTree
namespace Go.Proofs.YtcedcbonphgecaaDoor
set_option linter.unusedVariables false
set_option linter.unusedSimpArgs false
set_option maxRecDepth 100000
open Go Go.RowKit Go.Shelf Go.Lib

theorem byt_dig : ∀ x : Fin 256, decide ((0 : Int) ≤ indexByte digS (UInt8.ofNat x.val)) = decide (48 ≤ x.val ∧ x.val ≤ 57) := by decide +kernel
theorem byt_minus : ∀ x : Fin 256, decide ((0 : Int) ≤ indexByte [45] (UInt8.ofNat x.val)) = decide (x.val = 45) := by decide +kernel
theorem byt_zero : ∀ x : Fin 256, decide ((0 : Int) ≤ indexByte [48] (UInt8.ofNat x.val)) = decide (x.val = 48) := by decide +kernel
theorem byt_point : ∀ x : Fin 256, decide ((0 : Int) ≤ indexByte [46] (UInt8.ofNat x.val)) = decide (x.val = 46) := by decide +kernel
theorem byt_e : ∀ x : Fin 256, decide ((0 : Int) ≤ indexByte [101, 69] (UInt8.ofNat x.val)) = decide (x.val = 101 ∨ x.val = 69) := by decide +kernel
theorem nth_byt {T : List Nat} (hT : ∀ x ∈ T, x < 256) (p : Nat) : nth T p < 256 := by
  unfold nth
  rcases Nat.lt_or_ge p T.length with h | h
  · simp only [List.getElem?_eq_getElem h, Option.getD_some]
    exact hT _ (List.getElem_mem h)
  · simp [List.getElem?_eq_none h]
theorem has_dig {T : List Nat} (hT : ∀ x ∈ T, x < 256) (p : Nat) : hasB T p digS = decide (p < T.length ∧ 48 ≤ nth T p ∧ nth T p ≤ 57) := by
  have := byt_dig ⟨nth T p, nth_byt hT p⟩
  simp only at this
  unfold hasB
  rw [this]
  simp
theorem has_minus {T : List Nat} (hT : ∀ x ∈ T, x < 256) (p : Nat) : hasB T p [45] = decide (p < T.length ∧ nth T p = 45) := by
  have := byt_minus ⟨nth T p, nth_byt hT p⟩
  simp only at this
  unfold hasB
  rw [this]
  simp
theorem has_zero {T : List Nat} (hT : ∀ x ∈ T, x < 256) (p : Nat) : hasB T p [48] = decide (p < T.length ∧ nth T p = 48) := by
  have := byt_zero ⟨nth T p, nth_byt hT p⟩
  simp only at this
  unfold hasB
  rw [this]
  simp
theorem has_point {T : List Nat} (hT : ∀ x ∈ T, x < 256) (p : Nat) : hasB T p [46] = decide (p < T.length ∧ nth T p = 46) := by
  have := byt_point ⟨nth T p, nth_byt hT p⟩
  simp only at this
  unfold hasB
  rw [this]
  simp
theorem has_e {T : List Nat} (hT : ∀ x ∈ T, x < 256) (p : Nat) : hasB T p [101, 69] = decide (p < T.length ∧ (nth T p = 101 ∨ nth T p = 69)) := by
  have := byt_e ⟨nth T p, nth_byt hT p⟩
  simp only at this
  unfold hasB
  rw [this]
  simp

/-- What digits spell, behind a number. -/
def valT (acc : Nat) : List Nat → Option Nat
  | [] => some acc
  | c :: r => if 48 ≤ c ∧ c ≤ 57 then valT (acc * 10 + (c - 48)) r else none
/-- Is there a minus ahead? -/
def minusT (T : List Nat) : Bool := decide (0 < T.length ∧ nth T 0 = 45)
/-- What stands behind it. -/
def restT (T : List Nat) : List Nat := if minusT T then T.drop 1 else T
/-- A small whole number's text. -/
def smallT (T : List Nat) : Prop := 1 ≤ (restT T).length ∧ (restT T).length ≤ 9 ∧ ¬ (nth (restT T) 0 = 48 ∧ (1 < (restT T).length ∨ minusT T = true))
instance (T : List Nat) : Decidable (smallT T) := by unfold smallT; infer_instance
def intT (T : List Nat) : Option Int := if smallT T then (valT 0 (restT T)).map (fun u : Nat => if minusT T then -(u : Int) else (u : Int)) else none

theorem valT_all : ∀ (t : List Nat) (acc : Nat), (valT acc t).isSome = true ↔ ∀ p, p < t.length → 48 ≤ nth t p ∧ nth t p ≤ 57
  | [], acc => by simp [valT]
  | c :: r, acc => by
    unfold valT
    constructor
    · intro h p hp
      split at h
      · rename_i hc
        cases p with
        | zero => simpa [nth] using hc
        | succ p =>
          have := (valT_all r _).1 h p (by simpa using hp)
          simpa [nth] using this
      · simp at h
    · intro h
      have h0 := h 0 (by simp)
      simp [nth] at h0
      rw [if_pos h0]
      refine (valT_all r _).2 fun p hp => ?_
      have := h (p + 1) (by simpa using hp)
      simpa [nth] using this

theorem parse_val : ∀ (t : List Nat) (acc : Nat), (∀ x ∈ t, x < 256) → (acc + 1) * 10 ^ t.length ≤ 1000000000 → parseUint10 acc (t.map UInt8.ofNat) = (match valT acc t with | some u => NumEnd.ok u | none => NumEnd.syntax) ∧ ∀ u, valT acc t = some u → u < 1000000000
  | [], acc, _, h => by simp [parseUint10, valT] at h ⊢; omega
  | c :: r, acc, hT, h => by
    have hc : (UInt8.ofNat c).toNat = c := by
      have := hT c (by simp)
      simp; omega
    rw [List.length_cons, Nat.pow_succ] at h
    have hp : 1 ≤ 10 ^ r.length := Nat.one_le_pow _ _ (by decide)
    have hsm : acc + 1 ≤ 100000000 := by
      have : (acc + 1) * 10 ≤ (acc + 1) * (10 ^ r.length * 10) := Nat.mul_le_mul_left _ (by omega)
      omega
    simp only [List.map_cons, parseUint10, valT, hc]
    by_cases hd : 48 ≤ c ∧ c ≤ 57
    · rw [if_pos hd, if_pos hd, if_neg (by omega), if_neg (by omega)]
      refine parse_val r _ (fun x hx => hT x (by simp [hx])) ?_
      have h1 : acc * 10 + (c - 48) + 1 ≤ (acc + 1) * 10 := by omega
      have h2 := Nat.mul_le_mul_right (10 ^ r.length) h1
      have h3 : (acc + 1) * 10 * 10 ^ r.length = (acc + 1) * (10 ^ r.length * 10) := by rw [Nat.mul_assoc, Nat.mul_comm 10]
      omega
    · rw [if_neg hd, if_neg hd]
      simp

theorem restT_length (T : List Nat) : (restT T).length = T.length - (if minusT T then 1 else 0) ∧ ∀ p, nth (restT T) p = nth T (p + (if minusT T then 1 else 0)) := by
  unfold restT
  split
  · refine ⟨by simp, fun p => ?_⟩
    unfold nth
    rw [List.getElem?_drop]
    congr 2
    omega
  · exact ⟨by simp, fun p => rfl⟩
theorem minus_num1 {T : List Nat} (hT : ∀ x ∈ T, x < 256) : num1 T 0 = (if minusT T then 1 else 0) := by
  unfold num1 minusT
  rw [has_minus hT]
theorem rest_lt {T : List Nat} (hT : ∀ x ∈ T, x < 256) : ∀ x ∈ restT T, x < 256 := by
  intro x hx
  unfold restT at hx
  split at hx
  · exact hT x (List.mem_of_mem_drop hx)
  · exact hT x hx

/-- A text of digits is a number, as layer 4 spells one, just if no nought stands ahead. -/
theorem num_of_digits {T : List Nat} (hT : ∀ x ∈ T, x < 256) (hd : ∀ p, p < (restT T).length → 48 ≤ nth (restT T) p ∧ nth (restT T) p ≤ 57) (h1 : 1 ≤ (restT T).length) :
    numEnd T 0 = if nth (restT T) 0 = 48 then ((if minusT T then 1 else 0) + 1, true) else (T.length, true) := by
  obtain ⟨hl, hn⟩ := restT_length T
  generalize hm : (if minusT T then 1 else 0) = m at *
  generalize restT T = t at *
  have hlen : t.length + m = T.length := by omega
  have hdd : ∀ q, m ≤ q → q < T.length → 48 ≤ nth T q ∧ nth T q ≤ 57 := fun q h2 h3 => by
    have := hd (q - m) (by omega)
    rw [hn, show q - m + m = q by omega] at this
    exact this
  unfold numEnd
  rw [minus_num1 hT, hm]
  have h0 := hn 0
  rw [Nat.zero_add] at h0
  have tail : ∀ q, m ≤ q → num4 T (num3 T (q, true)) = (q, true) := fun q hq => by
    have e3 : num3 T (q, true) = (q, true) := by
      unfold num3
      rw [has_point hT, decide_eq_false (fun h => by have := hdd q hq h.1; simp only at h; omega)]
      rfl
    rw [e3]
    unfold num4
    rw [has_e hT, decide_eq_false (fun h => by have := hdd q hq h.1; simp only at h; omega)]
    rfl
  by_cases hz : nth t 0 = 48
  · rw [if_pos hz]
    have e2 : num2 T m = (m + 1, true) := by
      unfold num2
      rw [has_zero hT, decide_eq_true ⟨by omega, by omega⟩]
      rfl
    rw [e2]
    exact tail _ (by omega)
  · rw [if_neg hz]
    have ed : digEnd T m = T.length := digEnd_is (by omega) (fun j h2 h3 => by
      rw [has_dig hT]
      have := hdd j h2 h3
      exact decide_eq_true ⟨h3, this⟩) (by
      rw [has_dig hT]
      exact decide_eq_false (fun h => by omega))
    have e2 : num2 T m = (T.length, true) := by
      unfold num2
      rw [has_zero hT, decide_eq_false (fun h => by omega), ed, decide_eq_true (show m < T.length by omega)]
      rfl
    rw [e2]
    exact tail _ (by omega)

/-- Of a number something stands behind the minus; a plus stands nowhere ahead. -/
theorem num_begins {T : List Nat} (hT : ∀ x ∈ T, x < 256) (h : numEnd T 0 = (T.length, true)) : 1 ≤ (restT T).length ∧ nth T 0 ≠ 43 := by
  obtain ⟨hl, hn⟩ := restT_length T
  generalize hm : (if minusT T then 1 else 0) = m at *
  have key : ∀ q, (num2 T m) = (q, false) → False := fun q e => by
    unfold numEnd at h
    rw [minus_num1 hT, hm, e] at h
    have e3 : num3 T (q, false) = (q, false) := by unfold num3; simp
    have e4 : num4 T (q, false) = (q, false) := by unfold num4; simp
    rw [e3, e4] at h
    simp at h
  have bad : ¬ (m < T.length ∧ 48 ≤ nth T m ∧ nth T m ≤ 57) → False := fun hb => by
    have ed : digEnd T m = m := digEnd_is (Nat.le_refl _) (fun j h2 h3 => by omega) (by rw [has_dig hT]; exact decide_eq_false hb)
    refine key m ?_
    unfold num2
    rw [has_zero hT, decide_eq_false (fun h => hb ⟨h.1, by omega⟩), ed]
    simp
  constructor
  · rcases Nat.lt_or_ge m T.length with h2 | h2
    · omega
    · exact absurd (fun hb : m < T.length ∧ _ => absurd hb.1 (by omega)) bad
  · intro h43
    have hm0 : m = 0 := by
      rw [← hm]
      unfold minusT
      rw [if_neg (by simp; omega)]
    refine bad fun hb => ?_
    rw [hm0] at hb
    omega

theorem map_nats (T : List Nat) (hT : ∀ x ∈ T, x < 256) {c : Nat} {r : List Nat} (h : T = c :: r) : (UInt8.ofNat c).toNat = c := by
  have := hT c (by simp [h])
  simp; omega

/-- strconv.Atoi of such a text. -/
theorem atoi_val {T : List Nat} (hT : ∀ x ∈ T, x < 256) (h1 : 1 ≤ (restT T).length) (h9 : (restT T).length ≤ 9) (h43 : nth T 0 ≠ 43) :
    atoiAll (T.map UInt8.ofNat) = (match valT 0 (restT T) with | some u => NumEnd.ok (if minusT T then -(u : Int) else (u : Int)) | none => NumEnd.syntax) := by
  have hpw : (0 + 1) * 10 ^ (restT T).length ≤ 1000000000 := by
    have := Nat.pow_le_pow_right (show 0 < 10 by omega) h9
    have e : (10 : Nat) ^ 9 = 1000000000 := by decide
    rw [e] at this
    rw [Nat.zero_add, Nat.one_mul]
    exact this
  obtain ⟨hp, hb⟩ := parse_val (restT T) 0 (rest_lt hT) hpw
  have hne : (restT T).map UInt8.ofNat ≠ [] := by
    intro e
    rw [List.map_eq_nil_iff] at e
    rw [e] at h1
    simp at h1
  have hmag : parseMag ((restT T).map UInt8.ofNat) = (match valT 0 (restT T) with | some u => NumEnd.ok u | none => NumEnd.syntax) := by
    unfold parseMag
    rw [if_neg hne]
    exact hp
  match T, hT with
  | [], _ => simp [restT] at h1
  | c :: r, hT =>
    have hc := map_nats _ hT rfl
    rw [List.map_cons]
    by_cases h45 : c = 45
    · subst h45
      have hm : minusT (45 :: r) = true := by simp [minusT, nth]
      have hr : restT (45 :: r) = r := by simp [restT, hm]
      rw [show UInt8.ofNat 45 = 45 from rfl, atoiAll_minus]
      rw [hr] at hmag hb ⊢
      rw [hmag, hm]
      cases hv : valT 0 r with
      | none => rfl
      | some u =>
        have := hb u hv
        simp only [signed]
        rw [if_neg (by omega)]
        simp
    · have hm : minusT (c :: r) = false := by simp [minusT, nth, h45]
      have hr : restT (c :: r) = c :: r := by simp [restT, hm]
      have h43' : c ≠ 43 := by simpa [nth] using h43
      rw [atoiAll_plain _ _ (by rw [hc]; exact h43') (by rw [hc]; exact h45)]
      rw [hr] at hmag hb ⊢
      rw [List.map_cons] at hmag
      rw [hmag, hm]
      cases hv : valT 0 (c :: r) with
      | none => rfl
      | some u =>
        have := hb u hv
        simp only [signless]
        rw [if_neg (by omega)]
        simp

/-- What Int's tests leave: a small whole number has passed them all, and is told. -/
theorem int_some {T : List Nat} (hT : ∀ x ∈ T, x < 256) {v : Int} (h : intT T = some v) : numEnd T 0 = (T.length, true) ∧ T ≠ [45, 48] ∧ (restT T).length ≤ 9 ∧ atoiAll (T.map UInt8.ofNat) = .ok v := by
  unfold intT at h
  split at h
  · rename_i hs
    obtain ⟨h1, h9, h0⟩ := hs
    obtain ⟨u, hu, hv⟩ := Option.map_eq_some_iff.1 h
    have hd := (valT_all (restT T) 0).1 (by rw [hu]; rfl)
    have hnum := num_of_digits hT hd h1
    have hne : T ≠ [45, 48] := by
      rintro rfl
      exact h0 (by decide)
    have hn : numEnd T 0 = (T.length, true) := by
      rw [hnum]
      split
      · rename_i hz
        have hl := (restT_length T).1
        have : (restT T).length = 1 := by
          rcases Nat.lt_or_ge 1 (restT T).length with h | h
          · exact absurd ⟨hz, .inl h⟩ h0
          · omega
        have : T.length = (if minusT T then 1 else 0) + 1 := by omega
        rw [this]
      · rfl
    refine ⟨hn, hne, h9, ?_⟩
    rw [atoi_val hT h1 h9 (num_begins hT hn).2, hu]
    simp only
    rw [hv]
  · cases h
/-- .. and what has passed them and is none is no text of digits. -/
theorem int_none {T : List Nat} (hT : ∀ x ∈ T, x < 256) (h : intT T = none) (hn : numEnd T 0 = (T.length, true)) (hne : T ≠ [45, 48]) (h9 : (restT T).length ≤ 9) : atoiAll (T.map UInt8.ofNat) = .syntax := by
  obtain ⟨h1, h43⟩ := num_begins hT hn
  rw [atoi_val hT h1 h9 h43]
  cases hv : valT 0 (restT T) with
  | none => rfl
  | some u =>
    exfalso
    have hd := (valT_all (restT T) 0).1 (by rw [hv]; rfl)
    have hnum := num_of_digits hT hd h1
    have hl := (restT_length T).1
    have hs : smallT T := by
      refine ⟨h1, h9, fun ⟨hz, hc⟩ => ?_⟩
      rw [if_pos hz, hn] at hnum
      have hTl : T.length = (if minusT T then 1 else 0) + 1 := congrArg Prod.fst hnum
      rcases hc with hc | hc
      · omega
      · rw [hc] at hTl
        simp at hTl
        match T, hTl with
        | [a, b], _ =>
          have ha : a = 45 := by simpa [minusT, nth] using hc
          subst ha
          have hb : b = 48 := by simpa [restT, hc, nth] using hz
          subst hb
          exact hne rfl
    unfold intT at h
    rw [if_pos hs, hv] at h
    simp at h

/-- The digits of a number, as nats. -/
theorem valT_append : ∀ (l : List Nat) (acc u d : Nat), valT acc l = some u → 48 ≤ d → d ≤ 57 → valT acc (l ++ [d]) = some (u * 10 + (d - 48))
  | [], acc, u, d, h, h1, h2 => by
    simp [valT] at h
    subst h
    simp [valT, h1, h2]
  | c :: r, acc, u, d, h, h1, h2 => by
    rw [valT] at h
    rw [List.cons_append, valT]
    split at h
    · rename_i hc
      rw [if_pos hc]
      exact valT_append r _ u d h h1 h2
    · cases h
def digsT (u : Nat) : List Nat := (decDigits u).map (·.toNat)
theorem digs_step {u : Nat} (h : ¬ u < 10) : digsT u = digsT (u / 10) ++ [48 + u % 10] := by
  unfold digsT
  rw [decDigits, dif_neg h, List.map_append]
  have : u % 10 < 10 := Nat.mod_lt _ (by omega)
  simp; omega
theorem digs_one {u : Nat} (h : u < 10) : digsT u = [48 + u] := by
  unfold digsT
  rw [decDigits_one h]
  simp; omega
theorem digs_val (u : Nat) : valT 0 (digsT u) = some u := by
  induction u using Nat.strongRecOn with
  | _ u ih =>
    by_cases h : u < 10
    · rw [digs_one h]
      have h1 : 48 ≤ 48 + u ∧ 48 + u ≤ 57 := by omega
      simp [valT, h1]
    · rw [digs_step h, valT_append _ _ _ _ (ih (u / 10) (by omega)) (by omega) (by omega)]
      simp only [Option.some.injEq]
      omega
theorem digs_head (u : Nat) : digsT u ≠ [] ∧ (nth (digsT u) 0 = 48 → u = 0) ∧ 48 ≤ nth (digsT u) 0 := by
  induction u using Nat.strongRecOn with
  | _ u ih =>
    by_cases h : u < 10
    · rw [digs_one h]
      simp [nth]
    · obtain ⟨h1, h2, h3⟩ := ih (u / 10) (by omega)
      rw [digs_step h]
      have e : nth (digsT (u / 10) ++ [48 + u % 10]) 0 = nth (digsT (u / 10)) 0 := by
        unfold nth
        rw [List.getElem?_append_left (List.length_pos_iff.2 h1)]
      rw [e]
      exact ⟨by simp, fun h4 => by have := h2 h4; omega, h3⟩
theorem digs_length : ∀ (k u : Nat), u < 10 ^ (k + 1) → (digsT u).length ≤ k + 1
  | 0, u, h => by rw [digs_one (by simpa using h)]; simp
  | k + 1, u, h => by
    by_cases h10 : u < 10
    · rw [digs_one h10]; simp
    · rw [digs_step h10, List.length_append]
      have := digs_length k (u / 10) (by rw [Nat.pow_succ] at h; omega)
      simp
      omega
/-- A number's text. -/
def itoaT (n : Int) : List Nat := (itoa n).map (·.toNat)
theorem itoaT_eq (n : Int) : itoaT n = if n < 0 then 45 :: digsT n.natAbs else digsT n.toNat := by
  unfold itoaT itoa digsT
  split <;> simp
theorem int_itoa {n : Int} (h1 : -999999999 ≤ n) (h2 : n ≤ 999999999) : intT (itoaT n) = some n := by
  rw [itoaT_eq]
  by_cases hn : n < 0
  · rw [if_pos hn]
    have hm : minusT (45 :: digsT n.natAbs) = true := by simp [minusT, nth]
    have hr : restT (45 :: digsT n.natAbs) = digsT n.natAbs := by simp [restT, hm]
    obtain ⟨g1, g2, _⟩ := digs_head n.natAbs
    have g3 := digs_length 8 n.natAbs (by have : (10 : Nat) ^ (8 + 1) = 1000000000 := by decide
                                          omega)
    have g4 := List.length_pos_iff.2 g1
    unfold intT
    rw [if_pos (by unfold smallT; rw [hr]; exact ⟨g4, by omega, fun h => by have := g2 h.1; omega⟩), hr, hm, digs_val]
    simp
    omega
  · rw [if_neg hn]
    obtain ⟨g1, g2, g5⟩ := digs_head n.toNat
    have g3 := digs_length 8 n.toNat (by have : (10 : Nat) ^ (8 + 1) = 1000000000 := by decide
                                         omega)
    have g4 := List.length_pos_iff.2 g1
    have hall := (valT_all (digsT n.toNat) 0).1 (by rw [digs_val]; rfl)
    have hm : minusT (digsT n.toNat) = false := by
      unfold minusT
      exact decide_eq_false (fun h => by omega)
    have hr : restT (digsT n.toNat) = digsT n.toNat := by simp [restT, hm]
    unfold intT
    rw [if_pos (by unfold smallT; rw [hr, hm]; refine ⟨g4, by omega, fun h => ?_⟩; have h0 := g2 h.1; rw [h0, digs_one (by omega)] at h; simp at h), hr, hm, digs_val]
    simp
    omega
theorem itoaT_lt {n : Int} : ∀ x ∈ itoaT n, x < 256 := by
  intro x hx
  unfold itoaT at hx
  obtain ⟨c, _, rfl⟩ := List.mem_map.1 hx
  exact c.toNat_lt
theorem itoa_str (n : Int) : (⟨(itoa n).toArray⟩ : ByteArray) = strOf (itoaT n) := by
  unfold strOf itoaT
  rw [List.map_map]
  congr 2
  have : (UInt8.ofNat ∘ fun x : UInt8 => x.toNat) = id := by
    funext x
    simp
  rw [this, List.map_id]

def isNumB (T : List Nat) : Bool := decide (numEnd T 0 = (T.length, true))
set_option maxHeartbeats 2000000 in
theorem isNumber_any (w : World) (S : List Nat) (hS : ∀ x ∈ S, x < 256) (hl : S.length ≤ 1000000) :
    Calls Tryd.prog 48 #[.string (strOf S)] w fun e w' => e = .returned (.bool (isNumB S)) ∧ Below w.heap.size w w' := by
  obtain ⟨cp, w1, hcv, hby, hcp, hb1, _⟩ := conv_str w S hS
  have HN := hide (numberEnd_calls w1 _ _ 0 S hby (Nat.zero_le _) (by omega))
  have hle := numEnd_le (T := S) (p := 0) (Nat.zero_le _)
  have HNB : Hid (isNumB S = decide (numEnd S 0 = (S.length, true))) := rfl
  generalize isNumB S = nb at *
  generalize numEnd S 0 = q at *
  obtain ⟨p, b⟩ := q
  simp only at HN hle
  have hsz := strOf_size S
  have HB := hide hb1
  clear hby hcp hb1 hS
  generalize strOf S = s at *
  generalize S.length = n at *
  cases b with
  | false =>
    have HR : Hid (nb = false) := by rw [HNB.out]; exact decide_eq_false (fun e => by cases e)
    clear HNB
    go_enter Tryd.func48, Tryd.ntmps48
    go_wp2_with fail
    refine HN.out.mono ?_
    rintro e w2 ⟨rfl, hw⟩
    rw [hw]
    clear hw
    go_wp2
    go_ret
    exact ⟨by rw [HR.out]; rfl, HB.out⟩
  | true =>
    by_cases hp : p = n
    · have HR : Hid (nb = true) := by rw [HNB.out, hp]; exact decide_eq_true rfl
      subst hp
      clear HNB hle
      have deq : ((p : Int) == (p : Int)) = true := by simp
      go_enter Tryd.func48, Tryd.ntmps48
      go_wp2_with fail
      refine HN.out.mono ?_
      rintro e w2 ⟨rfl, hw⟩
      rw [hw]
      clear hw
      go_wp2
      go_ret
      exact ⟨by rw [HR.out]; rfl, HB.out⟩
    · have HR : Hid (nb = false) := by rw [HNB.out]; exact decide_eq_false (fun e => hp (congrArg Prod.fst e))
      have deq : ((p : Int) == (n : Int)) = false := by simp; omega
      clear HNB hle hp
      go_enter Tryd.func48, Tryd.ntmps48
      go_wp2_with fail
      refine HN.out.mono ?_
      rintro e w2 ⟨rfl, hw⟩
      rw [hw]
      clear hw
      go_wp2
      go_ret
      exact ⟨by rw [HR.out]; rfl, HB.out⟩

/-- What strconv.ErrSyntax holds is an error. -/
def ErrS (w : World) : Prop := ∃ ev, w.cell? ⟨0, 0, none⟩ = some ev ∧ (ev = .nilIface ∨ ∃ te pe, ev = .iface te pe)
theorem ErrS.below {w w' : World} (h : ErrS w) (hb : Below w.heap.size w w') : ErrS w' := by
  obtain ⟨ev, h1, h2⟩ := h
  exact ⟨ev, (hb.cell (p := ⟨0, 0, none⟩) (block_lt h1)).trans h1, h2⟩

/-- What Int answers. -/
def intJ (k : Int) (T : List Nat) : Option Int := if k = 3 then intT T else none
def optV (o : Option Int) : Value := .tuple #[.int .i64 (o.getD 0), .bool o.isSome]
def IntR (k : Int) (T : List Nat) (w : World) (e : Ending) (w' : World) : Prop := e = .returned (optV (intJ k T)) ∧ Below w.heap.size w w'

theorem trim_size {T : List Nat} (hT : ∀ x ∈ T, x < 256) : (⟨(Lib.trimPrefix (strOf T).data.toList [45]).toArray⟩ : ByteArray).size = (restT T).length := by
  show (Lib.trimPrefix (strOf T).data.toList [45]).toArray.size = _
  rw [strOf_list, List.size_toArray]
  unfold Lib.trimPrefix Lib.hasPrefix restT
  cases T with
  | nil => rfl
  | cons c r =>
    have hc := map_nats (c :: r) hT rfl
    by_cases h : c = 45
    · subst h
      have hm : minusT (45 :: r) = true := by simp [minusT, nth]
      rw [hm]
      simp
    · have hm : minusT (c :: r) = false := by simp [minusT, nth, h]
      have hne : ((45 : UInt8) == UInt8.ofNat c) = false := by
        rw [beq_eq_false_iff_ne]
        intro e
        apply h
        have := congrArg UInt8.toNat e
        rw [hc] at this
        exact this.symm
      rw [hm]
      simp [List.isPrefixOf, hne]

set_option maxHeartbeats 8000000 in
theorem jint_any (w : World) (k : Int) (T : List Nat) (hT : ∀ x ∈ T, x < 256) (hl : T.length ≤ 100000) (ka la : Option Addr) (kn kc ln lc : Nat) (hE : ErrS w) :
    Calls Tryd.prog 20 #[vagg (k, strOf T, .slice ka kn kc, .slice la ln lc)] w (IntR k T w) := by
  unfold vagg
  simp only
  have hb1 := bel w (.cells #[.int .i64 k, .string (strOf T), .slice ka kn kc, .slice la ln lc] 27)
  have hx1 := BoxC.new w 27 #[.int .i64 k, .string (strOf T), .slice ka kn kc, .slice la ln lc]
  obtain ⟨w1, hw1⟩ : ∃ w1, w.alloc (.cells #[.int .i64 k, .string (strOf T), .slice ka kn kc, .slice la ln lc] 27) = w1 := ⟨_, rfl⟩
  rw [hw1] at hb1 hx1
  have HN := hide (isNumber_any w1 T hT (by omega))
  have HTR := hide (fun W => Tryd.strings_TrimPrefix (strOf T) ⟨#[45]⟩ W)
  have HTS : Hid ((⟨(Lib.trimPrefix (strOf T).data.toList (⟨#[45]⟩ : ByteArray).data.toList).toArray⟩ : ByteArray).size = (restT T).length) := trim_size hT
  have hsz := strOf_size T
  have HOK := hide (fun v (h : intT T = some v) W => Tryd.strconv_Atoi_ok (strOf T) (by omega) v (by rw [strOf_list]; exact (int_some hT h).2.2.2) W)
  have HSY := hide (fun (h : intT T = none) (hn : numEnd T 0 = (T.length, true)) (hne : T ≠ [45, 48]) (h9 : (restT T).length ≤ 9) => Tryd.strconv_Atoi_syntax (strOf T) (by omega) (by rw [strOf_list]; exact int_none hT h hn hne h9))
  have HSO := hide (fun v (h : intT T = some v) => int_some hT h)
  have hzz : ((strOf T).toList == (strOf [45, 48]).toList) = decide (T = [45, 48]) := str_eq hT (by decide)
  rw [show (strOf [45, 48]).toList = [45, 48] by rw [toList_data, strOf_list]; rfl] at hzz
  have HZZ := hide hzz
  have HNB : Hid (isNumB T = decide (numEnd T 0 = (T.length, true))) := rfl
  generalize strOf T = s at *
  generalize (⟨(Lib.trimPrefix s.data.toList (⟨#[45]⟩ : ByteArray).data.toList).toArray⟩ : ByteArray) = tr at *
  have HW1 := hide hw1
  have HB1 := hide hb1
  have HX1 := hide hx1
  have v0 : w1.cell? ⟨w.heap.size, 0, none⟩ = some (.int .i64 k) := hx1.cell 0
  have v1 : w1.cell? ⟨w.heap.size, 1, none⟩ = some (.string s) := hx1.cell 1
  have HE := hide (hE.below hb1)
  clear hb1 hx1 hw1 hE hT hzz
  by_cases h3 : k = 3
  rotate_left
  · have d3 : (k == 3) = false := by simpa using h3
    have d3' : (k != 3) = true := by simpa using h3
    have HR : Hid (intJ k T = none) := if_neg h3
    clear h3
    go_enter Tryd.func20, Tryd.ntmps20
    go_upto_region 1 with fail
    rw [HW1.out]
    clear HW1
    go_wp2
    go_ret2
    refine ⟨?_, HB1.out⟩
    rw [HR.out]
    rfl
  subst h3
  have HJ : Hid (intJ 3 T = intT T) := if_pos rfl
  cases hn : isNumB T with
  | false =>
    rw [hn] at HN
    have HR : Hid (intJ 3 T = none) := by
      rw [HNB.out] at hn
      rw [Hid, HJ.out]
      cases hi : intT T with
      | none => rfl
      | some v => exact absurd (HSO.out v hi).1 (of_decide_eq_false hn)
    clear hn
    go_enter Tryd.func20, Tryd.ntmps20
    go_upto_region 1 with fail
    rw [HW1.out]
    clear HW1
    go_wp2_with fail
    refine HN.out.mono ?_
    rintro e w2 ⟨rfl, hb2⟩
    have HB2 := hide (HB1.out.trans (hb2.mono HB1.out.size))
    have v1 : w2.cell? ⟨w.heap.size, 1, none⟩ = some (.string s) := (HX1.out.below hb2).cell 1
    clear hb2
    go_wp2
    go_ret2
    refine ⟨?_, HB2.out⟩
    rw [HR.out]
    rfl
  | true =>
    rw [hn] at HN
    have hnt : numEnd T 0 = (T.length, true) := by rw [HNB.out] at hn; exact of_decide_eq_true hn
    have HNT := hide hnt
    clear hn hnt
    by_cases hz : T = [45, 48]
    · have deq : (s.toList == [45, 48]) = true := by rw [HZZ.out]; exact decide_eq_true hz
      have HR : Hid (intJ 3 T = none) := by
        rw [Hid, HJ.out]
        cases hi : intT T with
        | none => rfl
        | some v => exact absurd hz (HSO.out v hi).2.1
      clear hz
      go_enter Tryd.func20, Tryd.ntmps20
      go_upto_region 1 with fail
      rw [HW1.out]
      clear HW1
      go_wp2_with fail
      refine HN.out.mono ?_
      rintro e w2 ⟨rfl, hb2⟩
      have HB2 := hide (HB1.out.trans (hb2.mono HB1.out.size))
      have v1 : w2.cell? ⟨w.heap.size, 1, none⟩ = some (.string s) := (HX1.out.below hb2).cell 1
      clear hb2
      go_wp2
      go_ret2
      refine ⟨?_, HB2.out⟩
      rw [HR.out]
      rfl
    · have deq : (s.toList == [45, 48]) = false := by rw [HZZ.out]; exact decide_eq_false hz
      have HZ := hide hz
      clear hz
      obtain ⟨rn, hrn⟩ : ∃ rn, (restT T).length = rn := ⟨_, rfl⟩
      have hts : tr.size = rn := by rw [HTS.out, hrn]
      have HRN := hide hrn
      clear hrn
      go_enter Tryd.func20, Tryd.ntmps20
      go_upto_region 1 with fail
      rw [HW1.out]
      clear HW1
      go_wp2_with fail
      refine HN.out.mono ?_
      rintro e w2 ⟨rfl, hb2⟩
      have HB2 := hide (HB1.out.trans (hb2.mono HB1.out.size))
      have HX2 := hide (HX1.out.below hb2)
      have HE2 := hide (HE.out.below hb2)
      have v1 : w2.cell? ⟨w.heap.size, 1, none⟩ = some (.string s) := HX2.out.cell 1
      clear hb2
      go_wp2_with fail
      refine (HTR.out w2).mono ?_
      rintro e w3 ⟨rfl, hw⟩
      rw [hw]
      clear hw
      by_cases h9 : rn ≤ 9
      rotate_left
      · have d9 : (rn : Int) > 9 := by omega
        have HR : Hid (intJ 3 T = none) := by
          rw [Hid, HJ.out]
          cases hi : intT T with
          | none => rfl
          | some v => exact absurd (by have := (HSO.out v hi).2.2.1; have := HRN.out; omega) h9
        clear h9
        go_wp2
        go_ret2
        refine ⟨?_, HB2.out⟩
        rw [HR.out]
        rfl
      · have d9 : ¬ (rn : Int) > 9 := by omega
        have H9 := hide h9
        clear h9
        cases hi : intT T with
        | some v =>
          have HC := hide (HOK.out v hi w2)
          have HR : Hid (intJ 3 T = some v) := by rw [Hid, HJ.out, hi]
          clear hi
          go_wp2_with fail
          refine HC.out.mono ?_
          rintro e w4 ⟨rfl, hw4⟩
          have hb4 : Below w2.heap.size w2 w4 := by
            rcases hw4 with rfl | ⟨t, rfl⟩
            · exact Below.refl _ _
            · exact Lib.bytesWorld_below _ _ _
          have HB4 := hide (HB2.out.trans (hb4.mono HB2.out.size))
          clear hb4 hw4 v1
          go_wp2
          go_ret2
          refine ⟨?_, HB4.out⟩
          rw [HR.out]
          rfl
        | none =>
          obtain ⟨ev, hev1, hev2⟩ := HE2.out
          have HC := hide (HSY.out hi HNT.out HZ.out (by have := HRN.out; have := H9.out; omega) ev w2 hev1 hev2)
          have HR : Hid (intJ 3 T = none) := by rw [Hid, HJ.out, hi]
          clear hi hev1 hev2
          go_wp2_with fail
          refine HC.out.mono ?_
          rintro e w4 ⟨N, rfl, _, _, hb4⟩
          have HB4 := hide (HB2.out.trans (hb4.mono HB2.out.size))
          clear hb4 v1
          go_wp2
          go_ret2
          refine ⟨?_, HB4.out⟩
          rw [HR.out]
          rfl

/-- The byte of a string. -/
theorem str_at {T : List Nat} (hT : ∀ x ∈ T, x < 256) (W : World) {j : Nat} (h : j < T.length) : (Instr.index 9 (.string (strOf T)) (.int .i64 (j : Int))).run Tryd.prog W = .ok (.int .u8 ((nth T j : Nat) : Int)) W := by
  rw [run_index_string W 9 (strOf T) .i64 _ Tryd.underlying9, dif_pos ⟨by omega, by rw [strOf_size]; omega⟩]
  have hx : T[j] < 256 := hT _ (List.getElem_mem h)
  have e : ∀ (l : List UInt8) (hj : j < (ByteArray.mk l.toArray).size), (ByteArray.mk l.toArray)[j] = l[j]'(by simpa [ByteArray.size] using hj) := fun l hj => rfl
  unfold strOf
  simp only [Int.toNat_natCast, e, List.getElem_map, nth, List.getElem?_eq_getElem h, Option.getD_some]
  rw [UInt8.toNat_ofNat']
  simp
  omega
theorem strOf_drop (T : List Nat) : (strOf T).extract 1 (strOf T).size = strOf (T.drop 1) := by
  apply ByteArray.ext
  rw [ByteArray.data_extract]
  unfold strOf
  have e : List.take (T.length - 1) (List.map UInt8.ofNat T).tail = (List.map UInt8.ofNat T).tail := List.take_of_length_le (by simp)
  simp [ByteArray.size, e]

theorem int_of_bad {T : List Nat} (h : ¬ smallT T) : intT T = none := if_neg h
theorem valT_step {acc c : Nat} {r : List Nat} (h : 48 ≤ c ∧ c ≤ 57) : valT acc (c :: r) = valT (acc * 10 + (c - 48)) r := by rw [valT, if_pos h]
theorem valT_stop {acc c : Nat} {r : List Nat} (h : ¬ (48 ≤ c ∧ c ≤ 57)) : valT acc (c :: r) = none := by rw [valT, if_neg h]
theorem drop_step {U : List Nat} {i : Nat} (h : i < U.length) : U.drop i = nth U i :: U.drop (i + 1) := by
  rw [List.drop_eq_getElem_cons h]
  simp [nth, h]

/-- The digits, gone through: behind the tests. -/
def RIntR (o : Option Int) (w : World) (e : Ending) (w' : World) : Prop := e = .returned (optV o) ∧ Below w.heap.size w w'

set_option maxHeartbeats 16000000 in
theorem rint_any (w : World) (k : Int) (T : List Nat) (hT : ∀ x ∈ T, x < 256) (hl : T.length ≤ 100000) (ka la : Option Addr) (kn kc ln lc : Nat) :
    Calls Tryd.prog 21 #[vagg (k, strOf T, .slice ka kn kc, .slice la ln lc)] w (RIntR (intJ k T) w) := by
  unfold vagg
  simp only
  have hb1 := bel w (.cells #[.int .i64 k, .string (strOf T), .slice ka kn kc, .slice la ln lc] 33)
  have hx1 := BoxC.new w 33 #[.int .i64 k, .string (strOf T), .slice ka kn kc, .slice la ln lc]
  obtain ⟨w1, hw1⟩ : ∃ w1, w.alloc (.cells #[.int .i64 k, .string (strOf T), .slice ka kn kc, .slice la ln lc] 33) = w1 := ⟨_, rfl⟩
  rw [hw1] at hb1 hx1
  have v0 : w1.cell? ⟨w.heap.size, 0, none⟩ = some (.int .i64 k) := hx1.cell 0
  have v1 : w1.cell? ⟨w.heap.size, 1, none⟩ = some (.string (strOf T)) := hx1.cell 1
  have HW1 := hide hw1
  have HB1 := hide hb1
  clear hb1 hx1 hw1
  by_cases h3 : k = 3
  rotate_left
  · have d3 : (k == 3) = false := by simpa using h3
    have d3' : (k != 3) = true := by simpa using h3
    have HR : Hid (intJ k T = none) := if_neg h3
    generalize strOf T = s at *
    clear h3
    go_enter Tryd.func21, Tryd.ntmps21
    go_upto_region 1 with fail
    rw [HW1.out]
    clear HW1
    go_wp2
    go_ret2
    refine ⟨?_, HB1.out⟩
    rw [HR.out]
    rfl
  subst h3
  have HJ : Hid (intJ 3 T = intT T) := if_pos rfl
  -- the string behind the minus
  obtain ⟨hrl, hrn⟩ := restT_length T
  have hU := rest_lt hT
  have hUl : (restT T).length ≤ 100000 := by omega
  have HIU : Hid (∀ (W : World) (j : Nat), j < (restT T).length → (Instr.index 9 (.string (strOf (restT T))) (.int .i64 (j : Int))).run Tryd.prog W = .ok (.int .u8 ((nth (restT T) j : Nat) : Int)) W) := fun W j h => str_at hU W h
  have HUB := hide hU
  have hdef : intT T = if smallT T then (valT 0 (restT T)).map (fun u : Nat => if minusT T then -(u : Int) else (u : Int)) else none := rfl
  have hsm : smallT T ↔ 1 ≤ (restT T).length ∧ (restT T).length ≤ 9 ∧ ¬ (nth (restT T) 0 = 48 ∧ (1 < (restT T).length ∨ minusT T = true)) := Iff.rfl
  have hsU := strOf_size (restT T)
  have hsT := strOf_size T
  cases hm : minusT T with
  | true =>
    have hm0 : 0 < T.length ∧ nth T 0 = 45 := of_decide_eq_true hm
    have q0 : ∀ W : World, (Instr.index 9 (.string (strOf T)) (.int .i64 0)).run Tryd.prog W = .ok (.int .u8 45) W := fun W => by
      have := str_at hT W hm0.1
      rw [hm0.2] at this
      exact this
    have q1 : ∀ W : World, (Instr.slice 9 (.string (strOf T)) (some (.int .i64 1)) none none).run Tryd.prog W = .ok (.string (strOf (restT T))) W := fun W => by
      have := run_slice_string_l (P := Tryd.prog) (w := W) 9 (strOf T) Tryd.underlying9 .i64 1 (by omega) (by rw [strOf_size]; omega)
      rw [this]
      have e : (strOf T).extract (1 : Int).toNat (strOf T).size = strOf (restT T) := by
        rw [show (1 : Int).toNat = 1 from rfl, strOf_drop]
        unfold restT
        rw [hm]
        rfl
      rw [e]
    have d0 : (T.length : Int) > 0 := by omega
    rw [hm] at hdef hsm
    simp only [if_true] at hdef
    have HDEF := hide hdef
    have HSM := hide hsm
    clear hm0 hm hdef hsm hrl hrn hU hUl hT
    generalize strOf T = s at *
    generalize T.length = tl at *
    generalize restT T = U at *
    obtain ⟨n, hn⟩ : ∃ n, U.length = n := ⟨_, rfl⟩
    have HUN := hide hn
    rw [hn] at hsU HSM
    generalize strOf U = u at *
    clear hn
    by_cases hn1 : n < 1
    · have d7 : (n : Int) < 1 := by omega
      go_enter Tryd.func21, Tryd.ntmps21
      go_upto_region 1 with fail
      rw [HW1.out]
      clear HW1
      have HR : Hid (intJ 3 T = none) := by
        rw [Hid, HJ.out]
        exact int_of_bad (fun h => by have h := HSM.out.1 h; omega)
      go_wp2
      go_ret2
      refine ⟨?_, HB1.out⟩
      rw [HR.out]
      rfl
    have d7 : ¬ (n : Int) < 1 := by omega
    by_cases h9 : n ≤ 9
    rotate_left
    · have d8 : (n : Int) > 9 := by omega
      go_enter Tryd.func21, Tryd.ntmps21
      go_upto_region 1 with fail
      rw [HW1.out]
      clear HW1
      have HR : Hid (intJ 3 T = none) := by
        rw [Hid, HJ.out]
        exact int_of_bad (fun h => by have h := HSM.out.1 h; omega)
      go_wp2
      go_ret2
      refine ⟨?_, HB1.out⟩
      rw [HR.out]
      rfl
    have d8 : ¬ (n : Int) > 9 := by omega
    have H9 := hide h9
    have q7 : ∀ W : World, (Instr.index 9 (.string u) (.int .i64 0)).run Tryd.prog W = .ok (.int .u8 ((nth U 0 : Nat) : Int)) W := fun W => HIU.out W 0 (by rw [HUN.out]; omega)
    obtain ⟨x0, hx0⟩ : ∃ x0, nth U 0 = x0 := ⟨_, rfl⟩
    rw [hx0] at q7 HSM
    clear hx0
    by_cases hz : x0 = 48
    · subst hz
      have qz : ∀ W : World, (Instr.index 9 (.string u) (.int .i64 0)).run Tryd.prog W = .ok (.int .u8 48) W := q7
      clear q7
      by_cases hn2 : 1 < n
      · have d9 : (n : Int) > 1 := by omega
        go_enter Tryd.func21, Tryd.ntmps21
        go_upto_region 1 with fail
        rw [HW1.out]
        clear HW1
        have HR : Hid (intJ 3 T = none) := by
          rw [Hid, HJ.out]
          exact int_of_bad (fun h => by have h := HSM.out.1 h; exact h.2.2 ⟨rfl, .inr rfl⟩)
        go_wp2
        go_ret2
        refine ⟨?_, HB1.out⟩
        rw [HR.out]
        rfl
      · have d9 : ¬ (n : Int) > 1 := by omega
        go_enter Tryd.func21, Tryd.ntmps21
        go_upto_region 1 with fail
        rw [HW1.out]
        clear HW1
        have HR : Hid (intJ 3 T = none) := by
          rw [Hid, HJ.out]
          exact int_of_bad (fun h => by have h := HSM.out.1 h; exact h.2.2 ⟨rfl, .inr rfl⟩)
        go_wp2
        go_ret2
        refine ⟨?_, HB1.out⟩
        rw [HR.out]
        rfl
    have d10 : ((x0 : Int) == 48) = false := by rw [beq_eq_false_iff_ne]; omega
    have HZ := hide hz
    clear hz
    have HS : Hid (smallT T) := HSM.out.2 (by exact ⟨by omega, by omega, fun h => HZ.out h.1⟩)
    clear hn1
    go_enter Tryd.func21, Tryd.ntmps21
    go_upto_region 1 with fail
    rw [HW1.out]
    clear HW1
    have HV : Hid (intJ 3 T = (valT 0 U).map (fun u : Nat => -(u : Int))) := by
      rw [Hid, HJ.out, HDEF.out, if_pos HS.out]
      try rfl
    go_wp2
    go_loopw [6, 7] (fun nv iv wr => ∃ i acc : Nat, i ≤ n ∧ iv = .int .i64 (i : Int) ∧ nv = .int .i64 (acc : Int) ∧ acc < 10 ^ i ∧ valT acc (U.drop i) = valT 0 U ∧ wr = w1) (fun _ iv _ => n - (RowKit.intOf iv).toNat)
    case atStart => exact ⟨0, 0, Nat.zero_le _, rfl, rfl, by omega, by rw [List.drop_zero], rfl⟩
    case round =>
      obtain ⟨i, acc, hi, rfl, rfl, hacc, hval, rfl⟩ := hrel
      have HACC := hide hacc
      have HVAL := hide hval
      clear hacc hval
      by_cases hlt : i < n
      · have d1 : (i : Int) < (n : Int) := by omega
        have d2 : (0 : Int) ≤ (i : Int) := by omega
        have qi := fun W => HIU.out W i (by rw [HUN.out]; exact hlt)
        have hstep := drop_step (U := U) (i := i) (by rw [HUN.out]; exact hlt)
        have HXB : Hid (nth U i < 256) := nth_byt HUB.out i
        have hval := HVAL.out
        rw [hstep] at hval
        obtain ⟨x, hx⟩ : ∃ x, nth U i = x := ⟨_, rfl⟩
        rw [hx] at qi hval HXB
        have HILT := hide hlt
        clear hstep hlt hx
        by_cases hdig : 48 ≤ x ∧ x ≤ 57
        · obtain ⟨y, rfl⟩ : ∃ y, x = 48 + y := ⟨x - 48, by omega⟩
          rw [valT_step hdig] at hval
          have hsm : acc < 100000000 := by
            have h1 := HACC.out
            have h2 := Nat.pow_le_pow_right (show 0 < 10 by omega) (show i ≤ 8 by have := HILT.out; have := H9.out; omega)
            have h3 : (10 : Nat) ^ 8 = 100000000 := by decide
            omega
          obtain ⟨a1, ha1⟩ : ∃ a1, acc * 10 + (48 + y - 48) = a1 := ⟨_, rfl⟩
          obtain ⟨i1, hi1⟩ : ∃ i1, i + 1 = i1 := ⟨_, rfl⟩
          rw [ha1, hi1] at hval
          have e1 : (i : Int) + 1 = (i1 : Int) := by omega
          have e2 : ((48 + y : Nat) : Int) - 48 = (y : Int) := by omega
          have e3 : (acc : Int) * 10 + (y : Int) = (a1 : Int) := by omega
          have g1 : (i1 : Int) ≤ 9 := by have := HILT.out; have := H9.out; omega
          have g2 : (y : Int) ≤ 9 := by omega
          have g3 : (a1 : Int) ≤ 1000000000 := by omega
          have g4 : (acc : Int) * 10 ≤ 1000000000 := by omega
          have g5 : (0 : Int) ≤ (acc : Int) * 10 := by omega
          have d3 : ¬ ((48 + y : Nat) : Int) < 48 := by omega
          have d4 : ¬ ((48 + y : Nat) : Int) > 57 := by omega
          have HA1 : Hid (a1 < 10 ^ i1) := by
            rw [Hid, ← hi1, Nat.pow_succ]
            have := HACC.out
            omega
          have HVAL2 := hide hval
          have HI1 := hide hi1
          generalize ((48 + y : Nat) : Int) = xz at *
          clear hval hi1 ha1 hdig hsm hi
          go_wp2
          go_roundw
          case rel => exact ⟨i1, a1, by have := HILT.out; have := HI1.out; omega, by first | rfl | go_num, by first | rfl | go_num, HA1.out, HVAL2.out, by first | rfl | trivial⟩
          case measure => have := HILT.out; have := HI1.out; simp [RowKit.intOf]; omega
        · rw [valT_stop hdig] at hval
          have HR : Hid (intJ 3 T = none) := by rw [Hid, HV.out, ← hval]; rfl
          clear hval
          by_cases h48 : x < 48
          · have d3 : (x : Int) < 48 := by omega
            clear hdig h48 hi
            go_wp2
            go_ret2
            refine ⟨?_, HB1.out⟩
            rw [HR.out]
            rfl
          · have d3 : ¬ (x : Int) < 48 := by omega
            have d4 : (x : Int) > 57 := by omega
            clear hdig h48 hi
            go_wp2
            go_ret2
            refine ⟨?_, HB1.out⟩
            rw [HR.out]
            rfl
      · obtain rfl : i = n := by omega
        have d1 : ¬ (i : Int) < (i : Int) := by omega
        have hval := HVAL.out
        rw [List.drop_eq_nil_of_le (by rw [HUN.out]; exact Nat.le_refl _)] at hval
        have HR : Hid (intJ 3 T = some (-(acc : Int))) := by rw [Hid, HV.out, ← hval]; rfl
        have g4 : (acc : Int) ≤ 1000000000 := by
          have h1 := HACC.out
          have h2 := Nat.pow_le_pow_right (show 0 < 10 by omega) (show i ≤ 9 by have := H9.out; omega)
          have h3 : (10 : Nat) ^ 9 = 1000000000 := by decide
          omega
        clear hlt hval hi
        go_wp2
        go_ret2
        refine ⟨?_, HB1.out⟩
        rw [HR.out]
        rfl
  | false =>
    have hr : restT T = T := by unfold restT; rw [hm]; rfl
    have hsr : strOf (restT T) = strOf T := by rw [hr]
    have hlr : T.length = (restT T).length := by rw [hr]
    have hmr : ¬ (0 < T.length ∧ nth T 0 = 45) := of_decide_eq_false hm
    have dm : nth (restT T) 0 = 45 → (restT T).length = 0 := fun e => by
      rw [hr] at e ⊢
      rcases Nat.eq_zero_or_pos T.length with h | h
      · exact h
      · exact absurd ⟨h, e⟩ hmr
    rw [← hsr] at v1 HW1 ⊢
    rw [hm] at hdef hsm
    simp only [Bool.false_eq_true, if_false] at hdef
    have HDEF := hide hdef
    have HSM := hide hsm
    clear hr hsr hlr hmr hm hdef hsm hrl hrn hU hUl hT hsT
    generalize restT T = U at *
    obtain ⟨n, hn⟩ : ∃ n, U.length = n := ⟨_, rfl⟩
    have HUN := hide hn
    rw [hn] at hsU HSM
    generalize strOf U = u at *
    rw [hn] at dm
    clear hn
    by_cases hn0 : n = 0
    · have d0 : ¬ (n : Int) > 0 := by omega
      have d7 : (n : Int) < 1 := by omega
      clear dm
      go_enter Tryd.func21, Tryd.ntmps21
      go_upto_region 1 with fail
      rw [HW1.out]
      clear HW1
      have HR : Hid (intJ 3 T = none) := by
        rw [Hid, HJ.out]
        exact int_of_bad (fun h => by have h := HSM.out.1 h; omega)
      go_wp2
      go_ret2
      refine ⟨?_, HB1.out⟩
      rw [HR.out]
      rfl
    have d0 : (n : Int) > 0 := by omega
    have q0 : ∀ W : World, (Instr.index 9 (.string u) (.int .i64 0)).run Tryd.prog W = .ok (.int .u8 ((nth U 0 : Nat) : Int)) W := fun W => HIU.out W 0 (by rw [HUN.out]; omega)
    have dm2 : (((nth U 0 : Nat) : Int) == 45) = false := by
      rw [beq_eq_false_iff_ne]
      intro e
      exact hn0 (dm (by omega))
    clear dm
    have hn1 : ¬ n < 1 := by omega
    have d7 : ¬ (n : Int) < 1 := by omega
    by_cases h9 : n ≤ 9
    rotate_left
    · have d8 : (n : Int) > 9 := by omega
      go_enter Tryd.func21, Tryd.ntmps21
      go_upto_region 1 with fail
      rw [HW1.out]
      clear HW1
      have HR : Hid (intJ 3 T = none) := by
        rw [Hid, HJ.out]
        exact int_of_bad (fun h => by have h := HSM.out.1 h; omega)
      go_wp2
      go_ret2
      refine ⟨?_, HB1.out⟩
      rw [HR.out]
      rfl
    have d8 : ¬ (n : Int) > 9 := by omega
    have H9 := hide h9
    obtain ⟨x0, hx0⟩ : ∃ x0, nth U 0 = x0 := ⟨_, rfl⟩
    rw [hx0] at q0 dm2 HSM
    clear hx0
    by_cases hz : x0 = 48
    · subst hz
      have qz : ∀ W : World, (Instr.index 9 (.string u) (.int .i64 0)).run Tryd.prog W = .ok (.int .u8 48) W := q0
      clear q0 dm2
      by_cases hn2 : 1 < n
      · have d9 : (n : Int) > 1 := by omega
        go_enter Tryd.func21, Tryd.ntmps21
        go_upto_region 1 with fail
        rw [HW1.out]
        clear HW1
        have HR : Hid (intJ 3 T = none) := by
          rw [Hid, HJ.out]
          exact int_of_bad (fun h => by have h := HSM.out.1 h; exact h.2.2 ⟨rfl, .inl hn2⟩)
        go_wp2
        go_ret2
        refine ⟨?_, HB1.out⟩
        rw [HR.out]
        rfl
      · have d9 : ¬ (n : Int) > 1 := by omega
        have HN2 := hide hn2
        have HS : Hid (smallT T) := HSM.out.2 (by refine ⟨by omega, by omega, fun h => ?_⟩; rcases h.2 with h | h; exact HN2.out h; cases h)
        clear hn1
        go_enter Tryd.func21, Tryd.ntmps21
        go_upto_region 1 with fail
        rw [HW1.out]
        clear HW1
        have HV : Hid (intJ 3 T = (valT 0 U).map (fun u : Nat => (u : Int))) := by
          rw [Hid, HJ.out, HDEF.out, if_pos HS.out]
          try rfl
        go_wp2
        go_loopw [6, 7] (fun nv iv wr => ∃ i acc : Nat, i ≤ n ∧ iv = .int .i64 (i : Int) ∧ nv = .int .i64 (acc : Int) ∧ acc < 10 ^ i ∧ valT acc (U.drop i) = valT 0 U ∧ wr = w1) (fun _ iv _ => n - (RowKit.intOf iv).toNat)
        case atStart => exact ⟨0, 0, Nat.zero_le _, rfl, rfl, by omega, by rw [List.drop_zero], rfl⟩
        case round =>
          obtain ⟨i, acc, hi, rfl, rfl, hacc, hval, rfl⟩ := hrel
          have HACC := hide hacc
          have HVAL := hide hval
          clear hacc hval
          by_cases hlt : i < n
          · have d1 : (i : Int) < (n : Int) := by omega
            have d2 : (0 : Int) ≤ (i : Int) := by omega
            have qi := fun W => HIU.out W i (by rw [HUN.out]; exact hlt)
            have hstep := drop_step (U := U) (i := i) (by rw [HUN.out]; exact hlt)
            have HXB : Hid (nth U i < 256) := nth_byt HUB.out i
            have hval := HVAL.out
            rw [hstep] at hval
            obtain ⟨x, hx⟩ : ∃ x, nth U i = x := ⟨_, rfl⟩
            rw [hx] at qi hval HXB
            have HILT := hide hlt
            clear hstep hlt hx
            by_cases hdig : 48 ≤ x ∧ x ≤ 57
            · obtain ⟨y, rfl⟩ : ∃ y, x = 48 + y := ⟨x - 48, by omega⟩
              rw [valT_step hdig] at hval
              have hsm : acc < 100000000 := by
                have h1 := HACC.out
                have h2 := Nat.pow_le_pow_right (show 0 < 10 by omega) (show i ≤ 8 by have := HILT.out; have := H9.out; omega)
                have h3 : (10 : Nat) ^ 8 = 100000000 := by decide
                omega
              obtain ⟨a1, ha1⟩ : ∃ a1, acc * 10 + (48 + y - 48) = a1 := ⟨_, rfl⟩
              obtain ⟨i1, hi1⟩ : ∃ i1, i + 1 = i1 := ⟨_, rfl⟩
              rw [ha1, hi1] at hval
              have e1 : (i : Int) + 1 = (i1 : Int) := by omega
              have e2 : ((48 + y : Nat) : Int) - 48 = (y : Int) := by omega
              have e3 : (acc : Int) * 10 + (y : Int) = (a1 : Int) := by omega
              have g1 : (i1 : Int) ≤ 9 := by have := HILT.out; have := H9.out; omega
              have g2 : (y : Int) ≤ 9 := by omega
              have g3 : (a1 : Int) ≤ 1000000000 := by omega
              have g4 : (acc : Int) * 10 ≤ 1000000000 := by omega
              have g5 : (0 : Int) ≤ (acc : Int) * 10 := by omega
              have d3 : ¬ ((48 + y : Nat) : Int) < 48 := by omega
              have d4 : ¬ ((48 + y : Nat) : Int) > 57 := by omega
              have HA1 : Hid (a1 < 10 ^ i1) := by
                rw [Hid, ← hi1, Nat.pow_succ]
                have := HACC.out
                omega
              have HVAL2 := hide hval
              have HI1 := hide hi1
              generalize ((48 + y : Nat) : Int) = xz at *
              clear hval hi1 ha1 hdig hsm hi
              go_wp2
              go_roundw
              case rel => exact ⟨i1, a1, by have := HILT.out; have := HI1.out; omega, by first | rfl | go_num, by first | rfl | go_num, HA1.out, HVAL2.out, by first | rfl | trivial⟩
              case measure => have := HILT.out; have := HI1.out; simp [RowKit.intOf]; omega
            · rw [valT_stop hdig] at hval
              have HR : Hid (intJ 3 T = none) := by rw [Hid, HV.out, ← hval]; rfl
              clear hval
              by_cases h48 : x < 48
              · have d3 : (x : Int) < 48 := by omega
                clear hdig h48 hi
                go_wp2
                go_ret2
                refine ⟨?_, HB1.out⟩
                rw [HR.out]
                rfl
              · have d3 : ¬ (x : Int) < 48 := by omega
                have d4 : (x : Int) > 57 := by omega
                clear hdig h48 hi
                go_wp2
                go_ret2
                refine ⟨?_, HB1.out⟩
                rw [HR.out]
                rfl
          · obtain rfl : i = n := by omega
            have d1 : ¬ (i : Int) < (i : Int) := by omega
            have hval := HVAL.out
            rw [List.drop_eq_nil_of_le (by rw [HUN.out]; exact Nat.le_refl _)] at hval
            have HR : Hid (intJ 3 T = some ((acc : Int))) := by rw [Hid, HV.out, ← hval]; rfl
            have g4 : (acc : Int) ≤ 1000000000 := by
              have h1 := HACC.out
              have h2 := Nat.pow_le_pow_right (show 0 < 10 by omega) (show i ≤ 9 by have := H9.out; omega)
              have h3 : (10 : Nat) ^ 9 = 1000000000 := by decide
              omega
            clear hlt hval hi
            go_wp2
            go_ret2
            refine ⟨?_, HB1.out⟩
            rw [HR.out]
            rfl
    have d10 : ((x0 : Int) == 48) = false := by rw [beq_eq_false_iff_ne]; omega
    have HZ := hide hz
    clear hz
    have HS : Hid (smallT T) := HSM.out.2 (by exact ⟨by omega, by omega, fun h => HZ.out h.1⟩)
    clear hn1
    go_enter Tryd.func21, Tryd.ntmps21
    go_upto_region 1 with fail
    rw [HW1.out]
    clear HW1
    have HV : Hid (intJ 3 T = (valT 0 U).map (fun u : Nat => (u : Int))) := by
      rw [Hid, HJ.out, HDEF.out, if_pos HS.out]
      try rfl
    go_wp2
    go_loopw [6, 7] (fun nv iv wr => ∃ i acc : Nat, i ≤ n ∧ iv = .int .i64 (i : Int) ∧ nv = .int .i64 (acc : Int) ∧ acc < 10 ^ i ∧ valT acc (U.drop i) = valT 0 U ∧ wr = w1) (fun _ iv _ => n - (RowKit.intOf iv).toNat)
    case atStart => exact ⟨0, 0, Nat.zero_le _, rfl, rfl, by omega, by rw [List.drop_zero], rfl⟩
    case round =>
      obtain ⟨i, acc, hi, rfl, rfl, hacc, hval, rfl⟩ := hrel
      have HACC := hide hacc
      have HVAL := hide hval
      clear hacc hval
      by_cases hlt : i < n
      · have d1 : (i : Int) < (n : Int) := by omega
        have d2 : (0 : Int) ≤ (i : Int) := by omega
        have qi := fun W => HIU.out W i (by rw [HUN.out]; exact hlt)
        have hstep := drop_step (U := U) (i := i) (by rw [HUN.out]; exact hlt)
        have HXB : Hid (nth U i < 256) := nth_byt HUB.out i
        have hval := HVAL.out
        rw [hstep] at hval
        obtain ⟨x, hx⟩ : ∃ x, nth U i = x := ⟨_, rfl⟩
        rw [hx] at qi hval HXB
        have HILT := hide hlt
        clear hstep hlt hx
        by_cases hdig : 48 ≤ x ∧ x ≤ 57
        · obtain ⟨y, rfl⟩ : ∃ y, x = 48 + y := ⟨x - 48, by omega⟩
          rw [valT_step hdig] at hval
          have hsm : acc < 100000000 := by
            have h1 := HACC.out
            have h2 := Nat.pow_le_pow_right (show 0 < 10 by omega) (show i ≤ 8 by have := HILT.out; have := H9.out; omega)
            have h3 : (10 : Nat) ^ 8 = 100000000 := by decide
            omega
          obtain ⟨a1, ha1⟩ : ∃ a1, acc * 10 + (48 + y - 48) = a1 := ⟨_, rfl⟩
          obtain ⟨i1, hi1⟩ : ∃ i1, i + 1 = i1 := ⟨_, rfl⟩
          rw [ha1, hi1] at hval
          have e1 : (i : Int) + 1 = (i1 : Int) := by omega
          have e2 : ((48 + y : Nat) : Int) - 48 = (y : Int) := by omega
          have e3 : (acc : Int) * 10 + (y : Int) = (a1 : Int) := by omega
          have g1 : (i1 : Int) ≤ 9 := by have := HILT.out; have := H9.out; omega
          have g2 : (y : Int) ≤ 9 := by omega
          have g3 : (a1 : Int) ≤ 1000000000 := by omega
          have g4 : (acc : Int) * 10 ≤ 1000000000 := by omega
          have g5 : (0 : Int) ≤ (acc : Int) * 10 := by omega
          have d3 : ¬ ((48 + y : Nat) : Int) < 48 := by omega
          have d4 : ¬ ((48 + y : Nat) : Int) > 57 := by omega
          have HA1 : Hid (a1 < 10 ^ i1) := by
            rw [Hid, ← hi1, Nat.pow_succ]
            have := HACC.out
            omega
          have HVAL2 := hide hval
          have HI1 := hide hi1
          generalize ((48 + y : Nat) : Int) = xz at *
          clear hval hi1 ha1 hdig hsm hi
          go_wp2
          go_roundw
          case rel => exact ⟨i1, a1, by have := HILT.out; have := HI1.out; omega, by first | rfl | go_num, by first | rfl | go_num, HA1.out, HVAL2.out, by first | rfl | trivial⟩
          case measure => have := HILT.out; have := HI1.out; simp [RowKit.intOf]; omega
        · rw [valT_stop hdig] at hval
          have HR : Hid (intJ 3 T = none) := by rw [Hid, HV.out, ← hval]; rfl
          clear hval
          by_cases h48 : x < 48
          · have d3 : (x : Int) < 48 := by omega
            clear hdig h48 hi
            go_wp2
            go_ret2
            refine ⟨?_, HB1.out⟩
            rw [HR.out]
            rfl
          · have d3 : ¬ (x : Int) < 48 := by omega
            have d4 : (x : Int) > 57 := by omega
            clear hdig h48 hi
            go_wp2
            go_ret2
            refine ⟨?_, HB1.out⟩
            rw [HR.out]
            rfl
      · obtain rfl : i = n := by omega
        have d1 : ¬ (i : Int) < (i : Int) := by omega
        have hval := HVAL.out
        rw [List.drop_eq_nil_of_le (by rw [HUN.out]; exact Nat.le_refl _)] at hval
        have HR : Hid (intJ 3 T = some ((acc : Int))) := by rw [Hid, HV.out, ← hval]; rfl
        have g4 : (acc : Int) ≤ 1000000000 := by
          have h1 := HACC.out
          have h2 := Nat.pow_le_pow_right (show 0 < 10 by omega) (show i ≤ 9 by have := H9.out; omega)
          have h3 : (10 : Nat) ^ 9 = 1000000000 := by decide
          omega
        clear hlt hval hi
        go_wp2
        go_ret2
        refine ⟨?_, HB1.out⟩
        rw [HR.out]
        rfl

end Go.Proofs.YtcedcbonphgecaaDoor
