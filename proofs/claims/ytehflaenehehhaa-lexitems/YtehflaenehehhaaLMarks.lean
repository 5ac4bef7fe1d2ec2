/- Which bytes are blanks or of remarks, byte by byte, and by pieces. -/
import Derived.Test.YtehflaenehehhaaLTok
namespace Go.Proofs.Ytehflaenehehhaa
set_option linter.unusedVariables false
set_option linter.unusedSimpArgs false
set_option maxRecDepth 100000
open Go Go.RowKit Go.Shelf Go.Lib

/-- Does a remark begin at a byte? -/
def slashB (T : List Nat) (i : Nat) : Bool := decide (nth T i = 47) && decide (i + 1 < T.length) && decide (nth T (i + 1) = 47)
/-- Is it a remark at a byte, if it was (or wasn't) at the one ahead? -/
def remStep (T : List Nat) (i : Nat) (r : Bool) : Bool := (r && !decide (nth T i = 10)) || slashB T i
/-- Is it a remark ahead of a byte? -/
def remAt (T : List Nat) : Nat → Bool
  | 0 => false
  | i + 1 => remStep T i (remAt T i)
def markB (T : List Nat) (i : Nat) : Bool := remAt T (i + 1) || blankB (nth T i)
def markAt (T : List Nat) (i : Nat) : Int := if markB T i then 1 else 0

/-- A byte that is neither a blank nor begins a remark. -/
def plainAt (T : List Nat) (i : Nat) : Prop := blankB (nth T i) = false ∧ slashB T i = false

theorem blank_no10 {x : Nat} (h : blankB x = false) : x ≠ 10 := by rintro rfl; cases h
theorem blank_slash {T : List Nat} {i : Nat} (h : blankB (nth T i) = true) : slashB T i = false := by
  unfold slashB
  have : nth T i ≠ 47 := by intro e; rw [e] at h; cases h
  simp [this]

theorem plain_run {T : List Nat} {p : Nat} (h0 : remAt T p = false) : ∀ z, (∀ j, j < z → plainAt T (p + j)) → remAt T (p + z) = false := by
  intro z
  induction z with
  | zero => intro _; exact h0
  | succ z ih =>
    intro h
    have e := ih (fun j hj => h j (by omega))
    show remStep T (p + z) (remAt T (p + z)) = false
    rw [e]
    unfold remStep
    rw [(h z (by omega)).2]
    rfl

theorem drop_len (T : List Nat) (p : Nat) : (T.drop p).length = T.length - p := List.length_drop

theorem runL_is (p : Nat → Bool) : ∀ (T : List Nat), (∀ j, j < runL p T → p (nth T j) = true) ∧ (runL p T < T.length → p (nth T (runL p T)) = false) := by
  intro T
  induction T with
  | nil => exact ⟨fun j hj => by simp [runL] at hj, fun h => by simp [runL] at h⟩
  | cons a l ih =>
    by_cases ha : p a = true
    · have e : runL p (a :: l) = runL p l + 1 := by simp [runL, ha]
      rw [e]
      refine ⟨fun j hj => ?_, fun h => ?_⟩
      · cases j with
        | zero => exact ha
        | succ j => exact ih.1 j (by omega)
      · exact ih.2 (by simpa using h)
    · have e : runL p (a :: l) = 0 := by simp [runL, ha]
      rw [e]
      exact ⟨fun j hj => by omega, fun _ => by simpa [nth] using ha⟩

theorem letter_plain {x : Nat} (h : nameB x = true) : blankB x = false ∧ x ≠ 47 := by
  unfold nameB letterB digitB at h
  unfold blankB
  simp at h ⊢
  omega
theorem one_all47 : ∀ x : Fin 256, oneB x.val = true → blankB x.val = false := by decide
theorem pair_all : ∀ s : ByteArray, pairB s = true → s.data.toList = [45, 62] ∨ s.data.toList = [60, 61] ∨ s.data.toList = [62, 61] ∨ s.data.toList = [33, 61] := by
  intro s h
  unfold pairB pairsL at h
  simp at h
  rcases h with h | h | h | h
  · exact .inl h
  · exact .inr (.inl h)
  · exact .inr (.inr (.inl h))
  · exact .inr (.inr (.inr h))
theorem two_bytes {U : List Nat} (hs : ∀ x ∈ U, x < 256) (h : twoB U = true) : 2 ≤ U.length ∧ (nth U 0 = 45 ∨ nth U 0 = 60 ∨ nth U 0 = 62 ∨ nth U 0 = 33) ∧ (nth U 1 = 62 ∨ nth U 1 = 61) := by
  unfold twoB at h
  simp at h
  obtain ⟨h1, h2⟩ := h
  match U, h1 with
  | a :: b :: l, _ =>
    have e := pair_all _ h2
    rw [strOf_list] at e
    have ha : a < 256 := hs a (by simp)
    have hb : b < 256 := hs b (by simp)
    have u : ∀ x y : Nat, x < 256 → UInt8.ofNat x = UInt8.ofNat y → y < 256 → x = y := fun x y hx e hy => by
      have := congrArg UInt8.toNat e
      simp at this
      omega
    have q : ∀ y z : Nat, y < 256 → z < 256 → ([UInt8.ofNat a, UInt8.ofNat b] : List UInt8) = [UInt8.ofNat y, UInt8.ofNat z] → a = y ∧ b = z := fun y z hy hz e => by
      simp only [List.cons.injEq, and_true] at e
      exact ⟨u a y ha e.1 hy, u b z hb e.2 hz⟩
    refine ⟨by simp, ?_⟩
    show (a = 45 ∨ a = 60 ∨ a = 62 ∨ a = 33) ∧ (b = 62 ∨ b = 61)
    rcases e with e | e | e | e
    · have := q 45 62 (by decide) (by decide) e; omega
    · have := q 60 61 (by decide) (by decide) e; omega
    · have := q 62 61 (by decide) (by decide) e; omega
    · have := q 33 61 (by decide) (by decide) e; omega

theorem slash_rem {T : List Nat} {p : Nat} (hp : p < T.length) : slashB T p = remB (T.drop p) := by
  unfold slashB remB
  rw [drop_len, nth_drop, nth_drop, Nat.add_zero]
  by_cases h : p + 1 < T.length
  · have h2 : 2 ≤ T.length - p := by omega
    simp [h, h2]
  · have h2 : ¬ 2 ≤ T.length - p := by omega
    simp [h, h2]

/-- What a piece is made of. -/
theorem piece_parts {T : List Nat} (hs : ∀ x ∈ T, x < 256) {p : Nat} (hp : p < T.length) :
    (kindAt T p = -1 ∧ sizeAt T p = runL blankB (T.drop p)) ∨
    (kindAt T p = -2 ∧ remB (T.drop p) = true ∧ sizeAt T p = runL lineB (T.drop p)) ∨
    ((kindAt T p = -3 ∨ 0 < kindAt T p) ∧ ∀ j, j < sizeAt T p → plainAt T (p + j)) := by
  have hsd : ∀ x ∈ T.drop p, x < 256 := fun x hx => hs x (List.mem_of_mem_drop hx)
  unfold kindAt sizeAt
  by_cases g1 : blankB (nth (T.drop p) 0) = true
  · left
    unfold firstL
    rw [if_pos g1]
    exact ⟨rfl, rfl⟩
  by_cases g2 : remB (T.drop p) = true
  · right; left
    unfold firstL
    rw [if_neg g1, if_pos g2]
    exact ⟨rfl, g2, rfl⟩
  right; right
  have g1' : blankB (nth T p) = false := by rw [nth_drop, Nat.add_zero] at g1; simpa using g1
  have g2' : slashB T p = false := by rw [slash_rem hp]; simpa using g2
  have byRun : ∀ q : Nat → Bool, (∀ x, q x = true → nameB x = true) → ∀ j, j < runL q (T.drop p) → plainAt T (p + j) := fun q hq j hj => by
    have e := (runL_is q (T.drop p)).1 j hj
    rw [nth_drop] at e
    obtain ⟨e1, e2⟩ := letter_plain (hq _ e)
    exact ⟨e1, by unfold slashB; simp [e2]⟩
  unfold firstL
  rw [if_neg g1, if_neg g2]
  by_cases g3 : letterB (nth (T.drop p) 0) = true
  · rw [if_pos g3]
    refine ⟨.inr ?_, byRun nameB (fun _ h => h)⟩
    dsimp only
    split <;> decide
  rw [if_neg g3]
  by_cases g4 : digitB (nth (T.drop p) 0) = true
  · rw [if_pos g4]
    exact ⟨.inr (show (0 : Int) < 3 by decide), byRun digitB (fun x h => by unfold nameB; rw [h]; simp)⟩
  rw [if_neg g4]
  by_cases g5 : 0 < signL (T.drop p)
  · rw [if_pos g5]
    refine ⟨.inr (show (0 : Int) < 4 by decide), ?_⟩
    dsimp only
    unfold signL
    by_cases g6 : twoB (T.drop p) = true
    · rw [if_pos g6]
      obtain ⟨_, _, h1⟩ := two_bytes hsd g6
      rw [nth_drop] at h1
      intro j hj
      rcases Nat.lt_succ_iff_lt_or_eq.1 hj with g | g
      · rw [show j = 0 by omega]
        exact ⟨g1', g2'⟩
      · subst g
        refine ⟨?_, ?_⟩
        · rcases h1 with e | e <;> rw [e] <;> rfl
        · unfold slashB; rcases h1 with e | e <;> rw [e] <;> simp
    · rw [if_neg g6]
      intro j hj
      have : j = 0 := by split at hj <;> omega
      subst this
      exact ⟨g1', g2'⟩
  · rw [if_neg g5]
    refine ⟨.inl rfl, fun j hj => ?_⟩
    dsimp only at hj
    rw [show j = 0 by omega]
    exact ⟨g1', g2'⟩

theorem blank_run {T : List Nat} {p z : Nat} (h0 : remAt T p = true → nth T p = 10) (hb : ∀ j, j < z → blankB (nth T (p + j)) = true) : ∀ j, j < z → remAt T (p + j + 1) = false := by
  intro j
  induction j with
  | zero =>
    intro hj
    show remStep T p (remAt T p) = false
    unfold remStep
    rw [blank_slash (show blankB (nth T p) = true from hb 0 hj)]
    cases e : remAt T p with
    | false => rfl
    | true => rw [h0 e]; rfl
  | succ j ih =>
    intro hj
    show remStep T (p + (j + 1)) (remAt T (p + j + 1)) = false
    rw [ih (by omega)]
    unfold remStep
    rw [blank_slash (hb _ hj)]
    rfl
theorem rem_run {T : List Nat} {p z : Nat} (h0 : slashB T p = true) (hb : ∀ j, j < z → nth T (p + j) ≠ 10) : ∀ j, j < z → remAt T (p + j + 1) = true := by
  intro j
  induction j with
  | zero =>
    intro hj
    show remStep T p (remAt T p) = true
    unfold remStep
    rw [h0]
    simp
  | succ j ih =>
    intro hj
    show remStep T (p + (j + 1)) (remAt T (p + j + 1)) = true
    rw [ih (by omega)]
    unfold remStep
    simp [hb _ hj]

/-- Of a piece all bytes are marked, or none is; behind it, where it goes on, a remark's end is told by its byte. -/
theorem piece_marks {T : List Nat} (hs : ∀ x ∈ T, x < 256) {p : Nat} (hp : p < T.length) (h0 : remAt T p = true → nth T p = 10) :
    (∀ j, j < sizeAt T p → markB T (p + j) = decide (kindAt T p = -1 ∨ kindAt T p = -2)) ∧ (p + sizeAt T p < T.length → remAt T (p + sizeAt T p) = true → nth T (p + sizeAt T p) = 10) := by
  have s1 := (size_bounds hp).1
  rcases piece_parts hs hp with ⟨hk, hz⟩ | ⟨hk, hr, hz⟩ | ⟨hk, hpl⟩
  · have hb : ∀ j, j < sizeAt T p → blankB (nth T (p + j)) = true := fun j hj => by
      rw [hz] at hj
      have := (runL_is blankB (T.drop p)).1 j hj
      rwa [nth_drop] at this
    have hrn := blank_run h0 hb
    refine ⟨fun j hj => ?_, fun _ e => ?_⟩
    · unfold markB
      rw [hb j hj, hk]
      simp
    · have := hrn (sizeAt T p - 1) (by omega)
      rw [show p + (sizeAt T p - 1) + 1 = p + sizeAt T p by omega, e] at this
      cases this
  · have hb : ∀ j, j < sizeAt T p → nth T (p + j) ≠ 10 := fun j hj => by
      rw [hz] at hj
      have := (runL_is lineB (T.drop p)).1 j hj
      rw [nth_drop] at this
      unfold lineB at this
      simpa using this
    have hrn := rem_run (by rw [slash_rem hp]; exact hr) hb
    refine ⟨fun j hj => ?_, fun hlt _ => ?_⟩
    · unfold markB
      rw [hrn j hj, hk]
      simp
    · have := (runL_is lineB (T.drop p)).2 (by rw [drop_len]; omega)
      rw [nth_drop, ← hz] at this
      unfold lineB at this
      simpa using this
  · have h00 : remAt T p = false := by
      cases e : remAt T p with
      | false => rfl
      | true => exact absurd (h0 e) (blank_no10 (hpl 0 (by omega)).1)
    have hf : ∀ j, j ≤ sizeAt T p → remAt T (p + j) = false := fun j hj => plain_run h00 j (fun i hi => hpl i (by omega))
    refine ⟨fun j hj => ?_, fun _ e => ?_⟩
    · unfold markB
      rw [show p + j + 1 = p + (j + 1) by omega, hf (j + 1) (by omega), (hpl j hj).1]
      have : ¬ (kindAt T p = -1 ∨ kindAt T p = -2) := by omega
      simp [this]
    · rw [hf _ (Nat.le_refl _)] at e
      cases e

theorem rem_inv {T : List Nat} (hs : ∀ x ∈ T, x < 256) {N : Nat} (h1 : ∀ k, k < N → posP T k < T.length) : ∀ k, k < N → remAt T (posP T k) = true → nth T (posP T k) = 10 := by
  intro k
  induction k with
  | zero => intro _ e; cases e
  | succ k ih =>
    intro hk e
    have hl := h1 (k + 1) hk
    have := (piece_marks hs (h1 k (by omega)) (ih (by omega))).2
    exact this hl e

theorem marks_at {T : List Nat} (hs : ∀ x ∈ T, x < 256) {N : Nat} (h1 : ∀ k, k < N → posP T k < T.length) {k : Nat} (hk : k < N) {i : Nat} (hi : posP T k ≤ i) (hi2 : i < posP T (k + 1)) : markB T i = decide (kindAt T (posP T k) = -1 ∨ kindAt T (posP T k) = -2) := by
  have e : posP T (k + 1) = posP T k + sizeAt T (posP T k) := rfl
  have := (piece_marks hs (h1 k hk) (rem_inv hs h1 k hk)).1 (i - posP T k) (by omega)
  rwa [show posP T k + (i - posP T k) = i by omega] at this

end Go.Proofs.Ytehflaenehehhaa
