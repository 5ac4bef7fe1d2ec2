/- The reference's way to a letter: of each length a number is guessed, and written again; it comes to what the decoder tells. -/
import Derived.Test.YtbdpmpepmjpadaaGreatDoorUEnc
namespace Go.Proofs.YtbdpmpepmjpadaaGreatDoor
set_option linter.unusedVariables false
set_option linter.unusedSimpArgs false
open Go Go.RowKit Go.Shelf Go.Lib

def guess2 (x0 x1 : Nat) : Int := ((x0 : Int) - 192) * 64 + (x1 : Int) - 128
def guess3 (x0 x1 x2 : Nat) : Int := (((x0 : Int) - 224) * 64 + (x1 : Int) - 128) * 64 + (x2 : Int) - 128
def guess4 (x0 x1 x2 x3 : Nat) : Int := ((((x0 : Int) - 240) * 64 + (x1 : Int) - 128) * 64 + (x2 : Int) - 128) * 64 + (x3 : Int) - 128

/-- A number is a letter's, and its bytes are these. -/
def hits (g : Int) (L : List Nat) : Prop := isLet g ∧ encL g.toNat = L

theorem hit1 {x0 : Nat} (h0 : x0 < 256) : hits (x0 : Int) [x0] ↔ x0 < 128 := by
  unfold hits isLet encL
  rw [Int.toNat_natCast]
  constructor
  · rintro ⟨_, h⟩
    split at h
    · assumption
    · repeat' split at h
      all_goals simp at h
  · intro h
    rw [if_pos h]
    exact ⟨by omega, rfl⟩

theorem hit2 {x0 x1 : Nat} (h0 : x0 < 256) (h1 : x1 < 256) : hits (guess2 x0 x1) [x0, x1] ↔ (x0 / 32 = 6 ∧ x1 / 64 = 2 ∧ x0 % 32 * 64 + x1 % 64 ≥ 128) := by
  unfold hits isLet encL guess2
  constructor
  · rintro ⟨⟨ha, hb, hc⟩, h⟩
    obtain ⟨G, hG⟩ : ∃ G : Nat, (G : Int) = ((x0 : Int) - 192) * 64 + (x1 : Int) - 128 := ⟨(((x0 : Int) - 192) * 64 + (x1 : Int) - 128).toNat, by omega⟩
    rw [← hG, Int.toNat_natCast] at h
    repeat' split at h
    all_goals simp at h
    omega
  · rintro ⟨ha, hb, hc⟩
    have e : ((x0 : Int) - 192) * 64 + (x1 : Int) - 128 = ((x0 % 32 * 64 + x1 % 64 : Nat) : Int) := by omega
    rw [e, Int.toNat_natCast, if_neg (by omega), if_pos (by omega)]
    refine ⟨by omega, ?_⟩
    simp only [List.cons.injEq, and_true]
    omega

theorem hit3 {x0 x1 x2 : Nat} (h0 : x0 < 256) (h1 : x1 < 256) (h2 : x2 < 256) : hits (guess3 x0 x1 x2) [x0, x1, x2] ↔ (x0 / 16 = 14 ∧ x1 / 64 = 2 ∧ x2 / 64 = 2 ∧ x0 % 16 * 4096 + x1 % 64 * 64 + x2 % 64 ≥ 2048 ∧ (x0 % 16 * 4096 + x1 % 64 * 64 + x2 % 64 < 55296 ∨ 57344 ≤ x0 % 16 * 4096 + x1 % 64 * 64 + x2 % 64)) := by
  unfold hits isLet encL guess3
  constructor
  · rintro ⟨⟨ha, hb, hc⟩, h⟩
    obtain ⟨G, hG⟩ : ∃ G : Nat, (G : Int) = (((x0 : Int) - 224) * 64 + (x1 : Int) - 128) * 64 + (x2 : Int) - 128 := ⟨((((x0 : Int) - 224) * 64 + (x1 : Int) - 128) * 64 + (x2 : Int) - 128).toNat, by omega⟩
    rw [← hG, Int.toNat_natCast] at h
    repeat' split at h
    all_goals simp at h
    omega
  · rintro ⟨ha, hb, hc, hd, he⟩
    have e : (((x0 : Int) - 224) * 64 + (x1 : Int) - 128) * 64 + (x2 : Int) - 128 = ((x0 % 16 * 4096 + x1 % 64 * 64 + x2 % 64 : Nat) : Int) := by omega
    rw [e, Int.toNat_natCast, if_neg (by omega), if_neg (by omega), if_pos (by omega)]
    refine ⟨by omega, ?_⟩
    simp only [List.cons.injEq, and_true]
    omega

theorem hit4 {x0 x1 x2 x3 : Nat} (h0 : x0 < 256) (h1 : x1 < 256) (h2 : x2 < 256) (h3 : x3 < 256) : hits (guess4 x0 x1 x2 x3) [x0, x1, x2, x3] ↔ (x0 / 8 = 30 ∧ x1 / 64 = 2 ∧ x2 / 64 = 2 ∧ x3 / 64 = 2 ∧ x0 % 8 * 262144 + x1 % 64 * 4096 + x2 % 64 * 64 + x3 % 64 ≥ 65536 ∧ x0 % 8 * 262144 + x1 % 64 * 4096 + x2 % 64 * 64 + x3 % 64 ≤ 1114111) := by
  unfold hits isLet encL guess4
  constructor
  · rintro ⟨⟨ha, hb, hc⟩, h⟩
    obtain ⟨G, hG⟩ : ∃ G : Nat, (G : Int) = ((((x0 : Int) - 240) * 64 + (x1 : Int) - 128) * 64 + (x2 : Int) - 128) * 64 + (x3 : Int) - 128 := ⟨(((((x0 : Int) - 240) * 64 + (x1 : Int) - 128) * 64 + (x2 : Int) - 128) * 64 + (x3 : Int) - 128).toNat, by omega⟩
    rw [← hG, Int.toNat_natCast] at h
    repeat' split at h
    all_goals simp at h
    omega
  · rintro ⟨ha, hb, hc, hd, he, hf⟩
    have e : ((((x0 : Int) - 240) * 64 + (x1 : Int) - 128) * 64 + (x2 : Int) - 128) * 64 + (x3 : Int) - 128 = ((x0 % 8 * 262144 + x1 % 64 * 4096 + x2 % 64 * 64 + x3 % 64 : Nat) : Int) := by omega
    rw [e, Int.toNat_natCast, if_neg (by omega), if_neg (by omega), if_neg (by omega)]
    refine ⟨by omega, ?_⟩
    simp only [List.cons.injEq, and_true]
    omega

/-- What the decoder tells, by the guesses. -/
theorem dec_hits {n x0 x1 x2 x3 : Nat} (hn : 1 ≤ n) (h0 : x0 < 256) (h1 : x1 < 256) (h2 : x2 < 256) (h3 : x3 < 256) :
    (x0 < 128 → decodeN n x0 x1 x2 x3 = (x0, 1)) ∧
    (¬ x0 < 128 → 2 ≤ n ∧ hits (guess2 x0 x1) [x0, x1] → decodeN n x0 x1 x2 x3 = ((guess2 x0 x1).toNat, 2)) ∧
    (¬ x0 < 128 → ¬ (2 ≤ n ∧ hits (guess2 x0 x1) [x0, x1]) → 3 ≤ n ∧ hits (guess3 x0 x1 x2) [x0, x1, x2] → decodeN n x0 x1 x2 x3 = ((guess3 x0 x1 x2).toNat, 3)) ∧
    (¬ x0 < 128 → ¬ (2 ≤ n ∧ hits (guess2 x0 x1) [x0, x1]) → ¬ (3 ≤ n ∧ hits (guess3 x0 x1 x2) [x0, x1, x2]) → 4 ≤ n ∧ hits (guess4 x0 x1 x2 x3) [x0, x1, x2, x3] → decodeN n x0 x1 x2 x3 = ((guess4 x0 x1 x2 x3).toNat, 4)) ∧
    (¬ x0 < 128 → ¬ (2 ≤ n ∧ hits (guess2 x0 x1) [x0, x1]) → ¬ (3 ≤ n ∧ hits (guess3 x0 x1 x2) [x0, x1, x2]) → ¬ (4 ≤ n ∧ hits (guess4 x0 x1 x2 x3) [x0, x1, x2, x3]) → decodeN n x0 x1 x2 x3 = (65533, 1)) := by
  rw [hit2 h0 h1, hit3 h0 h1 h2, hit4 h0 h1 h2 h3]
  have e2 : guess2 x0 x1 = ((x0 : Int) - 192) * 64 + (x1 : Int) - 128 := rfl
  have e3 : guess3 x0 x1 x2 = (((x0 : Int) - 224) * 64 + (x1 : Int) - 128) * 64 + (x2 : Int) - 128 := rfl
  have e4 : guess4 x0 x1 x2 x3 = ((((x0 : Int) - 240) * 64 + (x1 : Int) - 128) * 64 + (x2 : Int) - 128) * 64 + (x3 : Int) - 128 := rfl
  refine ⟨fun a => ?_, fun a b => ?_, fun a b c => ?_, fun a b c d => ?_, fun a b c d => ?_⟩
  all_goals
    unfold decodeN
    repeat' split
    all_goals first | rfl | (exfalso; omega) | (simp only [Prod.mk.injEq, and_true]; omega)

end Go.Proofs.YtbdpmpepmjpadaaGreatDoor
