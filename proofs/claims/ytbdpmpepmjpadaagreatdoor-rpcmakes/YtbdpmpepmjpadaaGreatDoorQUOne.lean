/- The reference's One: the letter that begins at a byte. -/
import Derived.Test.YtbdpmpepmjpadaaGreatDoorQUConv
import Derived.Test.YtbdpmpepmjpadaaGreatDoorJArr
import Derived.Deep.QuietTactic
import Derived.BigQuiet
import Derived.Deep.RegionHeld3
namespace Go.Proofs.YtbdpmpepmjpadaaGreatDoor
set_option linter.unusedVariables false
set_option linter.unusedSimpArgs false
set_option maxRecDepth 100000
open Go Go.RowKit Go.Shelf Go.Lib

theorem take_nth {L : List Nat} {m : Nat} (h : m ≤ L.length) : L.take m = (List.range m).map (nth L) := by
  apply List.ext_getElem
  · simp; omega
  · intro i h1 h2
    have hi : i < L.length := by simp at h1; omega
    simp [nth, List.getElem?_eq_getElem hi]
theorem dec_at {T : List Nat} {p x0 x1 x2 x3 : Nat} (hp : p < T.length) (h0 : nth T (p + 0) = x0) (h1 : nth T (p + 1) = x1) (h2 : nth T (p + 2) = x2) (h3 : nth T (p + 3) = x3) : decL (T.drop p) = decodeN (T.length - p) x0 x1 x2 x3 := by
  unfold decL
  rw [if_neg (by rw [List.length_drop]; omega), List.length_drop, nth_drop, nth_drop, nth_drop, nth_drop, h0, h1, h2, h3]
/-- The guess, so far. -/
def part (R1 : Int) (x1 x2 x3 : Nat) : Nat → Int
  | 2 => R1 * 64 + (x1 : Int) - 128
  | 3 => (R1 * 64 + (x1 : Int) - 128) * 64 + (x2 : Int) - 128
  | 4 => ((R1 * 64 + (x1 : Int) - 128) * 64 + (x2 : Int) - 128) * 64 + (x3 : Int) - 128
  | _ => R1

/-- What was guessed ahead of length m has missed. -/
def Missed (n x0 x1 x2 x3 m : Nat) : Prop := (1 < m → ¬ x0 < 128) ∧ (2 < m → ¬ (2 ≤ n ∧ hits (guess2 x0 x1) [x0, x1])) ∧ (3 < m → ¬ (3 ≤ n ∧ hits (guess3 x0 x1 x2) [x0, x1, x2])) ∧ (4 < m → ¬ (4 ≤ n ∧ hits (guess4 x0 x1 x2 x3) [x0, x1, x2, x3]))

theorem one_hit1 {T : List Nat} {p x0 x1 x2 x3 : Nat} (hp : p < T.length) (h0 : nth T (p + 0) = x0) (h1 : nth T (p + 1) = x1) (h2 : nth T (p + 2) = x2) (h3 : nth T (p + 3) = x3) (l0 : x0 < 256) (l1 : x1 < 256) (l2 : x2 < 256) (l3 : x3 < 256) (hM : Missed (T.length - p) x0 x1 x2 x3 1) (hpm : p + 1 ≤ T.length) {g : Nat} (hh : hits (g : Int) [x0]) (hg : (g : Int) = (x0 : Int)) : runeAt T p ≠ -1 ∧ (g : Int) = runeAt T p ∧ (1 : Int) = ((sizeAt T p : Nat) : Int) := by
  have hd := (dec_hits (n := T.length - p) (by omega) l0 l1 l2 l3).1 ((hit1 l0).1 (by rw [← hg]; exact hh))
  rw [← dec_at hp h0 h1 h2 h3] at hd
  have hsz : sizeAt T p = 1 := by unfold sizeAt; rw [hd]
  have hr : runeAt T p = (g : Int) := by
    unfold runeAt
    rw [hd, if_neg (by have := (hit1 l0).1 (by rw [← hg]; exact hh); simp; omega)]
    omega
  rw [hr, hsz]
  exact ⟨by omega, rfl, rfl⟩
theorem one_hit2 {T : List Nat} {p x0 x1 x2 x3 : Nat} (hp : p < T.length) (h0 : nth T (p + 0) = x0) (h1 : nth T (p + 1) = x1) (h2 : nth T (p + 2) = x2) (h3 : nth T (p + 3) = x3) (l0 : x0 < 256) (l1 : x1 < 256) (l2 : x2 < 256) (l3 : x3 < 256) (hM : Missed (T.length - p) x0 x1 x2 x3 2) (hpm : p + 2 ≤ T.length) {g : Nat} (hh : hits (g : Int) [x0, x1]) (hg : (g : Int) = (guess2 x0 x1)) : runeAt T p ≠ -1 ∧ (g : Int) = runeAt T p ∧ (2 : Int) = ((sizeAt T p : Nat) : Int) := by
  have hd := (dec_hits (n := T.length - p) (by omega) l0 l1 l2 l3).2.1 (hM.1 (by omega)) ⟨by omega, by rw [← hg]; exact hh⟩
  rw [← dec_at hp h0 h1 h2 h3] at hd
  have hsz : sizeAt T p = 2 := by unfold sizeAt; rw [hd]
  have hr : runeAt T p = (g : Int) := by
    unfold runeAt
    rw [hd, if_neg (by simp)]
    rw [← hg]; simp
  rw [hr, hsz]
  exact ⟨by omega, rfl, rfl⟩
theorem one_hit3 {T : List Nat} {p x0 x1 x2 x3 : Nat} (hp : p < T.length) (h0 : nth T (p + 0) = x0) (h1 : nth T (p + 1) = x1) (h2 : nth T (p + 2) = x2) (h3 : nth T (p + 3) = x3) (l0 : x0 < 256) (l1 : x1 < 256) (l2 : x2 < 256) (l3 : x3 < 256) (hM : Missed (T.length - p) x0 x1 x2 x3 3) (hpm : p + 3 ≤ T.length) {g : Nat} (hh : hits (g : Int) [x0, x1, x2]) (hg : (g : Int) = (guess3 x0 x1 x2)) : runeAt T p ≠ -1 ∧ (g : Int) = runeAt T p ∧ (3 : Int) = ((sizeAt T p : Nat) : Int) := by
  have hd := (dec_hits (n := T.length - p) (by omega) l0 l1 l2 l3).2.2.1 (hM.1 (by omega)) (hM.2.1 (by omega)) ⟨by omega, by rw [← hg]; exact hh⟩
  rw [← dec_at hp h0 h1 h2 h3] at hd
  have hsz : sizeAt T p = 3 := by unfold sizeAt; rw [hd]
  have hr : runeAt T p = (g : Int) := by
    unfold runeAt
    rw [hd, if_neg (by simp)]
    rw [← hg]; simp
  rw [hr, hsz]
  exact ⟨by omega, rfl, rfl⟩
theorem one_hit4 {T : List Nat} {p x0 x1 x2 x3 : Nat} (hp : p < T.length) (h0 : nth T (p + 0) = x0) (h1 : nth T (p + 1) = x1) (h2 : nth T (p + 2) = x2) (h3 : nth T (p + 3) = x3) (l0 : x0 < 256) (l1 : x1 < 256) (l2 : x2 < 256) (l3 : x3 < 256) (hM : Missed (T.length - p) x0 x1 x2 x3 4) (hpm : p + 4 ≤ T.length) {g : Nat} (hh : hits (g : Int) [x0, x1, x2, x3]) (hg : (g : Int) = (guess4 x0 x1 x2 x3)) : runeAt T p ≠ -1 ∧ (g : Int) = runeAt T p ∧ (4 : Int) = ((sizeAt T p : Nat) : Int) := by
  have hd := (dec_hits (n := T.length - p) (by omega) l0 l1 l2 l3).2.2.2.1 (hM.1 (by omega)) (hM.2.1 (by omega)) (hM.2.2.1 (by omega)) ⟨by omega, by rw [← hg]; exact hh⟩
  rw [← dec_at hp h0 h1 h2 h3] at hd
  have hsz : sizeAt T p = 4 := by unfold sizeAt; rw [hd]
  have hr : runeAt T p = (g : Int) := by
    unfold runeAt
    rw [hd, if_neg (by simp)]
    rw [← hg]; simp
  rw [hr, hsz]
  exact ⟨by omega, rfl, rfl⟩
theorem str_neU {A B : List Nat} (h : ¬ strOf A = strOf B) : ((strOf A).toList == (strOf B).toList) = false := by
  refine beq_eq_false_iff_ne.2 (fun k => h ?_)
  have k2 : A.map UInt8.ofNat = B.map UInt8.ofNat := by simpa [strOf] using k
  unfold strOf
  rw [k2]
theorem missed1 {n x0 x1 x2 x3 : Nat} (l0 : x0 < 256) (hM : Missed n x0 x1 x2 x3 1) (hh : ¬ hits (x0 : Int) [x0]) : Missed n x0 x1 x2 x3 2 :=
  ⟨fun _ k => hh ((hit1 l0).2 k), fun k => by omega, fun k => by omega, fun k => by omega⟩
theorem missed2 {n x0 x1 x2 x3 : Nat} (l0 : x0 < 256) (hM : Missed n x0 x1 x2 x3 2) (hh : ¬ hits (guess2 x0 x1) [x0, x1]) : Missed n x0 x1 x2 x3 3 :=
  ⟨fun _ => hM.1 (by omega), fun _ k => hh k.2, fun k => by omega, fun k => by omega⟩
theorem missed3 {n x0 x1 x2 x3 : Nat} (l0 : x0 < 256) (hM : Missed n x0 x1 x2 x3 3) (hh : ¬ hits (guess3 x0 x1 x2) [x0, x1, x2]) : Missed n x0 x1 x2 x3 4 :=
  ⟨fun _ => hM.1 (by omega), fun _ => hM.2.1 (by omega), fun _ k => hh k.2, fun k => by omega⟩
theorem missed4 {n x0 x1 x2 x3 : Nat} (l0 : x0 < 256) (hM : Missed n x0 x1 x2 x3 4) (hh : ¬ hits (guess4 x0 x1 x2 x3) [x0, x1, x2, x3]) : Missed n x0 x1 x2 x3 5 :=
  ⟨fun _ => hM.1 (by omega), fun _ => hM.2.1 (by omega), fun _ => hM.2.2.1 (by omega), fun _ k => hh k.2⟩
theorem one_none {T : List Nat} {p x0 x1 x2 x3 : Nat} (hp : p < T.length) (h0 : nth T (p + 0) = x0) (h1 : nth T (p + 1) = x1) (h2 : nth T (p + 2) = x2) (h3 : nth T (p + 3) = x3) (l0 : x0 < 256) (l1 : x1 < 256) (l2 : x2 < 256) (l3 : x3 < 256) {m : Nat} (hM : Missed (T.length - p) x0 x1 x2 x3 m) (hm1 : 1 ≤ m) (hm5 : m ≤ 5) (hno : ¬ (m ≤ 4 ∧ p + m ≤ T.length)) : runeAt T p = -1 := by
  have hd := (dec_hits (n := T.length - p) (by omega) l0 l1 l2 l3).2.2.2.2 (hM.1 (by omega))
    (fun k => by by_cases h : 2 < m; exact hM.2.1 h k; omega) (fun k => by by_cases h : 3 < m; exact hM.2.2.1 h k; omega) (fun k => by by_cases h : 4 < m; exact hM.2.2.2 h k; omega)
  rw [← dec_at hp h0 h1 h2 h3] at hd
  unfold runeAt
  rw [hd, if_pos ⟨rfl, rfl⟩]

set_option maxHeartbeats 4000000 in
theorem rone_calls (w : World) (b off cap : Nat) (T : List Nat) (p : Nat) (h : Byts w (.slice (some ⟨b, off, none⟩) T.length cap) T) (hcap : T.length ≤ cap) (hp : p < T.length) (hlen : T.length ≤ 1000000000) :
    Calls Tryz.prog 80 #[.slice (some ⟨b, off, none⟩) T.length cap, .int .i64 (p : Int)] w fun e w' => ∃ r s : Int, e = .returned (.tuple #[.int .i64 r, .int .i64 s]) ∧ ((runeAt T p = -1 ∧ r = -1 ∧ s = 0) ∨ (runeAt T p ≠ -1 ∧ r = runeAt T p ∧ s = ((sizeAt T p : Nat) : Int))) ∧ Below w.heap.size w w' := by
  have H := hide h
  obtain ⟨ao, cap', e, hb, hc⟩ := h
  cases e
  have l0 := nth_lt hb (p + 0)
  have l1 := nth_lt hb (p + 1)
  have l2 := nth_lt hb (p + 2)
  have l3 := nth_lt hb (p + 3)
  have Hc := hide (fun j (hj : p + j < T.length) => Byts.at (n := 0) (cap := 0) hc hj)
  clear hc hb
  generalize hx0 : nth T (p + 0) = x0 at *
  generalize hx1 : nth T (p + 1) = x1 at *
  generalize hx2 : nth T (p + 2) = x2 at *
  generalize hx3 : nth T (p + 3) = x3 at *
  have HX0 := hide hx0
  have HX1 := hide hx1
  have HX2 := hide hx2
  have HX3 := hide hx3
  clear hx0 hx1 hx2 hx3
  go_enter Tryz.func80, Tryz.ntmps80
  go_wp2
  go_loopw [6] (fun i wr => ∃ m : Nat, 1 ≤ m ∧ m ≤ 5 ∧ i = .int .i64 (m : Int) ∧ Missed (T.length - p) x0 x1 x2 x3 m ∧ Below w.heap.size w wr) (fun i _ => 6 - (RowKit.intOf i).toNat)
  case atStart => exact ⟨1, by omega, by omega, rfl, ⟨fun k => by omega, fun k => by omega, fun k => by omega, fun k => by omega⟩, Below.refl _ _⟩
  case round =>
    obtain ⟨m, hm1, hm5, rfl, hmiss, hB⟩ := hrel
    by_cases hgo : m ≤ 4 ∧ p + m ≤ T.length
    · obtain ⟨h4, hpm⟩ := hgo
      have HM := hide hmiss
      have HCc := hide (fun j (hj : p + j < T.length) => (hB.cell (p := ⟨b, off + (p + j), none⟩) (block_lt (Hc.out j hj))).trans (Hc.out j hj))
      have KB := hide hB
      have HBw := hide (H.out.below hB)
      have hm : m = 1 ∨ m = 2 ∨ m = 3 ∨ m = 4 := by omega
      have dp : (p : Int) < (T.length : Int) := by omega
      have dp0 : (0 : Int) ≤ (p : Int) := by omega
      have c0 := HCc.out 0 (by omega)
      rw [HX0.out, Nat.add_zero] at c0
      have w0 : IntKind.i64.wrap (x0 : Int) = (x0 : Int) := by rw [IntKind.wrap_i64]; omega
      clear hmiss hB
      rcases hm with rfl | rfl | rfl | rfl
      · have g2 : (p : Int) + 1 ≤ (T.length : Int) := by omega
        have g3 : IntKind.i64.wrap ((p : Int) + 1) = (p : Int) + 1 := by rw [IntKind.wrap_i64]; omega
        obtain ⟨R1, hR1⟩ : ∃ R1 : Int, (x0 : Int) - 0 = R1 := ⟨_, rfl⟩
        have w1 : IntKind.i64.wrap R1 = R1 := by rw [IntKind.wrap_i64]; omega
        have HG : Hid (part R1 x1 x2 x3 1 = (x0 : Int)) := by show R1 = _; omega
        have HRb : Hid (-240 ≤ R1 ∧ R1 ≤ 255) := by show _ ∧ _; omega
        have hR0 : (x0 : Int) = R1 := by omega
        rw [hR0] at w0 c0
        go_wp2
        go_loopw [7, 8] (fun r k wv => ∃ (q : Nat) (M : Int), 1 ≤ q ∧ q ≤ 1 ∧ k = .int .i64 (q : Int) ∧ r = .int .i64 M ∧ M = part R1 x1 x2 x3 q ∧ wv = wr) (fun _ k _ => 6 - (RowKit.intOf k).toNat)
        case atStart => exact ⟨1, R1, by omega, by omega, rfl, rfl, rfl, rfl⟩
        case round =>
          obtain ⟨q, M, hq1, hq2, rfl, rfl, hM, rfl⟩ := hrel
          by_cases hq : q < 1
          · omega
          · obtain rfl : q = 1 := by omega
            have HM2 := hide hM
            clear hM
            go_wp2_with fail
            by_cases hl : isLet M
            · obtain ⟨g, rfl⟩ : ∃ g : Nat, M = (g : Int) := ⟨M.toNat, by have := hl.1; omega⟩
              refine (rencode_calls _ g hl).mono ?_
              rintro e W2 ⟨v, rfl, hv, hb2⟩
              obtain ⟨va, vc, rfl, hv1, hv2⟩ := id hv
              have HV := hide hv
              have HB2 := hide hb2
              generalize hEl : (encL g).length = el at *
              have HL := hide hl
              clear hv hb2 hv1 hv2 hl
              have dpm : (p : Int) ≤ (p : Int) + 1 := by omega
              have dpc : (p : Int) + 1 ≤ (cap : Int) := by omega
              have hcp : ¬ cap = p := by omega
              have htn : ((p : Int) + 1).toNat - p = 1 := by omega
              have HC2 := hide (HBw.out.below HB2.out)
              have hT2 : (T.drop p).take 1 = [x0] := by rw [take_nth (by rw [List.length_drop]; omega)]; simp [List.range, List.range.loop, nth_drop, show nth T p = x0 from HX0.out, HX1.out, HX2.out, HX3.out]
              have HT2 := hide hT2
              clear hT2
              by_cases hit : encL g = [x0]
              · have HI := hide hit
                clear hit
                have he : (T.drop p).take 1 = encL g := by rw [HI.out, HT2.out]
                have hcv : Byts W2 (.slice (some ⟨b, off + p, none⟩) 1 (cap - p)) (encL g) := by rw [← he]; exact HC2.out.cut (by omega)
                have HCV := hide hcv
                clear he hcv
                go_wp2
                refine wp_region_held_drew (S := fun W => (convert 22 9 (.slice va el vc)).run Tryz.prog W = .ok (.string (strOf (encL g))) W ∧ (convert 22 9 (.slice (some ⟨b, off + p, none⟩) 1 (cap - p))).run Tryz.prog W = .ok (.string (strOf (encL g))) W) (by kernel_rfl) ⟨conv_byts (HV.out.below ((Below.refl _ W2).drew)), conv_byts (HCV.out.below ((Below.refl _ W2).drew))⟩ (fun hHeld => ?_)
                refine takeD (i := 0) (v := ?v1a_0) (some 61) rfl (by kernel_rfl) (by kernel_rfl) (by kernel_rfl) (fun _ _ _ h => h) (Or.inl ⟨by rfl, ?hy1a_0⟩) (by assumption) (by rfl) ?rest1a_0
                case hy1a_0 => first | (intro w hSw; (try dsimp only at hSw); go_simp; done) | (intro w hSw; (try dsimp only at hSw); go_simp; with_reducible rfl)
                try simp only [Act.put, List.setIfInBounds_toArray, List.set_cons_zero, List.set_cons_succ]
                refine takeD (i := 1) (v := ?v1a_1) (some 62) rfl (by kernel_rfl) (by kernel_rfl) (by kernel_rfl) (fun _ _ _ h => h) (Or.inl ⟨by rfl, ?hy1a_1⟩) (by assumption) (by rfl) ?rest1a_1
                case hy1a_1 => first | (intro w hSw; (try dsimp only at hSw); go_simp; done) | (intro w hSw; (try dsimp only at hSw); go_simp; with_reducible rfl)
                try simp only [Act.put, List.setIfInBounds_toArray, List.set_cons_zero, List.set_cons_succ]
                refine takeD (i := 2) (v := ?v1a_2) (some 63) rfl (by kernel_rfl) (by kernel_rfl) (by kernel_rfl) (fun _ _ _ h => h) (Or.inl ⟨by rfl, ?hy1a_2⟩) (by assumption) (by rfl) ?rest1a_2
                case hy1a_2 => first | (intro w hSw; (try dsimp only at hSw); go_simp; done) | (intro w hSw; (try dsimp only at hSw); go_simp; with_reducible rfl)
                try simp only [Act.put, List.setIfInBounds_toArray, List.set_cons_zero, List.set_cons_succ]
                refine takeD (i := 3) (v := ?v1a_3) (some 64) rfl (by kernel_rfl) (by kernel_rfl) (by kernel_rfl) (fun _ _ _ h => h) (Or.inl ⟨by rfl, ?hy1a_3⟩) (by assumption) (by rfl) ?rest1a_3
                case hy1a_3 => first | (intro w hSw; (try dsimp only at hSw); go_simp; done) | (intro w hSw; (try dsimp only at hSw); go_simp; with_reducible rfl)
                try simp only [Act.put, List.setIfInBounds_toArray, List.set_cons_zero, List.set_cons_succ]
                refine takeD (i := 4) (v := ?v1a_4) (some 65) rfl (by kernel_rfl) (by kernel_rfl) (by kernel_rfl) (fun _ _ _ h => h) (Or.inl ⟨by rfl, ?hy1a_4⟩) (by assumption) (by rfl) ?rest1a_4
                case hy1a_4 => first | (intro w hSw; (try dsimp only at hSw); go_simp; done) | (intro w hSw; (try dsimp only at hSw); go_simp; with_reducible rfl)
                try simp only [Act.put, List.setIfInBounds_toArray, List.set_cons_zero, List.set_cons_succ]
                refine takeD (i := 5) (v := ?v1a_5) (some 66) rfl (by kernel_rfl) (by kernel_rfl) (by kernel_rfl) (fun _ _ _ h => h) (Or.inl ⟨by rfl, ?hy1a_5⟩) (by assumption) (by rfl) ?rest1a_5
                case hy1a_5 => first | (intro w hSw; (try dsimp only at hSw); go_simp; done) | (intro w hSw; (try dsimp only at hSw); go_simp; with_reducible rfl)
                try simp only [Act.put, List.setIfInBounds_toArray, List.set_cons_zero, List.set_cons_succ]
                refine takeD (i := 6) (v := ?v1a_6) (some 67) rfl (by kernel_rfl) (by kernel_rfl) (by kernel_rfl) (fun _ _ _ h => h) (Or.inl ⟨by rfl, ?hy1a_6⟩) (by assumption) (by rfl) ?rest1a_6
                case hy1a_6 => first | (intro w hSw; (try dsimp only at hSw); go_simp; done) | (intro w hSw; (try dsimp only at hSw); go_simp; with_reducible rfl)
                try simp only [Act.put, List.setIfInBounds_toArray, List.set_cons_zero, List.set_cons_succ]
                refine takeD (i := 7) (v := ?v1a_7) (some 68) rfl (by kernel_rfl) (by kernel_rfl) (by kernel_rfl) (fun _ _ _ h => h) (Or.inl ⟨by rfl, ?hy1a_7⟩) (by assumption) (by rfl) ?rest1a_7
                case hy1a_7 => first | (intro w hSw; (try dsimp only at hSw); go_simp; done) | (intro w hSw; (try dsimp only at hSw); go_simp; with_reducible rfl)
                try simp only [Act.put, List.setIfInBounds_toArray, List.set_cons_zero, List.set_cons_succ]
                refine takeD (i := 8) (v := ?v1a_8) (some 69) rfl (by kernel_rfl) (by kernel_rfl) (by kernel_rfl) (fun _ _ _ h => h) (Or.inl ⟨by rfl, ?hy1a_8⟩) (by assumption) (by rfl) ?rest1a_8
                case hy1a_8 => first | (intro w hSw; (try dsimp only at hSw); go_simp; done) | (intro w hSw; (try dsimp only at hSw); go_simp; with_reducible rfl)
                try simp only [Act.put, List.setIfInBounds_toArray, List.set_cons_zero, List.set_cons_succ]
                refine takeD (i := 9) (v := ?v1a_9) (some 70) rfl (by kernel_rfl) (by kernel_rfl) (by kernel_rfl) (fun _ _ _ h => h) (Or.inl ⟨by rfl, ?hy1a_9⟩) (by assumption) (by rfl) ?rest1a_9
                case hy1a_9 => first | (intro w hSw; (try dsimp only at hSw); go_simp; done) | (intro w hSw; (try dsimp only at hSw); go_simp; with_reducible rfl)
                try simp only [Act.put, List.setIfInBounds_toArray, List.set_cons_zero, List.set_cons_succ]
                refine takeD (i := 10) (v := ?v1a_10) (some 71) rfl (by kernel_rfl) (by kernel_rfl) (by kernel_rfl) (fun _ _ _ h => h) (Or.inl ⟨by rfl, ?hy1a_10⟩) (by assumption) (by rfl) ?rest1a_10
                case hy1a_10 => first | (intro w hSw; (try dsimp only at hSw); go_simp; done) | (intro w hSw; (try dsimp only at hSw); go_simp; with_reducible rfl)
                try simp only [Act.put, List.setIfInBounds_toArray, List.set_cons_zero, List.set_cons_succ]
                refine takeD (i := 11) (v := ?v1a_11) (some 72) rfl (by kernel_rfl) (by kernel_rfl) (by kernel_rfl) (fun _ _ _ h => h) (Or.inl ⟨by rfl, ?hy1a_11⟩) (by assumption) (by rfl) ?rest1a_11
                case hy1a_11 => first | (intro w hSw; (try dsimp only at hSw); go_simp; done) | (intro w hSw; (try dsimp only at hSw); go_simp; with_reducible rfl)
                try simp only [Act.put, List.setIfInBounds_toArray, List.set_cons_zero, List.set_cons_succ]
                refine takeD (i := 12) (v := ?v1a_12) (some 73) rfl (by kernel_rfl) (by kernel_rfl) (by kernel_rfl) (fun _ _ _ h => h) (Or.inl ⟨by rfl, ?hy1a_12⟩) (by assumption) (by rfl) ?rest1a_12
                case hy1a_12 => first | (intro w hSw; (try dsimp only at hSw); go_simp; done) | (intro w hSw; (try dsimp only at hSw); go_simp; with_reducible rfl)
                try simp only [Act.put, List.setIfInBounds_toArray, List.set_cons_zero, List.set_cons_succ]
                refine takeD (i := 13) (v := ?v1a_13) (some 74) rfl (by kernel_rfl) (by kernel_rfl) (by kernel_rfl) (fun _ _ _ h => h) (Or.inl ⟨by rfl, ?hy1a_13⟩) (by assumption) (by rfl) ?rest1a_13
                case hy1a_13 => first | (intro w hSw; (try dsimp only at hSw); go_simp; done) | (intro w hSw; (try dsimp only at hSw); go_simp; with_reducible rfl)
                try simp only [Act.put, List.setIfInBounds_toArray, List.set_cons_zero, List.set_cons_succ]
                refine wpAnyH_done (by kernel_rfl) ?_ _
                go_wp2
                go_ret2
                refine ⟨_, _, rfl, .inr (one_hit1 hp HX0.out HX1.out HX2.out HX3.out l0 l1 l2 l3 HM.out (by omega) ⟨HL.out, HI.out⟩ ?_), bafter (bafter KB.out HB2.out (Nat.le_refl _)) ((Below.refl _ W2).drew) (Nat.le_refl _)⟩
                rw [HM2.out]; exact HG.out
              · have HI := hide hit
                clear hit
                have hne : ¬ strOf (encL g) = strOf ((T.drop p).take 1) := by
                  refine fun k => HI.out ?_
                  rw [← HT2.out]
                  exact strOf_inj (fun x hx => (HV.out.small x hx)) (fun x hx => HBw.out.small x (List.mem_of_mem_drop (List.mem_of_mem_take hx))) k
                have hs := str_neU hne
                clear hne
                go_wp2
                refine wp_region_held_drew (S := fun W => (convert 22 9 (.slice va el vc)).run Tryz.prog W = .ok (.string (strOf (encL g))) W ∧ (convert 22 9 (.slice (some ⟨b, off + p, none⟩) 1 (cap - p))).run Tryz.prog W = .ok (.string (strOf ((T.drop p).take 1))) W) (by kernel_rfl) ⟨conv_byts (HV.out.below ((Below.refl _ W2).drew)), conv_byts ((HC2.out.cut (by omega)).below ((Below.refl _ W2).drew))⟩ (fun hHeld => ?_)
                refine takeD (i := 0) (v := ?v1b_0) (some 61) rfl (by kernel_rfl) (by kernel_rfl) (by kernel_rfl) (fun _ _ _ h => h) (Or.inl ⟨by rfl, ?hy1b_0⟩) (by assumption) (by rfl) ?rest1b_0
                case hy1b_0 => first | (intro w hSw; (try dsimp only at hSw); go_simp; done) | (intro w hSw; (try dsimp only at hSw); go_simp; with_reducible rfl)
                try simp only [Act.put, List.setIfInBounds_toArray, List.set_cons_zero, List.set_cons_succ]
                refine takeD (i := 1) (v := ?v1b_1) (some 62) rfl (by kernel_rfl) (by kernel_rfl) (by kernel_rfl) (fun _ _ _ h => h) (Or.inl ⟨by rfl, ?hy1b_1⟩) (by assumption) (by rfl) ?rest1b_1
                case hy1b_1 => first | (intro w hSw; (try dsimp only at hSw); go_simp; done) | (intro w hSw; (try dsimp only at hSw); go_simp; with_reducible rfl)
                try simp only [Act.put, List.setIfInBounds_toArray, List.set_cons_zero, List.set_cons_succ]
                refine takeD (i := 2) (v := ?v1b_2) (some 63) rfl (by kernel_rfl) (by kernel_rfl) (by kernel_rfl) (fun _ _ _ h => h) (Or.inl ⟨by rfl, ?hy1b_2⟩) (by assumption) (by rfl) ?rest1b_2
                case hy1b_2 => first | (intro w hSw; (try dsimp only at hSw); go_simp; done) | (intro w hSw; (try dsimp only at hSw); go_simp; with_reducible rfl)
                try simp only [Act.put, List.setIfInBounds_toArray, List.set_cons_zero, List.set_cons_succ]
                refine takeD (i := 3) (v := ?v1b_3) (some 64) rfl (by kernel_rfl) (by kernel_rfl) (by kernel_rfl) (fun _ _ _ h => h) (Or.inl ⟨by rfl, ?hy1b_3⟩) (by assumption) (by rfl) ?rest1b_3
                case hy1b_3 => first | (intro w hSw; (try dsimp only at hSw); go_simp; done) | (intro w hSw; (try dsimp only at hSw); go_simp; with_reducible rfl)
                try simp only [Act.put, List.setIfInBounds_toArray, List.set_cons_zero, List.set_cons_succ]
                refine takeD (i := 4) (v := ?v1b_4) (some 65) rfl (by kernel_rfl) (by kernel_rfl) (by kernel_rfl) (fun _ _ _ h => h) (Or.inl ⟨by rfl, ?hy1b_4⟩) (by assumption) (by rfl) ?rest1b_4
                case hy1b_4 => first | (intro w hSw; (try dsimp only at hSw); go_simp; done) | (intro w hSw; (try dsimp only at hSw); go_simp; with_reducible rfl)
                try simp only [Act.put, List.setIfInBounds_toArray, List.set_cons_zero, List.set_cons_succ]
                refine takeD (i := 5) (v := ?v1b_5) (some 66) rfl (by kernel_rfl) (by kernel_rfl) (by kernel_rfl) (fun _ _ _ h => h) (Or.inl ⟨by rfl, ?hy1b_5⟩) (by assumption) (by rfl) ?rest1b_5
                case hy1b_5 => first | (intro w hSw; (try dsimp only at hSw); go_simp; done) | (intro w hSw; (try dsimp only at hSw); go_simp; with_reducible rfl)
                try simp only [Act.put, List.setIfInBounds_toArray, List.set_cons_zero, List.set_cons_succ]
                refine takeD (i := 6) (v := ?v1b_6) (some 67) rfl (by kernel_rfl) (by kernel_rfl) (by kernel_rfl) (fun _ _ _ h => h) (Or.inl ⟨by rfl, ?hy1b_6⟩) (by assumption) (by rfl) ?rest1b_6
                case hy1b_6 => first | (intro w hSw; (try dsimp only at hSw); go_simp; done) | (intro w hSw; (try dsimp only at hSw); go_simp; with_reducible rfl)
                try simp only [Act.put, List.setIfInBounds_toArray, List.set_cons_zero, List.set_cons_succ]
                refine takeD (i := 7) (v := ?v1b_7) (some 68) rfl (by kernel_rfl) (by kernel_rfl) (by kernel_rfl) (fun _ _ _ h => h) (Or.inl ⟨by rfl, ?hy1b_7⟩) (by assumption) (by rfl) ?rest1b_7
                case hy1b_7 => first | (intro w hSw; (try dsimp only at hSw); go_simp; done) | (intro w hSw; (try dsimp only at hSw); go_simp; with_reducible rfl)
                try simp only [Act.put, List.setIfInBounds_toArray, List.set_cons_zero, List.set_cons_succ]
                refine takeD (i := 8) (v := ?v1b_8) (some 69) rfl (by kernel_rfl) (by kernel_rfl) (by kernel_rfl) (fun _ _ _ h => h) (Or.inl ⟨by rfl, ?hy1b_8⟩) (by assumption) (by rfl) ?rest1b_8
                case hy1b_8 => first | (intro w hSw; (try dsimp only at hSw); go_simp; done) | (intro w hSw; (try dsimp only at hSw); go_simp; with_reducible rfl)
                try simp only [Act.put, List.setIfInBounds_toArray, List.set_cons_zero, List.set_cons_succ]
                refine takeD (i := 9) (v := ?v1b_9) (some 70) rfl (by kernel_rfl) (by kernel_rfl) (by kernel_rfl) (fun _ _ _ h => h) (Or.inl ⟨by rfl, ?hy1b_9⟩) (by assumption) (by rfl) ?rest1b_9
                case hy1b_9 => first | (intro w hSw; (try dsimp only at hSw); go_simp; done) | (intro w hSw; (try dsimp only at hSw); go_simp; with_reducible rfl)
                try simp only [Act.put, List.setIfInBounds_toArray, List.set_cons_zero, List.set_cons_succ]
                refine takeD (i := 10) (v := ?v1b_10) (some 71) rfl (by kernel_rfl) (by kernel_rfl) (by kernel_rfl) (fun _ _ _ h => h) (Or.inl ⟨by rfl, ?hy1b_10⟩) (by assumption) (by rfl) ?rest1b_10
                case hy1b_10 => first | (intro w hSw; (try dsimp only at hSw); go_simp; done) | (intro w hSw; (try dsimp only at hSw); go_simp; with_reducible rfl)
                try simp only [Act.put, List.setIfInBounds_toArray, List.set_cons_zero, List.set_cons_succ]
                refine takeD (i := 11) (v := ?v1b_11) (some 72) rfl (by kernel_rfl) (by kernel_rfl) (by kernel_rfl) (fun _ _ _ h => h) (Or.inl ⟨by rfl, ?hy1b_11⟩) (by assumption) (by rfl) ?rest1b_11
                case hy1b_11 => first | (intro w hSw; (try dsimp only at hSw); go_simp; done) | (intro w hSw; (try dsimp only at hSw); go_simp; with_reducible rfl)
                try simp only [Act.put, List.setIfInBounds_toArray, List.set_cons_zero, List.set_cons_succ]
                refine takeD (i := 12) (v := ?v1b_12) (some 73) rfl (by kernel_rfl) (by kernel_rfl) (by kernel_rfl) (fun _ _ _ h => h) (Or.inl ⟨by rfl, ?hy1b_12⟩) (by assumption) (by rfl) ?rest1b_12
                case hy1b_12 => first | (intro w hSw; (try dsimp only at hSw); go_simp; done) | (intro w hSw; (try dsimp only at hSw); go_simp; with_reducible rfl)
                try simp only [Act.put, List.setIfInBounds_toArray, List.set_cons_zero, List.set_cons_succ]
                refine takeD (i := 13) (v := ?v1b_13) (some 74) rfl (by kernel_rfl) (by kernel_rfl) (by kernel_rfl) (fun _ _ _ h => h) (Or.inl ⟨by rfl, ?hy1b_13⟩) (by assumption) (by rfl) ?rest1b_13
                case hy1b_13 => first | (intro w hSw; (try dsimp only at hSw); go_simp; done) | (intro w hSw; (try dsimp only at hSw); go_simp; with_reducible rfl)
                try simp only [Act.put, List.setIfInBounds_toArray, List.set_cons_zero, List.set_cons_succ]
                refine wpAnyH_done (by kernel_rfl) ?_ _
                go_wp2
                go_roundw
                case rel => exact ⟨2, by omega, by omega, rfl, missed1 l0 HM.out (fun k => HI.out (by have k2 := k.2; rw [← HG.out, ← HM2.out, Int.toNat_natCast] at k2; exact k2)), bafter (bafter KB.out HB2.out (Nat.le_refl _)) ((Below.refl _ W2).drew) (Nat.le_refl _)⟩
                case measure => simp [RowKit.intOf]
            · have HLn := hide hl
              refine (rencode_bad _ M hl).mono ?_
              rintro e W2 ⟨rfl, rfl⟩
              clear hl
              go_wp2
              go_quiet (fail)
              go_wp2
              go_roundw
              case rel => exact ⟨2, by omega, by omega, rfl, missed1 l0 HM.out (fun k => HLn.out (by have k1 := k.1; rw [← HG.out, ← HM2.out] at k1; exact k1)), below_drewN KB.out _⟩
              case measure => simp [RowKit.intOf]
      · have g2 : (p : Int) + 2 ≤ (T.length : Int) := by omega
        have g3 : IntKind.i64.wrap ((p : Int) + 2) = (p : Int) + 2 := by rw [IntKind.wrap_i64]; omega
        obtain ⟨R1, hR1⟩ : ∃ R1 : Int, (x0 : Int) - 192 = R1 := ⟨_, rfl⟩
        have w1 : IntKind.i64.wrap R1 = R1 := by rw [IntKind.wrap_i64]; omega
        have HG : Hid (part R1 x1 x2 x3 2 = (guess2 x0 x1)) := by show R1 * 64 + (x1 : Int) - 128 = _; unfold guess2; omega
        have HRb : Hid (-240 ≤ R1 ∧ R1 ≤ 255) := by show _ ∧ _; omega
        have c1 := HCc.out 1 (by omega)
        rw [HX1.out] at c1
        have z1 : (p : Int) + 1 < (T.length : Int) := by omega
        have v1 : IntKind.i64.wrap (x1 : Int) = (x1 : Int) := by rw [IntKind.wrap_i64]; omega
        have y1 : IntKind.i64.wrap ((p : Int) + 1) = (p : Int) + 1 := by rw [IntKind.wrap_i64]; omega
        go_wp2
        go_loopw [7, 8] (fun r k wv => ∃ (q : Nat) (M : Int), 1 ≤ q ∧ q ≤ 2 ∧ k = .int .i64 (q : Int) ∧ r = .int .i64 M ∧ M = part R1 x1 x2 x3 q ∧ wv = wr) (fun _ k _ => 6 - (RowKit.intOf k).toNat)
        case atStart => exact ⟨1, R1, by omega, by omega, rfl, rfl, rfl, rfl⟩
        case round =>
          obtain ⟨q, M, hq1, hq2, rfl, rfl, hM, rfl⟩ := hrel
          by_cases hq : q < 2
          · have hqq : q = 1 := by omega
            rcases hqq with rfl
            · have hM' : M = R1 := hM
              have hrb := HRb.out
              obtain ⟨M1, hM1⟩ : ∃ M1, M * 64 = M1 := ⟨_, rfl⟩
              obtain ⟨M2, hM2⟩ : ∃ M2, M1 + (x1 : Int) = M2 := ⟨_, rfl⟩
              obtain ⟨M3, hM3⟩ : ∃ M3, M2 - 128 = M3 := ⟨_, rfl⟩
              have u1 : IntKind.i64.wrap M1 = M1 := by rw [IntKind.wrap_i64]; omega
              have u2 : IntKind.i64.wrap M2 = M2 := by rw [IntKind.wrap_i64]; omega
              have u3 : IntKind.i64.wrap M3 = M3 := by rw [IntKind.wrap_i64]; omega
              have HN : Hid (M3 = part R1 x1 x2 x3 2) := by show M3 = R1 * 64 + (x1 : Int) - 128; omega
              clear hM hM' hrb
              go_wp2
              go_roundw
              case rel => exact ⟨2, M3, by omega, by omega, by go_num, rfl, HN.out, trivial⟩
              case measure => simp [RowKit.intOf]
          · obtain rfl : q = 2 := by omega
            have HM2 := hide hM
            clear hM
            go_wp2_with fail
            by_cases hl : isLet M
            · obtain ⟨g, rfl⟩ : ∃ g : Nat, M = (g : Int) := ⟨M.toNat, by have := hl.1; omega⟩
              refine (rencode_calls _ g hl).mono ?_
              rintro e W2 ⟨v, rfl, hv, hb2⟩
              obtain ⟨va, vc, rfl, hv1, hv2⟩ := id hv
              have HV := hide hv
              have HB2 := hide hb2
              generalize hEl : (encL g).length = el at *
              have HL := hide hl
              clear hv hb2 hv1 hv2 hl
              have dpm : (p : Int) ≤ (p : Int) + 2 := by omega
              have dpc : (p : Int) + 2 ≤ (cap : Int) := by omega
              have hcp : ¬ cap = p := by omega
              have htn : ((p : Int) + 2).toNat - p = 2 := by omega
              have HC2 := hide (HBw.out.below HB2.out)
              have hT2 : (T.drop p).take 2 = [x0, x1] := by rw [take_nth (by rw [List.length_drop]; omega)]; simp [List.range, List.range.loop, nth_drop, show nth T p = x0 from HX0.out, HX1.out, HX2.out, HX3.out]
              have HT2 := hide hT2
              clear hT2
              by_cases hit : encL g = [x0, x1]
              · have HI := hide hit
                clear hit
                have he : (T.drop p).take 2 = encL g := by rw [HI.out, HT2.out]
                have hcv : Byts W2 (.slice (some ⟨b, off + p, none⟩) 2 (cap - p)) (encL g) := by rw [← he]; exact HC2.out.cut (by omega)
                have HCV := hide hcv
                clear he hcv
                go_wp2
                refine wp_region_held_drew (S := fun W => (convert 22 9 (.slice va el vc)).run Tryz.prog W = .ok (.string (strOf (encL g))) W ∧ (convert 22 9 (.slice (some ⟨b, off + p, none⟩) 2 (cap - p))).run Tryz.prog W = .ok (.string (strOf (encL g))) W) (by kernel_rfl) ⟨conv_byts (HV.out.below ((Below.refl _ W2).drew)), conv_byts (HCV.out.below ((Below.refl _ W2).drew))⟩ (fun hHeld => ?_)
                refine takeD (i := 0) (v := ?v2a_0) (some 61) rfl (by kernel_rfl) (by kernel_rfl) (by kernel_rfl) (fun _ _ _ h => h) (Or.inl ⟨by rfl, ?hy2a_0⟩) (by assumption) (by rfl) ?rest2a_0
                case hy2a_0 => first | (intro w hSw; (try dsimp only at hSw); go_simp; done) | (intro w hSw; (try dsimp only at hSw); go_simp; with_reducible rfl)
                try simp only [Act.put, List.setIfInBounds_toArray, List.set_cons_zero, List.set_cons_succ]
                refine takeD (i := 1) (v := ?v2a_1) (some 62) rfl (by kernel_rfl) (by kernel_rfl) (by kernel_rfl) (fun _ _ _ h => h) (Or.inl ⟨by rfl, ?hy2a_1⟩) (by assumption) (by rfl) ?rest2a_1
                case hy2a_1 => first | (intro w hSw; (try dsimp only at hSw); go_simp; done) | (intro w hSw; (try dsimp only at hSw); go_simp; with_reducible rfl)
                try simp only [Act.put, List.setIfInBounds_toArray, List.set_cons_zero, List.set_cons_succ]
                refine takeD (i := 2) (v := ?v2a_2) (some 63) rfl (by kernel_rfl) (by kernel_rfl) (by kernel_rfl) (fun _ _ _ h => h) (Or.inl ⟨by rfl, ?hy2a_2⟩) (by assumption) (by rfl) ?rest2a_2
                case hy2a_2 => first | (intro w hSw; (try dsimp only at hSw); go_simp; done) | (intro w hSw; (try dsimp only at hSw); go_simp; with_reducible rfl)
                try simp only [Act.put, List.setIfInBounds_toArray, List.set_cons_zero, List.set_cons_succ]
                refine takeD (i := 3) (v := ?v2a_3) (some 64) rfl (by kernel_rfl) (by kernel_rfl) (by kernel_rfl) (fun _ _ _ h => h) (Or.inl ⟨by rfl, ?hy2a_3⟩) (by assumption) (by rfl) ?rest2a_3
                case hy2a_3 => first | (intro w hSw; (try dsimp only at hSw); go_simp; done) | (intro w hSw; (try dsimp only at hSw); go_simp; with_reducible rfl)
                try simp only [Act.put, List.setIfInBounds_toArray, List.set_cons_zero, List.set_cons_succ]
                refine takeD (i := 4) (v := ?v2a_4) (some 65) rfl (by kernel_rfl) (by kernel_rfl) (by kernel_rfl) (fun _ _ _ h => h) (Or.inl ⟨by rfl, ?hy2a_4⟩) (by assumption) (by rfl) ?rest2a_4
                case hy2a_4 => first | (intro w hSw; (try dsimp only at hSw); go_simp; done) | (intro w hSw; (try dsimp only at hSw); go_simp; with_reducible rfl)
                try simp only [Act.put, List.setIfInBounds_toArray, List.set_cons_zero, List.set_cons_succ]
                refine takeD (i := 5) (v := ?v2a_5) (some 66) rfl (by kernel_rfl) (by kernel_rfl) (by kernel_rfl) (fun _ _ _ h => h) (Or.inl ⟨by rfl, ?hy2a_5⟩) (by assumption) (by rfl) ?rest2a_5
                case hy2a_5 => first | (intro w hSw; (try dsimp only at hSw); go_simp; done) | (intro w hSw; (try dsimp only at hSw); go_simp; with_reducible rfl)
                try simp only [Act.put, List.setIfInBounds_toArray, List.set_cons_zero, List.set_cons_succ]
                refine takeD (i := 6) (v := ?v2a_6) (some 67) rfl (by kernel_rfl) (by kernel_rfl) (by kernel_rfl) (fun _ _ _ h => h) (Or.inl ⟨by rfl, ?hy2a_6⟩) (by assumption) (by rfl) ?rest2a_6
                case hy2a_6 => first | (intro w hSw; (try dsimp only at hSw); go_simp; done) | (intro w hSw; (try dsimp only at hSw); go_simp; with_reducible rfl)
                try simp only [Act.put, List.setIfInBounds_toArray, List.set_cons_zero, List.set_cons_succ]
                refine takeD (i := 7) (v := ?v2a_7) (some 68) rfl (by kernel_rfl) (by kernel_rfl) (by kernel_rfl) (fun _ _ _ h => h) (Or.inl ⟨by rfl, ?hy2a_7⟩) (by assumption) (by rfl) ?rest2a_7
                case hy2a_7 => first | (intro w hSw; (try dsimp only at hSw); go_simp; done) | (intro w hSw; (try dsimp only at hSw); go_simp; with_reducible rfl)
                try simp only [Act.put, List.setIfInBounds_toArray, List.set_cons_zero, List.set_cons_succ]
                refine takeD (i := 8) (v := ?v2a_8) (some 69) rfl (by kernel_rfl) (by kernel_rfl) (by kernel_rfl) (fun _ _ _ h => h) (Or.inl ⟨by rfl, ?hy2a_8⟩) (by assumption) (by rfl) ?rest2a_8
                case hy2a_8 => first | (intro w hSw; (try dsimp only at hSw); go_simp; done) | (intro w hSw; (try dsimp only at hSw); go_simp; with_reducible rfl)
                try simp only [Act.put, List.setIfInBounds_toArray, List.set_cons_zero, List.set_cons_succ]
                refine takeD (i := 9) (v := ?v2a_9) (some 70) rfl (by kernel_rfl) (by kernel_rfl) (by kernel_rfl) (fun _ _ _ h => h) (Or.inl ⟨by rfl, ?hy2a_9⟩) (by assumption) (by rfl) ?rest2a_9
                case hy2a_9 => first | (intro w hSw; (try dsimp only at hSw); go_simp; done) | (intro w hSw; (try dsimp only at hSw); go_simp; with_reducible rfl)
                try simp only [Act.put, List.setIfInBounds_toArray, List.set_cons_zero, List.set_cons_succ]
                refine takeD (i := 10) (v := ?v2a_10) (some 71) rfl (by kernel_rfl) (by kernel_rfl) (by kernel_rfl) (fun _ _ _ h => h) (Or.inl ⟨by rfl, ?hy2a_10⟩) (by assumption) (by rfl) ?rest2a_10
                case hy2a_10 => first | (intro w hSw; (try dsimp only at hSw); go_simp; done) | (intro w hSw; (try dsimp only at hSw); go_simp; with_reducible rfl)
                try simp only [Act.put, List.setIfInBounds_toArray, List.set_cons_zero, List.set_cons_succ]
                refine takeD (i := 11) (v := ?v2a_11) (some 72) rfl (by kernel_rfl) (by kernel_rfl) (by kernel_rfl) (fun _ _ _ h => h) (Or.inl ⟨by rfl, ?hy2a_11⟩) (by assumption) (by rfl) ?rest2a_11
                case hy2a_11 => first | (intro w hSw; (try dsimp only at hSw); go_simp; done) | (intro w hSw; (try dsimp only at hSw); go_simp; with_reducible rfl)
                try simp only [Act.put, List.setIfInBounds_toArray, List.set_cons_zero, List.set_cons_succ]
                refine takeD (i := 12) (v := ?v2a_12) (some 73) rfl (by kernel_rfl) (by kernel_rfl) (by kernel_rfl) (fun _ _ _ h => h) (Or.inl ⟨by rfl, ?hy2a_12⟩) (by assumption) (by rfl) ?rest2a_12
                case hy2a_12 => first | (intro w hSw; (try dsimp only at hSw); go_simp; done) | (intro w hSw; (try dsimp only at hSw); go_simp; with_reducible rfl)
                try simp only [Act.put, List.setIfInBounds_toArray, List.set_cons_zero, List.set_cons_succ]
                refine takeD (i := 13) (v := ?v2a_13) (some 74) rfl (by kernel_rfl) (by kernel_rfl) (by kernel_rfl) (fun _ _ _ h => h) (Or.inl ⟨by rfl, ?hy2a_13⟩) (by assumption) (by rfl) ?rest2a_13
                case hy2a_13 => first | (intro w hSw; (try dsimp only at hSw); go_simp; done) | (intro w hSw; (try dsimp only at hSw); go_simp; with_reducible rfl)
                try simp only [Act.put, List.setIfInBounds_toArray, List.set_cons_zero, List.set_cons_succ]
                refine wpAnyH_done (by kernel_rfl) ?_ _
                go_wp2
                go_ret2
                refine ⟨_, _, rfl, .inr (one_hit2 hp HX0.out HX1.out HX2.out HX3.out l0 l1 l2 l3 HM.out (by omega) ⟨HL.out, HI.out⟩ ?_), bafter (bafter KB.out HB2.out (Nat.le_refl _)) ((Below.refl _ W2).drew) (Nat.le_refl _)⟩
                rw [HM2.out]; exact HG.out
              · have HI := hide hit
                clear hit
                have hne : ¬ strOf (encL g) = strOf ((T.drop p).take 2) := by
                  refine fun k => HI.out ?_
                  rw [← HT2.out]
                  exact strOf_inj (fun x hx => (HV.out.small x hx)) (fun x hx => HBw.out.small x (List.mem_of_mem_drop (List.mem_of_mem_take hx))) k
                have hs := str_neU hne
                clear hne
                go_wp2
                refine wp_region_held_drew (S := fun W => (convert 22 9 (.slice va el vc)).run Tryz.prog W = .ok (.string (strOf (encL g))) W ∧ (convert 22 9 (.slice (some ⟨b, off + p, none⟩) 2 (cap - p))).run Tryz.prog W = .ok (.string (strOf ((T.drop p).take 2))) W) (by kernel_rfl) ⟨conv_byts (HV.out.below ((Below.refl _ W2).drew)), conv_byts ((HC2.out.cut (by omega)).below ((Below.refl _ W2).drew))⟩ (fun hHeld => ?_)
                refine takeD (i := 0) (v := ?v2b_0) (some 61) rfl (by kernel_rfl) (by kernel_rfl) (by kernel_rfl) (fun _ _ _ h => h) (Or.inl ⟨by rfl, ?hy2b_0⟩) (by assumption) (by rfl) ?rest2b_0
                case hy2b_0 => first | (intro w hSw; (try dsimp only at hSw); go_simp; done) | (intro w hSw; (try dsimp only at hSw); go_simp; with_reducible rfl)
                try simp only [Act.put, List.setIfInBounds_toArray, List.set_cons_zero, List.set_cons_succ]
                refine takeD (i := 1) (v := ?v2b_1) (some 62) rfl (by kernel_rfl) (by kernel_rfl) (by kernel_rfl) (fun _ _ _ h => h) (Or.inl ⟨by rfl, ?hy2b_1⟩) (by assumption) (by rfl) ?rest2b_1
                case hy2b_1 => first | (intro w hSw; (try dsimp only at hSw); go_simp; done) | (intro w hSw; (try dsimp only at hSw); go_simp; with_reducible rfl)
                try simp only [Act.put, List.setIfInBounds_toArray, List.set_cons_zero, List.set_cons_succ]
                refine takeD (i := 2) (v := ?v2b_2) (some 63) rfl (by kernel_rfl) (by kernel_rfl) (by kernel_rfl) (fun _ _ _ h => h) (Or.inl ⟨by rfl, ?hy2b_2⟩) (by assumption) (by rfl) ?rest2b_2
                case hy2b_2 => first | (intro w hSw; (try dsimp only at hSw); go_simp; done) | (intro w hSw; (try dsimp only at hSw); go_simp; with_reducible rfl)
                try simp only [Act.put, List.setIfInBounds_toArray, List.set_cons_zero, List.set_cons_succ]
                refine takeD (i := 3) (v := ?v2b_3) (some 64) rfl (by kernel_rfl) (by kernel_rfl) (by kernel_rfl) (fun _ _ _ h => h) (Or.inl ⟨by rfl, ?hy2b_3⟩) (by assumption) (by rfl) ?rest2b_3
                case hy2b_3 => first | (intro w hSw; (try dsimp only at hSw); go_simp; done) | (intro w hSw; (try dsimp only at hSw); go_simp; with_reducible rfl)
                try simp only [Act.put, List.setIfInBounds_toArray, List.set_cons_zero, List.set_cons_succ]
                refine takeD (i := 4) (v := ?v2b_4) (some 65) rfl (by kernel_rfl) (by kernel_rfl) (by kernel_rfl) (fun _ _ _ h => h) (Or.inl ⟨by rfl, ?hy2b_4⟩) (by assumption) (by rfl) ?rest2b_4
                case hy2b_4 => first | (intro w hSw; (try dsimp only at hSw); go_simp; done) | (intro w hSw; (try dsimp only at hSw); go_simp; with_reducible rfl)
                try simp only [Act.put, List.setIfInBounds_toArray, List.set_cons_zero, List.set_cons_succ]
                refine takeD (i := 5) (v := ?v2b_5) (some 66) rfl (by kernel_rfl) (by kernel_rfl) (by kernel_rfl) (fun _ _ _ h => h) (Or.inl ⟨by rfl, ?hy2b_5⟩) (by assumption) (by rfl) ?rest2b_5
                case hy2b_5 => first | (intro w hSw; (try dsimp only at hSw); go_simp; done) | (intro w hSw; (try dsimp only at hSw); go_simp; with_reducible rfl)
                try simp only [Act.put, List.setIfInBounds_toArray, List.set_cons_zero, List.set_cons_succ]
                refine takeD (i := 6) (v := ?v2b_6) (some 67) rfl (by kernel_rfl) (by kernel_rfl) (by kernel_rfl) (fun _ _ _ h => h) (Or.inl ⟨by rfl, ?hy2b_6⟩) (by assumption) (by rfl) ?rest2b_6
                case hy2b_6 => first | (intro w hSw; (try dsimp only at hSw); go_simp; done) | (intro w hSw; (try dsimp only at hSw); go_simp; with_reducible rfl)
                try simp only [Act.put, List.setIfInBounds_toArray, List.set_cons_zero, List.set_cons_succ]
                refine takeD (i := 7) (v := ?v2b_7) (some 68) rfl (by kernel_rfl) (by kernel_rfl) (by kernel_rfl) (fun _ _ _ h => h) (Or.inl ⟨by rfl, ?hy2b_7⟩) (by assumption) (by rfl) ?rest2b_7
                case hy2b_7 => first | (intro w hSw; (try dsimp only at hSw); go_simp; done) | (intro w hSw; (try dsimp only at hSw); go_simp; with_reducible rfl)
                try simp only [Act.put, List.setIfInBounds_toArray, List.set_cons_zero, List.set_cons_succ]
                refine takeD (i := 8) (v := ?v2b_8) (some 69) rfl (by kernel_rfl) (by kernel_rfl) (by kernel_rfl) (fun _ _ _ h => h) (Or.inl ⟨by rfl, ?hy2b_8⟩) (by assumption) (by rfl) ?rest2b_8
                case hy2b_8 => first | (intro w hSw; (try dsimp only at hSw); go_simp; done) | (intro w hSw; (try dsimp only at hSw); go_simp; with_reducible rfl)
                try simp only [Act.put, List.setIfInBounds_toArray, List.set_cons_zero, List.set_cons_succ]
                refine takeD (i := 9) (v := ?v2b_9) (some 70) rfl (by kernel_rfl) (by kernel_rfl) (by kernel_rfl) (fun _ _ _ h => h) (Or.inl ⟨by rfl, ?hy2b_9⟩) (by assumption) (by rfl) ?rest2b_9
                case hy2b_9 => first | (intro w hSw; (try dsimp only at hSw); go_simp; done) | (intro w hSw; (try dsimp only at hSw); go_simp; with_reducible rfl)
                try simp only [Act.put, List.setIfInBounds_toArray, List.set_cons_zero, List.set_cons_succ]
                refine takeD (i := 10) (v := ?v2b_10) (some 71) rfl (by kernel_rfl) (by kernel_rfl) (by kernel_rfl) (fun _ _ _ h => h) (Or.inl ⟨by rfl, ?hy2b_10⟩) (by assumption) (by rfl) ?rest2b_10
                case hy2b_10 => first | (intro w hSw; (try dsimp only at hSw); go_simp; done) | (intro w hSw; (try dsimp only at hSw); go_simp; with_reducible rfl)
                try simp only [Act.put, List.setIfInBounds_toArray, List.set_cons_zero, List.set_cons_succ]
                refine takeD (i := 11) (v := ?v2b_11) (some 72) rfl (by kernel_rfl) (by kernel_rfl) (by kernel_rfl) (fun _ _ _ h => h) (Or.inl ⟨by rfl, ?hy2b_11⟩) (by assumption) (by rfl) ?rest2b_11
                case hy2b_11 => first | (intro w hSw; (try dsimp only at hSw); go_simp; done) | (intro w hSw; (try dsimp only at hSw); go_simp; with_reducible rfl)
                try simp only [Act.put, List.setIfInBounds_toArray, List.set_cons_zero, List.set_cons_succ]
                refine takeD (i := 12) (v := ?v2b_12) (some 73) rfl (by kernel_rfl) (by kernel_rfl) (by kernel_rfl) (fun _ _ _ h => h) (Or.inl ⟨by rfl, ?hy2b_12⟩) (by assumption) (by rfl) ?rest2b_12
                case hy2b_12 => first | (intro w hSw; (try dsimp only at hSw); go_simp; done) | (intro w hSw; (try dsimp only at hSw); go_simp; with_reducible rfl)
                try simp only [Act.put, List.setIfInBounds_toArray, List.set_cons_zero, List.set_cons_succ]
                refine takeD (i := 13) (v := ?v2b_13) (some 74) rfl (by kernel_rfl) (by kernel_rfl) (by kernel_rfl) (fun _ _ _ h => h) (Or.inl ⟨by rfl, ?hy2b_13⟩) (by assumption) (by rfl) ?rest2b_13
                case hy2b_13 => first | (intro w hSw; (try dsimp only at hSw); go_simp; done) | (intro w hSw; (try dsimp only at hSw); go_simp; with_reducible rfl)
                try simp only [Act.put, List.setIfInBounds_toArray, List.set_cons_zero, List.set_cons_succ]
                refine wpAnyH_done (by kernel_rfl) ?_ _
                go_wp2
                go_roundw
                case rel => exact ⟨3, by omega, by omega, rfl, missed2 l0 HM.out (fun k => HI.out (by have k2 := k.2; rw [← HG.out, ← HM2.out, Int.toNat_natCast] at k2; exact k2)), bafter (bafter KB.out HB2.out (Nat.le_refl _)) ((Below.refl _ W2).drew) (Nat.le_refl _)⟩
                case measure => simp [RowKit.intOf]
            · have HLn := hide hl
              refine (rencode_bad _ M hl).mono ?_
              rintro e W2 ⟨rfl, rfl⟩
              clear hl
              go_wp2
              go_quiet (fail)
              go_wp2
              go_roundw
              case rel => exact ⟨3, by omega, by omega, rfl, missed2 l0 HM.out (fun k => HLn.out (by have k1 := k.1; rw [← HG.out, ← HM2.out] at k1; exact k1)), below_drewN KB.out _⟩
              case measure => simp [RowKit.intOf]
      · have g2 : (p : Int) + 3 ≤ (T.length : Int) := by omega
        have g3 : IntKind.i64.wrap ((p : Int) + 3) = (p : Int) + 3 := by rw [IntKind.wrap_i64]; omega
        obtain ⟨R1, hR1⟩ : ∃ R1 : Int, (x0 : Int) - 224 = R1 := ⟨_, rfl⟩
        have w1 : IntKind.i64.wrap R1 = R1 := by rw [IntKind.wrap_i64]; omega
        have HG : Hid (part R1 x1 x2 x3 3 = (guess3 x0 x1 x2)) := by show (R1 * 64 + (x1 : Int) - 128) * 64 + (x2 : Int) - 128 = _; unfold guess3; omega
        have HRb : Hid (-240 ≤ R1 ∧ R1 ≤ 255) := by show _ ∧ _; omega
        have c1 := HCc.out 1 (by omega)
        rw [HX1.out] at c1
        have z1 : (p : Int) + 1 < (T.length : Int) := by omega
        have v1 : IntKind.i64.wrap (x1 : Int) = (x1 : Int) := by rw [IntKind.wrap_i64]; omega
        have y1 : IntKind.i64.wrap ((p : Int) + 1) = (p : Int) + 1 := by rw [IntKind.wrap_i64]; omega
        have c2 := HCc.out 2 (by omega)
        rw [HX2.out] at c2
        have z2 : (p : Int) + 2 < (T.length : Int) := by omega
        have v2 : IntKind.i64.wrap (x2 : Int) = (x2 : Int) := by rw [IntKind.wrap_i64]; omega
        have y2 : IntKind.i64.wrap ((p : Int) + 2) = (p : Int) + 2 := by rw [IntKind.wrap_i64]; omega
        go_wp2
        go_loopw [7, 8] (fun r k wv => ∃ (q : Nat) (M : Int), 1 ≤ q ∧ q ≤ 3 ∧ k = .int .i64 (q : Int) ∧ r = .int .i64 M ∧ M = part R1 x1 x2 x3 q ∧ wv = wr) (fun _ k _ => 6 - (RowKit.intOf k).toNat)
        case atStart => exact ⟨1, R1, by omega, by omega, rfl, rfl, rfl, rfl⟩
        case round =>
          obtain ⟨q, M, hq1, hq2, rfl, rfl, hM, rfl⟩ := hrel
          by_cases hq : q < 3
          · have hqq : q = 1 ∨ q = 2 := by omega
            rcases hqq with rfl | rfl
            · have hM' : M = R1 := hM
              have hrb := HRb.out
              obtain ⟨M1, hM1⟩ : ∃ M1, M * 64 = M1 := ⟨_, rfl⟩
              obtain ⟨M2, hM2⟩ : ∃ M2, M1 + (x1 : Int) = M2 := ⟨_, rfl⟩
              obtain ⟨M3, hM3⟩ : ∃ M3, M2 - 128 = M3 := ⟨_, rfl⟩
              have u1 : IntKind.i64.wrap M1 = M1 := by rw [IntKind.wrap_i64]; omega
              have u2 : IntKind.i64.wrap M2 = M2 := by rw [IntKind.wrap_i64]; omega
              have u3 : IntKind.i64.wrap M3 = M3 := by rw [IntKind.wrap_i64]; omega
              have HN : Hid (M3 = part R1 x1 x2 x3 2) := by show M3 = R1 * 64 + (x1 : Int) - 128; omega
              clear hM hM' hrb
              go_wp2
              go_roundw
              case rel => exact ⟨2, M3, by omega, by omega, by go_num, rfl, HN.out, trivial⟩
              case measure => simp [RowKit.intOf]
            · have hM' : M = R1 * 64 + (x1 : Int) - 128 := hM
              have hrb := HRb.out
              obtain ⟨M1, hM1⟩ : ∃ M1, M * 64 = M1 := ⟨_, rfl⟩
              obtain ⟨M2, hM2⟩ : ∃ M2, M1 + (x2 : Int) = M2 := ⟨_, rfl⟩
              obtain ⟨M3, hM3⟩ : ∃ M3, M2 - 128 = M3 := ⟨_, rfl⟩
              have u1 : IntKind.i64.wrap M1 = M1 := by rw [IntKind.wrap_i64]; omega
              have u2 : IntKind.i64.wrap M2 = M2 := by rw [IntKind.wrap_i64]; omega
              have u3 : IntKind.i64.wrap M3 = M3 := by rw [IntKind.wrap_i64]; omega
              have HN : Hid (M3 = part R1 x1 x2 x3 3) := by show M3 = (R1 * 64 + (x1 : Int) - 128) * 64 + (x2 : Int) - 128; omega
              clear hM hM' hrb
              go_wp2
              go_roundw
              case rel => exact ⟨3, M3, by omega, by omega, by go_num, rfl, HN.out, trivial⟩
              case measure => simp [RowKit.intOf]
          · obtain rfl : q = 3 := by omega
            have HM2 := hide hM
            clear hM
            go_wp2_with fail
            by_cases hl : isLet M
            · obtain ⟨g, rfl⟩ : ∃ g : Nat, M = (g : Int) := ⟨M.toNat, by have := hl.1; omega⟩
              refine (rencode_calls _ g hl).mono ?_
              rintro e W2 ⟨v, rfl, hv, hb2⟩
              obtain ⟨va, vc, rfl, hv1, hv2⟩ := id hv
              have HV := hide hv
              have HB2 := hide hb2
              generalize hEl : (encL g).length = el at *
              have HL := hide hl
              clear hv hb2 hv1 hv2 hl
              have dpm : (p : Int) ≤ (p : Int) + 3 := by omega
              have dpc : (p : Int) + 3 ≤ (cap : Int) := by omega
              have hcp : ¬ cap = p := by omega
              have htn : ((p : Int) + 3).toNat - p = 3 := by omega
              have HC2 := hide (HBw.out.below HB2.out)
              have hT2 : (T.drop p).take 3 = [x0, x1, x2] := by rw [take_nth (by rw [List.length_drop]; omega)]; simp [List.range, List.range.loop, nth_drop, show nth T p = x0 from HX0.out, HX1.out, HX2.out, HX3.out]
              have HT2 := hide hT2
              clear hT2
              by_cases hit : encL g = [x0, x1, x2]
              · have HI := hide hit
                clear hit
                have he : (T.drop p).take 3 = encL g := by rw [HI.out, HT2.out]
                have hcv : Byts W2 (.slice (some ⟨b, off + p, none⟩) 3 (cap - p)) (encL g) := by rw [← he]; exact HC2.out.cut (by omega)
                have HCV := hide hcv
                clear he hcv
                go_wp2
                refine wp_region_held_drew (S := fun W => (convert 22 9 (.slice va el vc)).run Tryz.prog W = .ok (.string (strOf (encL g))) W ∧ (convert 22 9 (.slice (some ⟨b, off + p, none⟩) 3 (cap - p))).run Tryz.prog W = .ok (.string (strOf (encL g))) W) (by kernel_rfl) ⟨conv_byts (HV.out.below ((Below.refl _ W2).drew)), conv_byts (HCV.out.below ((Below.refl _ W2).drew))⟩ (fun hHeld => ?_)
                refine takeD (i := 0) (v := ?v3a_0) (some 61) rfl (by kernel_rfl) (by kernel_rfl) (by kernel_rfl) (fun _ _ _ h => h) (Or.inl ⟨by rfl, ?hy3a_0⟩) (by assumption) (by rfl) ?rest3a_0
                case hy3a_0 => first | (intro w hSw; (try dsimp only at hSw); go_simp; done) | (intro w hSw; (try dsimp only at hSw); go_simp; with_reducible rfl)
                try simp only [Act.put, List.setIfInBounds_toArray, List.set_cons_zero, List.set_cons_succ]
                refine takeD (i := 1) (v := ?v3a_1) (some 62) rfl (by kernel_rfl) (by kernel_rfl) (by kernel_rfl) (fun _ _ _ h => h) (Or.inl ⟨by rfl, ?hy3a_1⟩) (by assumption) (by rfl) ?rest3a_1
                case hy3a_1 => first | (intro w hSw; (try dsimp only at hSw); go_simp; done) | (intro w hSw; (try dsimp only at hSw); go_simp; with_reducible rfl)
                try simp only [Act.put, List.setIfInBounds_toArray, List.set_cons_zero, List.set_cons_succ]
                refine takeD (i := 2) (v := ?v3a_2) (some 63) rfl (by kernel_rfl) (by kernel_rfl) (by kernel_rfl) (fun _ _ _ h => h) (Or.inl ⟨by rfl, ?hy3a_2⟩) (by assumption) (by rfl) ?rest3a_2
                case hy3a_2 => first | (intro w hSw; (try dsimp only at hSw); go_simp; done) | (intro w hSw; (try dsimp only at hSw); go_simp; with_reducible rfl)
                try simp only [Act.put, List.setIfInBounds_toArray, List.set_cons_zero, List.set_cons_succ]
                refine takeD (i := 3) (v := ?v3a_3) (some 64) rfl (by kernel_rfl) (by kernel_rfl) (by kernel_rfl) (fun _ _ _ h => h) (Or.inl ⟨by rfl, ?hy3a_3⟩) (by assumption) (by rfl) ?rest3a_3
                case hy3a_3 => first | (intro w hSw; (try dsimp only at hSw); go_simp; done) | (intro w hSw; (try dsimp only at hSw); go_simp; with_reducible rfl)
                try simp only [Act.put, List.setIfInBounds_toArray, List.set_cons_zero, List.set_cons_succ]
                refine takeD (i := 4) (v := ?v3a_4) (some 65) rfl (by kernel_rfl) (by kernel_rfl) (by kernel_rfl) (fun _ _ _ h => h) (Or.inl ⟨by rfl, ?hy3a_4⟩) (by assumption) (by rfl) ?rest3a_4
                case hy3a_4 => first | (intro w hSw; (try dsimp only at hSw); go_simp; done) | (intro w hSw; (try dsimp only at hSw); go_simp; with_reducible rfl)
                try simp only [Act.put, List.setIfInBounds_toArray, List.set_cons_zero, List.set_cons_succ]
                refine takeD (i := 5) (v := ?v3a_5) (some 66) rfl (by kernel_rfl) (by kernel_rfl) (by kernel_rfl) (fun _ _ _ h => h) (Or.inl ⟨by rfl, ?hy3a_5⟩) (by assumption) (by rfl) ?rest3a_5
                case hy3a_5 => first | (intro w hSw; (try dsimp only at hSw); go_simp; done) | (intro w hSw; (try dsimp only at hSw); go_simp; with_reducible rfl)
                try simp only [Act.put, List.setIfInBounds_toArray, List.set_cons_zero, List.set_cons_succ]
                refine takeD (i := 6) (v := ?v3a_6) (some 67) rfl (by kernel_rfl) (by kernel_rfl) (by kernel_rfl) (fun _ _ _ h => h) (Or.inl ⟨by rfl, ?hy3a_6⟩) (by assumption) (by rfl) ?rest3a_6
                case hy3a_6 => first | (intro w hSw; (try dsimp only at hSw); go_simp; done) | (intro w hSw; (try dsimp only at hSw); go_simp; with_reducible rfl)
                try simp only [Act.put, List.setIfInBounds_toArray, List.set_cons_zero, List.set_cons_succ]
                refine takeD (i := 7) (v := ?v3a_7) (some 68) rfl (by kernel_rfl) (by kernel_rfl) (by kernel_rfl) (fun _ _ _ h => h) (Or.inl ⟨by rfl, ?hy3a_7⟩) (by assumption) (by rfl) ?rest3a_7
                case hy3a_7 => first | (intro w hSw; (try dsimp only at hSw); go_simp; done) | (intro w hSw; (try dsimp only at hSw); go_simp; with_reducible rfl)
                try simp only [Act.put, List.setIfInBounds_toArray, List.set_cons_zero, List.set_cons_succ]
                refine takeD (i := 8) (v := ?v3a_8) (some 69) rfl (by kernel_rfl) (by kernel_rfl) (by kernel_rfl) (fun _ _ _ h => h) (Or.inl ⟨by rfl, ?hy3a_8⟩) (by assumption) (by rfl) ?rest3a_8
                case hy3a_8 => first | (intro w hSw; (try dsimp only at hSw); go_simp; done) | (intro w hSw; (try dsimp only at hSw); go_simp; with_reducible rfl)
                try simp only [Act.put, List.setIfInBounds_toArray, List.set_cons_zero, List.set_cons_succ]
                refine takeD (i := 9) (v := ?v3a_9) (some 70) rfl (by kernel_rfl) (by kernel_rfl) (by kernel_rfl) (fun _ _ _ h => h) (Or.inl ⟨by rfl, ?hy3a_9⟩) (by assumption) (by rfl) ?rest3a_9
                case hy3a_9 => first | (intro w hSw; (try dsimp only at hSw); go_simp; done) | (intro w hSw; (try dsimp only at hSw); go_simp; with_reducible rfl)
                try simp only [Act.put, List.setIfInBounds_toArray, List.set_cons_zero, List.set_cons_succ]
                refine takeD (i := 10) (v := ?v3a_10) (some 71) rfl (by kernel_rfl) (by kernel_rfl) (by kernel_rfl) (fun _ _ _ h => h) (Or.inl ⟨by rfl, ?hy3a_10⟩) (by assumption) (by rfl) ?rest3a_10
                case hy3a_10 => first | (intro w hSw; (try dsimp only at hSw); go_simp; done) | (intro w hSw; (try dsimp only at hSw); go_simp; with_reducible rfl)
                try simp only [Act.put, List.setIfInBounds_toArray, List.set_cons_zero, List.set_cons_succ]
                refine takeD (i := 11) (v := ?v3a_11) (some 72) rfl (by kernel_rfl) (by kernel_rfl) (by kernel_rfl) (fun _ _ _ h => h) (Or.inl ⟨by rfl, ?hy3a_11⟩) (by assumption) (by rfl) ?rest3a_11
                case hy3a_11 => first | (intro w hSw; (try dsimp only at hSw); go_simp; done) | (intro w hSw; (try dsimp only at hSw); go_simp; with_reducible rfl)
                try simp only [Act.put, List.setIfInBounds_toArray, List.set_cons_zero, List.set_cons_succ]
                refine takeD (i := 12) (v := ?v3a_12) (some 73) rfl (by kernel_rfl) (by kernel_rfl) (by kernel_rfl) (fun _ _ _ h => h) (Or.inl ⟨by rfl, ?hy3a_12⟩) (by assumption) (by rfl) ?rest3a_12
                case hy3a_12 => first | (intro w hSw; (try dsimp only at hSw); go_simp; done) | (intro w hSw; (try dsimp only at hSw); go_simp; with_reducible rfl)
                try simp only [Act.put, List.setIfInBounds_toArray, List.set_cons_zero, List.set_cons_succ]
                refine takeD (i := 13) (v := ?v3a_13) (some 74) rfl (by kernel_rfl) (by kernel_rfl) (by kernel_rfl) (fun _ _ _ h => h) (Or.inl ⟨by rfl, ?hy3a_13⟩) (by assumption) (by rfl) ?rest3a_13
                case hy3a_13 => first | (intro w hSw; (try dsimp only at hSw); go_simp; done) | (intro w hSw; (try dsimp only at hSw); go_simp; with_reducible rfl)
                try simp only [Act.put, List.setIfInBounds_toArray, List.set_cons_zero, List.set_cons_succ]
                refine wpAnyH_done (by kernel_rfl) ?_ _
                go_wp2
                go_ret2
                refine ⟨_, _, rfl, .inr (one_hit3 hp HX0.out HX1.out HX2.out HX3.out l0 l1 l2 l3 HM.out (by omega) ⟨HL.out, HI.out⟩ ?_), bafter (bafter KB.out HB2.out (Nat.le_refl _)) ((Below.refl _ W2).drew) (Nat.le_refl _)⟩
                rw [HM2.out]; exact HG.out
              · have HI := hide hit
                clear hit
                have hne : ¬ strOf (encL g) = strOf ((T.drop p).take 3) := by
                  refine fun k => HI.out ?_
                  rw [← HT2.out]
                  exact strOf_inj (fun x hx => (HV.out.small x hx)) (fun x hx => HBw.out.small x (List.mem_of_mem_drop (List.mem_of_mem_take hx))) k
                have hs := str_neU hne
                clear hne
                go_wp2
                refine wp_region_held_drew (S := fun W => (convert 22 9 (.slice va el vc)).run Tryz.prog W = .ok (.string (strOf (encL g))) W ∧ (convert 22 9 (.slice (some ⟨b, off + p, none⟩) 3 (cap - p))).run Tryz.prog W = .ok (.string (strOf ((T.drop p).take 3))) W) (by kernel_rfl) ⟨conv_byts (HV.out.below ((Below.refl _ W2).drew)), conv_byts ((HC2.out.cut (by omega)).below ((Below.refl _ W2).drew))⟩ (fun hHeld => ?_)
                refine takeD (i := 0) (v := ?v3b_0) (some 61) rfl (by kernel_rfl) (by kernel_rfl) (by kernel_rfl) (fun _ _ _ h => h) (Or.inl ⟨by rfl, ?hy3b_0⟩) (by assumption) (by rfl) ?rest3b_0
                case hy3b_0 => first | (intro w hSw; (try dsimp only at hSw); go_simp; done) | (intro w hSw; (try dsimp only at hSw); go_simp; with_reducible rfl)
                try simp only [Act.put, List.setIfInBounds_toArray, List.set_cons_zero, List.set_cons_succ]
                refine takeD (i := 1) (v := ?v3b_1) (some 62) rfl (by kernel_rfl) (by kernel_rfl) (by kernel_rfl) (fun _ _ _ h => h) (Or.inl ⟨by rfl, ?hy3b_1⟩) (by assumption) (by rfl) ?rest3b_1
                case hy3b_1 => first | (intro w hSw; (try dsimp only at hSw); go_simp; done) | (intro w hSw; (try dsimp only at hSw); go_simp; with_reducible rfl)
                try simp only [Act.put, List.setIfInBounds_toArray, List.set_cons_zero, List.set_cons_succ]
                refine takeD (i := 2) (v := ?v3b_2) (some 63) rfl (by kernel_rfl) (by kernel_rfl) (by kernel_rfl) (fun _ _ _ h => h) (Or.inl ⟨by rfl, ?hy3b_2⟩) (by assumption) (by rfl) ?rest3b_2
                case hy3b_2 => first | (intro w hSw; (try dsimp only at hSw); go_simp; done) | (intro w hSw; (try dsimp only at hSw); go_simp; with_reducible rfl)
                try simp only [Act.put, List.setIfInBounds_toArray, List.set_cons_zero, List.set_cons_succ]
                refine takeD (i := 3) (v := ?v3b_3) (some 64) rfl (by kernel_rfl) (by kernel_rfl) (by kernel_rfl) (fun _ _ _ h => h) (Or.inl ⟨by rfl, ?hy3b_3⟩) (by assumption) (by rfl) ?rest3b_3
                case hy3b_3 => first | (intro w hSw; (try dsimp only at hSw); go_simp; done) | (intro w hSw; (try dsimp only at hSw); go_simp; with_reducible rfl)
                try simp only [Act.put, List.setIfInBounds_toArray, List.set_cons_zero, List.set_cons_succ]
                refine takeD (i := 4) (v := ?v3b_4) (some 65) rfl (by kernel_rfl) (by kernel_rfl) (by kernel_rfl) (fun _ _ _ h => h) (Or.inl ⟨by rfl, ?hy3b_4⟩) (by assumption) (by rfl) ?rest3b_4
                case hy3b_4 => first | (intro w hSw; (try dsimp only at hSw); go_simp; done) | (intro w hSw; (try dsimp only at hSw); go_simp; with_reducible rfl)
                try simp only [Act.put, List.setIfInBounds_toArray, List.set_cons_zero, List.set_cons_succ]
                refine takeD (i := 5) (v := ?v3b_5) (some 66) rfl (by kernel_rfl) (by kernel_rfl) (by kernel_rfl) (fun _ _ _ h => h) (Or.inl ⟨by rfl, ?hy3b_5⟩) (by assumption) (by rfl) ?rest3b_5
                case hy3b_5 => first | (intro w hSw; (try dsimp only at hSw); go_simp; done) | (intro w hSw; (try dsimp only at hSw); go_simp; with_reducible rfl)
                try simp only [Act.put, List.setIfInBounds_toArray, List.set_cons_zero, List.set_cons_succ]
                refine takeD (i := 6) (v := ?v3b_6) (some 67) rfl (by kernel_rfl) (by kernel_rfl) (by kernel_rfl) (fun _ _ _ h => h) (Or.inl ⟨by rfl, ?hy3b_6⟩) (by assumption) (by rfl) ?rest3b_6
                case hy3b_6 => first | (intro w hSw; (try dsimp only at hSw); go_simp; done) | (intro w hSw; (try dsimp only at hSw); go_simp; with_reducible rfl)
                try simp only [Act.put, List.setIfInBounds_toArray, List.set_cons_zero, List.set_cons_succ]
                refine takeD (i := 7) (v := ?v3b_7) (some 68) rfl (by kernel_rfl) (by kernel_rfl) (by kernel_rfl) (fun _ _ _ h => h) (Or.inl ⟨by rfl, ?hy3b_7⟩) (by assumption) (by rfl) ?rest3b_7
                case hy3b_7 => first | (intro w hSw; (try dsimp only at hSw); go_simp; done) | (intro w hSw; (try dsimp only at hSw); go_simp; with_reducible rfl)
                try simp only [Act.put, List.setIfInBounds_toArray, List.set_cons_zero, List.set_cons_succ]
                refine takeD (i := 8) (v := ?v3b_8) (some 69) rfl (by kernel_rfl) (by kernel_rfl) (by kernel_rfl) (fun _ _ _ h => h) (Or.inl ⟨by rfl, ?hy3b_8⟩) (by assumption) (by rfl) ?rest3b_8
                case hy3b_8 => first | (intro w hSw; (try dsimp only at hSw); go_simp; done) | (intro w hSw; (try dsimp only at hSw); go_simp; with_reducible rfl)
                try simp only [Act.put, List.setIfInBounds_toArray, List.set_cons_zero, List.set_cons_succ]
                refine takeD (i := 9) (v := ?v3b_9) (some 70) rfl (by kernel_rfl) (by kernel_rfl) (by kernel_rfl) (fun _ _ _ h => h) (Or.inl ⟨by rfl, ?hy3b_9⟩) (by assumption) (by rfl) ?rest3b_9
                case hy3b_9 => first | (intro w hSw; (try dsimp only at hSw); go_simp; done) | (intro w hSw; (try dsimp only at hSw); go_simp; with_reducible rfl)
                try simp only [Act.put, List.setIfInBounds_toArray, List.set_cons_zero, List.set_cons_succ]
                refine takeD (i := 10) (v := ?v3b_10) (some 71) rfl (by kernel_rfl) (by kernel_rfl) (by kernel_rfl) (fun _ _ _ h => h) (Or.inl ⟨by rfl, ?hy3b_10⟩) (by assumption) (by rfl) ?rest3b_10
                case hy3b_10 => first | (intro w hSw; (try dsimp only at hSw); go_simp; done) | (intro w hSw; (try dsimp only at hSw); go_simp; with_reducible rfl)
                try simp only [Act.put, List.setIfInBounds_toArray, List.set_cons_zero, List.set_cons_succ]
                refine takeD (i := 11) (v := ?v3b_11) (some 72) rfl (by kernel_rfl) (by kernel_rfl) (by kernel_rfl) (fun _ _ _ h => h) (Or.inl ⟨by rfl, ?hy3b_11⟩) (by assumption) (by rfl) ?rest3b_11
                case hy3b_11 => first | (intro w hSw; (try dsimp only at hSw); go_simp; done) | (intro w hSw; (try dsimp only at hSw); go_simp; with_reducible rfl)
                try simp only [Act.put, List.setIfInBounds_toArray, List.set_cons_zero, List.set_cons_succ]
                refine takeD (i := 12) (v := ?v3b_12) (some 73) rfl (by kernel_rfl) (by kernel_rfl) (by kernel_rfl) (fun _ _ _ h => h) (Or.inl ⟨by rfl, ?hy3b_12⟩) (by assumption) (by rfl) ?rest3b_12
                case hy3b_12 => first | (intro w hSw; (try dsimp only at hSw); go_simp; done) | (intro w hSw; (try dsimp only at hSw); go_simp; with_reducible rfl)
                try simp only [Act.put, List.setIfInBounds_toArray, List.set_cons_zero, List.set_cons_succ]
                refine takeD (i := 13) (v := ?v3b_13) (some 74) rfl (by kernel_rfl) (by kernel_rfl) (by kernel_rfl) (fun _ _ _ h => h) (Or.inl ⟨by rfl, ?hy3b_13⟩) (by assumption) (by rfl) ?rest3b_13
                case hy3b_13 => first | (intro w hSw; (try dsimp only at hSw); go_simp; done) | (intro w hSw; (try dsimp only at hSw); go_simp; with_reducible rfl)
                try simp only [Act.put, List.setIfInBounds_toArray, List.set_cons_zero, List.set_cons_succ]
                refine wpAnyH_done (by kernel_rfl) ?_ _
                go_wp2
                go_roundw
                case rel => exact ⟨4, by omega, by omega, rfl, missed3 l0 HM.out (fun k => HI.out (by have k2 := k.2; rw [← HG.out, ← HM2.out, Int.toNat_natCast] at k2; exact k2)), bafter (bafter KB.out HB2.out (Nat.le_refl _)) ((Below.refl _ W2).drew) (Nat.le_refl _)⟩
                case measure => simp [RowKit.intOf]
            · have HLn := hide hl
              refine (rencode_bad _ M hl).mono ?_
              rintro e W2 ⟨rfl, rfl⟩
              clear hl
              go_wp2
              go_quiet (fail)
              go_wp2
              go_roundw
              case rel => exact ⟨4, by omega, by omega, rfl, missed3 l0 HM.out (fun k => HLn.out (by have k1 := k.1; rw [← HG.out, ← HM2.out] at k1; exact k1)), below_drewN KB.out _⟩
              case measure => simp [RowKit.intOf]
      · have g2 : (p : Int) + 4 ≤ (T.length : Int) := by omega
        have g3 : IntKind.i64.wrap ((p : Int) + 4) = (p : Int) + 4 := by rw [IntKind.wrap_i64]; omega
        obtain ⟨R1, hR1⟩ : ∃ R1 : Int, (x0 : Int) - 240 = R1 := ⟨_, rfl⟩
        have w1 : IntKind.i64.wrap R1 = R1 := by rw [IntKind.wrap_i64]; omega
        have HG : Hid (part R1 x1 x2 x3 4 = (guess4 x0 x1 x2 x3)) := by show ((R1 * 64 + (x1 : Int) - 128) * 64 + (x2 : Int) - 128) * 64 + (x3 : Int) - 128 = _; unfold guess4; omega
        have HRb : Hid (-240 ≤ R1 ∧ R1 ≤ 255) := by show _ ∧ _; omega
        have c1 := HCc.out 1 (by omega)
        rw [HX1.out] at c1
        have z1 : (p : Int) + 1 < (T.length : Int) := by omega
        have v1 : IntKind.i64.wrap (x1 : Int) = (x1 : Int) := by rw [IntKind.wrap_i64]; omega
        have y1 : IntKind.i64.wrap ((p : Int) + 1) = (p : Int) + 1 := by rw [IntKind.wrap_i64]; omega
        have c2 := HCc.out 2 (by omega)
        rw [HX2.out] at c2
        have z2 : (p : Int) + 2 < (T.length : Int) := by omega
        have v2 : IntKind.i64.wrap (x2 : Int) = (x2 : Int) := by rw [IntKind.wrap_i64]; omega
        have y2 : IntKind.i64.wrap ((p : Int) + 2) = (p : Int) + 2 := by rw [IntKind.wrap_i64]; omega
        have c3 := HCc.out 3 (by omega)
        rw [HX3.out] at c3
        have z3 : (p : Int) + 3 < (T.length : Int) := by omega
        have v3 : IntKind.i64.wrap (x3 : Int) = (x3 : Int) := by rw [IntKind.wrap_i64]; omega
        have y3 : IntKind.i64.wrap ((p : Int) + 3) = (p : Int) + 3 := by rw [IntKind.wrap_i64]; omega
        go_wp2
        go_loopw [7, 8] (fun r k wv => ∃ (q : Nat) (M : Int), 1 ≤ q ∧ q ≤ 4 ∧ k = .int .i64 (q : Int) ∧ r = .int .i64 M ∧ M = part R1 x1 x2 x3 q ∧ wv = wr) (fun _ k _ => 6 - (RowKit.intOf k).toNat)
        case atStart => exact ⟨1, R1, by omega, by omega, rfl, rfl, rfl, rfl⟩
        case round =>
          obtain ⟨q, M, hq1, hq2, rfl, rfl, hM, rfl⟩ := hrel
          by_cases hq : q < 4
          · have hqq : q = 1 ∨ q = 2 ∨ q = 3 := by omega
            rcases hqq with rfl | rfl | rfl
            · have hM' : M = R1 := hM
              have hrb := HRb.out
              obtain ⟨M1, hM1⟩ : ∃ M1, M * 64 = M1 := ⟨_, rfl⟩
              obtain ⟨M2, hM2⟩ : ∃ M2, M1 + (x1 : Int) = M2 := ⟨_, rfl⟩
              obtain ⟨M3, hM3⟩ : ∃ M3, M2 - 128 = M3 := ⟨_, rfl⟩
              have u1 : IntKind.i64.wrap M1 = M1 := by rw [IntKind.wrap_i64]; omega
              have u2 : IntKind.i64.wrap M2 = M2 := by rw [IntKind.wrap_i64]; omega
              have u3 : IntKind.i64.wrap M3 = M3 := by rw [IntKind.wrap_i64]; omega
              have HN : Hid (M3 = part R1 x1 x2 x3 2) := by show M3 = R1 * 64 + (x1 : Int) - 128; omega
              clear hM hM' hrb
              go_wp2
              go_roundw
              case rel => exact ⟨2, M3, by omega, by omega, by go_num, rfl, HN.out, trivial⟩
              case measure => simp [RowKit.intOf]
            · have hM' : M = R1 * 64 + (x1 : Int) - 128 := hM
              have hrb := HRb.out
              obtain ⟨M1, hM1⟩ : ∃ M1, M * 64 = M1 := ⟨_, rfl⟩
              obtain ⟨M2, hM2⟩ : ∃ M2, M1 + (x2 : Int) = M2 := ⟨_, rfl⟩
              obtain ⟨M3, hM3⟩ : ∃ M3, M2 - 128 = M3 := ⟨_, rfl⟩
              have u1 : IntKind.i64.wrap M1 = M1 := by rw [IntKind.wrap_i64]; omega
              have u2 : IntKind.i64.wrap M2 = M2 := by rw [IntKind.wrap_i64]; omega
              have u3 : IntKind.i64.wrap M3 = M3 := by rw [IntKind.wrap_i64]; omega
              have HN : Hid (M3 = part R1 x1 x2 x3 3) := by show M3 = (R1 * 64 + (x1 : Int) - 128) * 64 + (x2 : Int) - 128; omega
              clear hM hM' hrb
              go_wp2
              go_roundw
              case rel => exact ⟨3, M3, by omega, by omega, by go_num, rfl, HN.out, trivial⟩
              case measure => simp [RowKit.intOf]
            · have hM' : M = (R1 * 64 + (x1 : Int) - 128) * 64 + (x2 : Int) - 128 := hM
              have hrb := HRb.out
              obtain ⟨M1, hM1⟩ : ∃ M1, M * 64 = M1 := ⟨_, rfl⟩
              obtain ⟨M2, hM2⟩ : ∃ M2, M1 + (x3 : Int) = M2 := ⟨_, rfl⟩
              obtain ⟨M3, hM3⟩ : ∃ M3, M2 - 128 = M3 := ⟨_, rfl⟩
              have u1 : IntKind.i64.wrap M1 = M1 := by rw [IntKind.wrap_i64]; omega
              have u2 : IntKind.i64.wrap M2 = M2 := by rw [IntKind.wrap_i64]; omega
              have u3 : IntKind.i64.wrap M3 = M3 := by rw [IntKind.wrap_i64]; omega
              have HN : Hid (M3 = part R1 x1 x2 x3 4) := by show M3 = ((R1 * 64 + (x1 : Int) - 128) * 64 + (x2 : Int) - 128) * 64 + (x3 : Int) - 128; omega
              clear hM hM' hrb
              go_wp2
              go_roundw
              case rel => exact ⟨4, M3, by omega, by omega, by go_num, rfl, HN.out, trivial⟩
              case measure => simp [RowKit.intOf]
          · obtain rfl : q = 4 := by omega
            have HM2 := hide hM
            clear hM
            go_wp2_with fail
            by_cases hl : isLet M
            · obtain ⟨g, rfl⟩ : ∃ g : Nat, M = (g : Int) := ⟨M.toNat, by have := hl.1; omega⟩
              refine (rencode_calls _ g hl).mono ?_
              rintro e W2 ⟨v, rfl, hv, hb2⟩
              obtain ⟨va, vc, rfl, hv1, hv2⟩ := id hv
              have HV := hide hv
              have HB2 := hide hb2
              generalize hEl : (encL g).length = el at *
              have HL := hide hl
              clear hv hb2 hv1 hv2 hl
              have dpm : (p : Int) ≤ (p : Int) + 4 := by omega
              have dpc : (p : Int) + 4 ≤ (cap : Int) := by omega
              have hcp : ¬ cap = p := by omega
              have htn : ((p : Int) + 4).toNat - p = 4 := by omega
              have HC2 := hide (HBw.out.below HB2.out)
              have hT2 : (T.drop p).take 4 = [x0, x1, x2, x3] := by rw [take_nth (by rw [List.length_drop]; omega)]; simp [List.range, List.range.loop, nth_drop, show nth T p = x0 from HX0.out, HX1.out, HX2.out, HX3.out]
              have HT2 := hide hT2
              clear hT2
              by_cases hit : encL g = [x0, x1, x2, x3]
              · have HI := hide hit
                clear hit
                have he : (T.drop p).take 4 = encL g := by rw [HI.out, HT2.out]
                have hcv : Byts W2 (.slice (some ⟨b, off + p, none⟩) 4 (cap - p)) (encL g) := by rw [← he]; exact HC2.out.cut (by omega)
                have HCV := hide hcv
                clear he hcv
                go_wp2
                refine wp_region_held_drew (S := fun W => (convert 22 9 (.slice va el vc)).run Tryz.prog W = .ok (.string (strOf (encL g))) W ∧ (convert 22 9 (.slice (some ⟨b, off + p, none⟩) 4 (cap - p))).run Tryz.prog W = .ok (.string (strOf (encL g))) W) (by kernel_rfl) ⟨conv_byts (HV.out.below ((Below.refl _ W2).drew)), conv_byts (HCV.out.below ((Below.refl _ W2).drew))⟩ (fun hHeld => ?_)
                refine takeD (i := 0) (v := ?v4a_0) (some 61) rfl (by kernel_rfl) (by kernel_rfl) (by kernel_rfl) (fun _ _ _ h => h) (Or.inl ⟨by rfl, ?hy4a_0⟩) (by assumption) (by rfl) ?rest4a_0
                case hy4a_0 => first | (intro w hSw; (try dsimp only at hSw); go_simp; done) | (intro w hSw; (try dsimp only at hSw); go_simp; with_reducible rfl)
                try simp only [Act.put, List.setIfInBounds_toArray, List.set_cons_zero, List.set_cons_succ]
                refine takeD (i := 1) (v := ?v4a_1) (some 62) rfl (by kernel_rfl) (by kernel_rfl) (by kernel_rfl) (fun _ _ _ h => h) (Or.inl ⟨by rfl, ?hy4a_1⟩) (by assumption) (by rfl) ?rest4a_1
                case hy4a_1 => first | (intro w hSw; (try dsimp only at hSw); go_simp; done) | (intro w hSw; (try dsimp only at hSw); go_simp; with_reducible rfl)
                try simp only [Act.put, List.setIfInBounds_toArray, List.set_cons_zero, List.set_cons_succ]
                refine takeD (i := 2) (v := ?v4a_2) (some 63) rfl (by kernel_rfl) (by kernel_rfl) (by kernel_rfl) (fun _ _ _ h => h) (Or.inl ⟨by rfl, ?hy4a_2⟩) (by assumption) (by rfl) ?rest4a_2
                case hy4a_2 => first | (intro w hSw; (try dsimp only at hSw); go_simp; done) | (intro w hSw; (try dsimp only at hSw); go_simp; with_reducible rfl)
                try simp only [Act.put, List.setIfInBounds_toArray, List.set_cons_zero, List.set_cons_succ]
                refine takeD (i := 3) (v := ?v4a_3) (some 64) rfl (by kernel_rfl) (by kernel_rfl) (by kernel_rfl) (fun _ _ _ h => h) (Or.inl ⟨by rfl, ?hy4a_3⟩) (by assumption) (by rfl) ?rest4a_3
                case hy4a_3 => first | (intro w hSw; (try dsimp only at hSw); go_simp; done) | (intro w hSw; (try dsimp only at hSw); go_simp; with_reducible rfl)
                try simp only [Act.put, List.setIfInBounds_toArray, List.set_cons_zero, List.set_cons_succ]
                refine takeD (i := 4) (v := ?v4a_4) (some 65) rfl (by kernel_rfl) (by kernel_rfl) (by kernel_rfl) (fun _ _ _ h => h) (Or.inl ⟨by rfl, ?hy4a_4⟩) (by assumption) (by rfl) ?rest4a_4
                case hy4a_4 => first | (intro w hSw; (try dsimp only at hSw); go_simp; done) | (intro w hSw; (try dsimp only at hSw); go_simp; with_reducible rfl)
                try simp only [Act.put, List.setIfInBounds_toArray, List.set_cons_zero, List.set_cons_succ]
                refine takeD (i := 5) (v := ?v4a_5) (some 66) rfl (by kernel_rfl) (by kernel_rfl) (by kernel_rfl) (fun _ _ _ h => h) (Or.inl ⟨by rfl, ?hy4a_5⟩) (by assumption) (by rfl) ?rest4a_5
                case hy4a_5 => first | (intro w hSw; (try dsimp only at hSw); go_simp; done) | (intro w hSw; (try dsimp only at hSw); go_simp; with_reducible rfl)
                try simp only [Act.put, List.setIfInBounds_toArray, List.set_cons_zero, List.set_cons_succ]
                refine takeD (i := 6) (v := ?v4a_6) (some 67) rfl (by kernel_rfl) (by kernel_rfl) (by kernel_rfl) (fun _ _ _ h => h) (Or.inl ⟨by rfl, ?hy4a_6⟩) (by assumption) (by rfl) ?rest4a_6
                case hy4a_6 => first | (intro w hSw; (try dsimp only at hSw); go_simp; done) | (intro w hSw; (try dsimp only at hSw); go_simp; with_reducible rfl)
                try simp only [Act.put, List.setIfInBounds_toArray, List.set_cons_zero, List.set_cons_succ]
                refine takeD (i := 7) (v := ?v4a_7) (some 68) rfl (by kernel_rfl) (by kernel_rfl) (by kernel_rfl) (fun _ _ _ h => h) (Or.inl ⟨by rfl, ?hy4a_7⟩) (by assumption) (by rfl) ?rest4a_7
                case hy4a_7 => first | (intro w hSw; (try dsimp only at hSw); go_simp; done) | (intro w hSw; (try dsimp only at hSw); go_simp; with_reducible rfl)
                try simp only [Act.put, List.setIfInBounds_toArray, List.set_cons_zero, List.set_cons_succ]
                refine takeD (i := 8) (v := ?v4a_8) (some 69) rfl (by kernel_rfl) (by kernel_rfl) (by kernel_rfl) (fun _ _ _ h => h) (Or.inl ⟨by rfl, ?hy4a_8⟩) (by assumption) (by rfl) ?rest4a_8
                case hy4a_8 => first | (intro w hSw; (try dsimp only at hSw); go_simp; done) | (intro w hSw; (try dsimp only at hSw); go_simp; with_reducible rfl)
                try simp only [Act.put, List.setIfInBounds_toArray, List.set_cons_zero, List.set_cons_succ]
                refine takeD (i := 9) (v := ?v4a_9) (some 70) rfl (by kernel_rfl) (by kernel_rfl) (by kernel_rfl) (fun _ _ _ h => h) (Or.inl ⟨by rfl, ?hy4a_9⟩) (by assumption) (by rfl) ?rest4a_9
                case hy4a_9 => first | (intro w hSw; (try dsimp only at hSw); go_simp; done) | (intro w hSw; (try dsimp only at hSw); go_simp; with_reducible rfl)
                try simp only [Act.put, List.setIfInBounds_toArray, List.set_cons_zero, List.set_cons_succ]
                refine takeD (i := 10) (v := ?v4a_10) (some 71) rfl (by kernel_rfl) (by kernel_rfl) (by kernel_rfl) (fun _ _ _ h => h) (Or.inl ⟨by rfl, ?hy4a_10⟩) (by assumption) (by rfl) ?rest4a_10
                case hy4a_10 => first | (intro w hSw; (try dsimp only at hSw); go_simp; done) | (intro w hSw; (try dsimp only at hSw); go_simp; with_reducible rfl)
                try simp only [Act.put, List.setIfInBounds_toArray, List.set_cons_zero, List.set_cons_succ]
                refine takeD (i := 11) (v := ?v4a_11) (some 72) rfl (by kernel_rfl) (by kernel_rfl) (by kernel_rfl) (fun _ _ _ h => h) (Or.inl ⟨by rfl, ?hy4a_11⟩) (by assumption) (by rfl) ?rest4a_11
                case hy4a_11 => first | (intro w hSw; (try dsimp only at hSw); go_simp; done) | (intro w hSw; (try dsimp only at hSw); go_simp; with_reducible rfl)
                try simp only [Act.put, List.setIfInBounds_toArray, List.set_cons_zero, List.set_cons_succ]
                refine takeD (i := 12) (v := ?v4a_12) (some 73) rfl (by kernel_rfl) (by kernel_rfl) (by kernel_rfl) (fun _ _ _ h => h) (Or.inl ⟨by rfl, ?hy4a_12⟩) (by assumption) (by rfl) ?rest4a_12
                case hy4a_12 => first | (intro w hSw; (try dsimp only at hSw); go_simp; done) | (intro w hSw; (try dsimp only at hSw); go_simp; with_reducible rfl)
                try simp only [Act.put, List.setIfInBounds_toArray, List.set_cons_zero, List.set_cons_succ]
                refine takeD (i := 13) (v := ?v4a_13) (some 74) rfl (by kernel_rfl) (by kernel_rfl) (by kernel_rfl) (fun _ _ _ h => h) (Or.inl ⟨by rfl, ?hy4a_13⟩) (by assumption) (by rfl) ?rest4a_13
                case hy4a_13 => first | (intro w hSw; (try dsimp only at hSw); go_simp; done) | (intro w hSw; (try dsimp only at hSw); go_simp; with_reducible rfl)
                try simp only [Act.put, List.setIfInBounds_toArray, List.set_cons_zero, List.set_cons_succ]
                refine wpAnyH_done (by kernel_rfl) ?_ _
                go_wp2
                go_ret2
                refine ⟨_, _, rfl, .inr (one_hit4 hp HX0.out HX1.out HX2.out HX3.out l0 l1 l2 l3 HM.out (by omega) ⟨HL.out, HI.out⟩ ?_), bafter (bafter KB.out HB2.out (Nat.le_refl _)) ((Below.refl _ W2).drew) (Nat.le_refl _)⟩
                rw [HM2.out]; exact HG.out
              · have HI := hide hit
                clear hit
                have hne : ¬ strOf (encL g) = strOf ((T.drop p).take 4) := by
                  refine fun k => HI.out ?_
                  rw [← HT2.out]
                  exact strOf_inj (fun x hx => (HV.out.small x hx)) (fun x hx => HBw.out.small x (List.mem_of_mem_drop (List.mem_of_mem_take hx))) k
                have hs := str_neU hne
                clear hne
                go_wp2
                refine wp_region_held_drew (S := fun W => (convert 22 9 (.slice va el vc)).run Tryz.prog W = .ok (.string (strOf (encL g))) W ∧ (convert 22 9 (.slice (some ⟨b, off + p, none⟩) 4 (cap - p))).run Tryz.prog W = .ok (.string (strOf ((T.drop p).take 4))) W) (by kernel_rfl) ⟨conv_byts (HV.out.below ((Below.refl _ W2).drew)), conv_byts ((HC2.out.cut (by omega)).below ((Below.refl _ W2).drew))⟩ (fun hHeld => ?_)
                refine takeD (i := 0) (v := ?v4b_0) (some 61) rfl (by kernel_rfl) (by kernel_rfl) (by kernel_rfl) (fun _ _ _ h => h) (Or.inl ⟨by rfl, ?hy4b_0⟩) (by assumption) (by rfl) ?rest4b_0
                case hy4b_0 => first | (intro w hSw; (try dsimp only at hSw); go_simp; done) | (intro w hSw; (try dsimp only at hSw); go_simp; with_reducible rfl)
                try simp only [Act.put, List.setIfInBounds_toArray, List.set_cons_zero, List.set_cons_succ]
                refine takeD (i := 1) (v := ?v4b_1) (some 62) rfl (by kernel_rfl) (by kernel_rfl) (by kernel_rfl) (fun _ _ _ h => h) (Or.inl ⟨by rfl, ?hy4b_1⟩) (by assumption) (by rfl) ?rest4b_1
                case hy4b_1 => first | (intro w hSw; (try dsimp only at hSw); go_simp; done) | (intro w hSw; (try dsimp only at hSw); go_simp; with_reducible rfl)
                try simp only [Act.put, List.setIfInBounds_toArray, List.set_cons_zero, List.set_cons_succ]
                refine takeD (i := 2) (v := ?v4b_2) (some 63) rfl (by kernel_rfl) (by kernel_rfl) (by kernel_rfl) (fun _ _ _ h => h) (Or.inl ⟨by rfl, ?hy4b_2⟩) (by assumption) (by rfl) ?rest4b_2
                case hy4b_2 => first | (intro w hSw; (try dsimp only at hSw); go_simp; done) | (intro w hSw; (try dsimp only at hSw); go_simp; with_reducible rfl)
                try simp only [Act.put, List.setIfInBounds_toArray, List.set_cons_zero, List.set_cons_succ]
                refine takeD (i := 3) (v := ?v4b_3) (some 64) rfl (by kernel_rfl) (by kernel_rfl) (by kernel_rfl) (fun _ _ _ h => h) (Or.inl ⟨by rfl, ?hy4b_3⟩) (by assumption) (by rfl) ?rest4b_3
                case hy4b_3 => first | (intro w hSw; (try dsimp only at hSw); go_simp; done) | (intro w hSw; (try dsimp only at hSw); go_simp; with_reducible rfl)
                try simp only [Act.put, List.setIfInBounds_toArray, List.set_cons_zero, List.set_cons_succ]
                refine takeD (i := 4) (v := ?v4b_4) (some 65) rfl (by kernel_rfl) (by kernel_rfl) (by kernel_rfl) (fun _ _ _ h => h) (Or.inl ⟨by rfl, ?hy4b_4⟩) (by assumption) (by rfl) ?rest4b_4
                case hy4b_4 => first | (intro w hSw; (try dsimp only at hSw); go_simp; done) | (intro w hSw; (try dsimp only at hSw); go_simp; with_reducible rfl)
                try simp only [Act.put, List.setIfInBounds_toArray, List.set_cons_zero, List.set_cons_succ]
                refine takeD (i := 5) (v := ?v4b_5) (some 66) rfl (by kernel_rfl) (by kernel_rfl) (by kernel_rfl) (fun _ _ _ h => h) (Or.inl ⟨by rfl, ?hy4b_5⟩) (by assumption) (by rfl) ?rest4b_5
                case hy4b_5 => first | (intro w hSw; (try dsimp only at hSw); go_simp; done) | (intro w hSw; (try dsimp only at hSw); go_simp; with_reducible rfl)
                try simp only [Act.put, List.setIfInBounds_toArray, List.set_cons_zero, List.set_cons_succ]
                refine takeD (i := 6) (v := ?v4b_6) (some 67) rfl (by kernel_rfl) (by kernel_rfl) (by kernel_rfl) (fun _ _ _ h => h) (Or.inl ⟨by rfl, ?hy4b_6⟩) (by assumption) (by rfl) ?rest4b_6
                case hy4b_6 => first | (intro w hSw; (try dsimp only at hSw); go_simp; done) | (intro w hSw; (try dsimp only at hSw); go_simp; with_reducible rfl)
                try simp only [Act.put, List.setIfInBounds_toArray, List.set_cons_zero, List.set_cons_succ]
                refine takeD (i := 7) (v := ?v4b_7) (some 68) rfl (by kernel_rfl) (by kernel_rfl) (by kernel_rfl) (fun _ _ _ h => h) (Or.inl ⟨by rfl, ?hy4b_7⟩) (by assumption) (by rfl) ?rest4b_7
                case hy4b_7 => first | (intro w hSw; (try dsimp only at hSw); go_simp; done) | (intro w hSw; (try dsimp only at hSw); go_simp; with_reducible rfl)
                try simp only [Act.put, List.setIfInBounds_toArray, List.set_cons_zero, List.set_cons_succ]
                refine takeD (i := 8) (v := ?v4b_8) (some 69) rfl (by kernel_rfl) (by kernel_rfl) (by kernel_rfl) (fun _ _ _ h => h) (Or.inl ⟨by rfl, ?hy4b_8⟩) (by assumption) (by rfl) ?rest4b_8
                case hy4b_8 => first | (intro w hSw; (try dsimp only at hSw); go_simp; done) | (intro w hSw; (try dsimp only at hSw); go_simp; with_reducible rfl)
                try simp only [Act.put, List.setIfInBounds_toArray, List.set_cons_zero, List.set_cons_succ]
                refine takeD (i := 9) (v := ?v4b_9) (some 70) rfl (by kernel_rfl) (by kernel_rfl) (by kernel_rfl) (fun _ _ _ h => h) (Or.inl ⟨by rfl, ?hy4b_9⟩) (by assumption) (by rfl) ?rest4b_9
                case hy4b_9 => first | (intro w hSw; (try dsimp only at hSw); go_simp; done) | (intro w hSw; (try dsimp only at hSw); go_simp; with_reducible rfl)
                try simp only [Act.put, List.setIfInBounds_toArray, List.set_cons_zero, List.set_cons_succ]
                refine takeD (i := 10) (v := ?v4b_10) (some 71) rfl (by kernel_rfl) (by kernel_rfl) (by kernel_rfl) (fun _ _ _ h => h) (Or.inl ⟨by rfl, ?hy4b_10⟩) (by assumption) (by rfl) ?rest4b_10
                case hy4b_10 => first | (intro w hSw; (try dsimp only at hSw); go_simp; done) | (intro w hSw; (try dsimp only at hSw); go_simp; with_reducible rfl)
                try simp only [Act.put, List.setIfInBounds_toArray, List.set_cons_zero, List.set_cons_succ]
                refine takeD (i := 11) (v := ?v4b_11) (some 72) rfl (by kernel_rfl) (by kernel_rfl) (by kernel_rfl) (fun _ _ _ h => h) (Or.inl ⟨by rfl, ?hy4b_11⟩) (by assumption) (by rfl) ?rest4b_11
                case hy4b_11 => first | (intro w hSw; (try dsimp only at hSw); go_simp; done) | (intro w hSw; (try dsimp only at hSw); go_simp; with_reducible rfl)
                try simp only [Act.put, List.setIfInBounds_toArray, List.set_cons_zero, List.set_cons_succ]
                refine takeD (i := 12) (v := ?v4b_12) (some 73) rfl (by kernel_rfl) (by kernel_rfl) (by kernel_rfl) (fun _ _ _ h => h) (Or.inl ⟨by rfl, ?hy4b_12⟩) (by assumption) (by rfl) ?rest4b_12
                case hy4b_12 => first | (intro w hSw; (try dsimp only at hSw); go_simp; done) | (intro w hSw; (try dsimp only at hSw); go_simp; with_reducible rfl)
                try simp only [Act.put, List.setIfInBounds_toArray, List.set_cons_zero, List.set_cons_succ]
                refine takeD (i := 13) (v := ?v4b_13) (some 74) rfl (by kernel_rfl) (by kernel_rfl) (by kernel_rfl) (fun _ _ _ h => h) (Or.inl ⟨by rfl, ?hy4b_13⟩) (by assumption) (by rfl) ?rest4b_13
                case hy4b_13 => first | (intro w hSw; (try dsimp only at hSw); go_simp; done) | (intro w hSw; (try dsimp only at hSw); go_simp; with_reducible rfl)
                try simp only [Act.put, List.setIfInBounds_toArray, List.set_cons_zero, List.set_cons_succ]
                refine wpAnyH_done (by kernel_rfl) ?_ _
                go_wp2
                go_roundw
                case rel => exact ⟨5, by omega, by omega, rfl, missed4 l0 HM.out (fun k => HI.out (by have k2 := k.2; rw [← HG.out, ← HM2.out, Int.toNat_natCast] at k2; exact k2)), bafter (bafter KB.out HB2.out (Nat.le_refl _)) ((Below.refl _ W2).drew) (Nat.le_refl _)⟩
                case measure => simp [RowKit.intOf]
            · have HLn := hide hl
              refine (rencode_bad _ M hl).mono ?_
              rintro e W2 ⟨rfl, rfl⟩
              clear hl
              go_wp2
              go_quiet (fail)
              go_wp2
              go_roundw
              case rel => exact ⟨5, by omega, by omega, rfl, missed4 l0 HM.out (fun k => HLn.out (by have k1 := k.1; rw [← HG.out, ← HM2.out] at k1; exact k1)), below_drewN KB.out _⟩
              case measure => simp [RowKit.intOf]
    · have HM := hide hmiss
      clear hmiss
      by_cases h4 : m ≤ 4
      · have g1 : (m : Int) ≤ 4 := by omega
        have g2 : ¬ (p : Int) + (m : Int) ≤ (T.length : Int) := by omega
        have g3 : IntKind.i64.wrap ((p : Int) + (m : Int)) = (p : Int) + (m : Int) := by rw [IntKind.wrap_i64]; omega
        go_wp2
        go_ret2
        exact ⟨_, _, rfl, .inl ⟨one_none hp HX0.out HX1.out HX2.out HX3.out l0 l1 l2 l3 HM.out hm1 hm5 hgo, rfl, rfl⟩, hB⟩
      · have g1 : ¬ (m : Int) ≤ 4 := by omega
        go_wp2
        go_ret2
        exact ⟨_, _, rfl, .inl ⟨one_none hp HX0.out HX1.out HX2.out HX3.out l0 l1 l2 l3 HM.out hm1 hm5 hgo, rfl, rfl⟩, hB⟩

end Go.Proofs.YtbdpmpepmjpadaaGreatDoor
