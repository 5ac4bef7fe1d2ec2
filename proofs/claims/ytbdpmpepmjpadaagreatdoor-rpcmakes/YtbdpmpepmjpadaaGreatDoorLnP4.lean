/- Texts of json and rpc, part 4: QRd4, QRd5, QRd6, QRd7, QREnc, QRd8, QRd9, QRd10, QRd11, QRd12, QRd13, QRd14, QRd15, USmall, UEnd, ULines, QULets, QURVal, RAny0, RpcMakesW. -/
import Derived.Test.YtbdpmpepmjpadaaGreatDoorLnP3
import Derived.Test.YtbdpmpepmjpadaaGreatDoorUEnc
import Derived.Test.YtbdpmpepmjpadaaGreatDoorUUnits
import Derived.Deep.AppendLies
import Derived.Laws.OwnMore
import Derived.Deep.DeepMust
import Derived.BigQuiet
import Derived.Deep.QuietTactic
import Derived.OwnWalk
import Derived.Test.YtbdpmpepmjpadaaGreatDoorQUOne
import Derived.Test.YtbdpmpepmjpadaaGreatDoorLnP2
namespace Go.Proofs.YtbdpmpepmjpadaaGreatDoor
set_option linter.unusedVariables false
set_option linter.unusedSimpArgs false
set_option maxRecDepth 100000
open Go Go.RowKit Go.Shelf Go.Lib

/-- As many numbers as so many digits of base 16 tell. -/
def hexB (i : Nat) : Int := 16 ^ i
theorem hexB_succ (i : Nat) : hexB (i + 1) = 16 * hexB i := by unfold hexB; rw [Int.pow_succ]; omega
theorem hexB_le (i : Nat) (h : i ≤ 4) : hexB i ≤ 65536 := by
  match i, h with
  | 0, _ => decide
  | 1, _ => decide
  | 2, _ => decide
  | 3, _ => decide
  | 4, _ => decide

set_option maxHeartbeats 16000000 in
theorem hex_any (w W : World) (R p : Nat) (d e b : Int) (ao : Option Addr) (cap : Nat) (T : List Nat) (h : QS T w W R ao cap p d e b) :
    Calls Tryz.prog 101 #[.pointer (some ⟨R, 0, none⟩)] W fun r w' => ∃ m : Int, (r = .returned (.int .i64 m) ∧ 0 ≤ m ∧ m ≤ 65535) ∧ QM T w R ao cap p e w' := by
  have HL := hide h.tx.len
  have HQ0 := hide h
  clear h
  go_enter Tryz.func101, Tryz.ntmps101
  have HI : Hid (∃ (i q : Nat) (m e' b' : Int), Value.int .i64 0 = .int .i64 m ∧ Value.int .i64 0 = .int .i64 (i : Int) ∧ i ≤ 4 ∧ 0 ≤ m ∧ m + 1 ≤ hexB i ∧ p ≤ q ∧ (e ≠ 0 → e' ≠ 0) ∧ QS T w W R ao cap q d e' b') := ⟨0, p, 0, e, b, rfl, rfl, by omega, by omega, by decide, Nat.le_refl _, fun h => h, HQ0.out⟩
  clear HQ0
  go_wp2
  go_loopw [3, 4] (fun nv iv wr => ∃ (i q : Nat) (m e' b' : Int), nv = .int .i64 m ∧ iv = .int .i64 (i : Int) ∧ i ≤ 4 ∧ 0 ≤ m ∧ m + 1 ≤ hexB i ∧ p ≤ q ∧ (e ≠ 0 → e' ≠ 0) ∧ QS T w wr R ao cap q d e' b') (fun _ iv _ => 4 - (RowKit.intOf iv).toNat)
  case atStart => exact HI.out
  case round =>
    obtain ⟨i, q, m, e0, b0, rfl, rfl, hi, hm0, hm1, hpq, hee, hs⟩ := hrel
    have HS := hide hs
    have HPQ := hide hpq
    have HEE := hide hee
    have HB := hide hm1
    clear HI hs hpq hee hm1
    by_cases hi4 : i = 4
    · subst hi4
      have hmm : m ≤ 65535 := by have := HB.out; have := hexB_le 4 (by omega); omega
      go_wp2
      go_ret
      exact ⟨m, ⟨rfl, hm0, hmm⟩, q, _, _, _, HPQ.out, HS.out, HEE.out⟩
    · have i1 : (i : Int) < 4 := by omega
      have hm2 : m ≤ 4095 := by have := HB.out; have := hexB_succ i; have := hexB_le (i + 1) (by omega); omega
      obtain ⟨j, hj⟩ : ∃ j, i + 1 = j := ⟨_, rfl⟩
      have ej : (i : Int) + 1 = (j : Int) := by omega
      have HJ := hide hj
      clear hj hi4
      go_wp2_with fail
      refine (peek_q w wr R q d e0 b0 ao cap T HS.out).mono ?_
      rintro r W1 ⟨x1, e1, b1, rfl, hq, h1_1, h2_1, hx⟩
      have HQ1 := hide hq
      have HX1 := hide hx
      clear hq hx
      have c1_1 : W1.cell? ⟨R, 1, none⟩ = some (.int .i64 (q : Int)) := HQ1.out.rq.cell 1
      have c3_1 : W1.cell? ⟨R, 3, none⟩ = some (.int .i64 e1) := HQ1.out.rq.cell 3
      have f1_1 : W1.frozen? ⟨R, 1, none⟩ = false := HQ1.out.rq.frozen 1
      have lR_1 : R < W1.heap.size := HQ1.out.rq.lt
      by_cases he : e1 = 0
      · subst he
        have LT : Hid (q < T.length) := by
          rcases HX1.out with h | h
          · exact absurd rfl h.2
          · exact hide h.2.2.1
        have E0 : Hid (e = 0) := by
          rcases HX1.out with h | h
          · exact absurd rfl h.2
          · exact hide (Decidable.byContradiction fun hn => HEE.out hn h.2.1)
        have X0 : 0 ≤ x1 := by
          rcases HX1.out with h | h
          · exact absurd rfl h.2
          · exact h.2.2.2
        clear HX1
        by_cases k1 : x1 < 48
        · skip
          have a0 : ¬ x1 ≥ 48 := by omega
          have a1 : ¬ x1 ≥ 97 := by omega
          have a2 : ¬ x1 ≥ 65 := by omega
          go_wp2_with fail
          refine (fail_q w W1 R q d 0 b1 6 (q : Int) ao cap T HQ1.out (by omega)).mono ?_
          rintro r W2 ⟨e2, b2, rfl, hq, he⟩
          have HQ2 := hide hq
          have HE2 := hide he
          have dn2 : (e2 == 0) = false := by simpa using he
          have dm2 : (e2 != 0) = true := by simpa using he
          clear hq he
          have c3_2 : W2.cell? ⟨R, 3, none⟩ = some (.int .i64 e2) := HQ2.out.rq.cell 3
          have lR_2 : R < W2.heap.size := HQ2.out.rq.lt
          go_wp2
          go_ret
          exact ⟨0, ⟨rfl, by omega, by omega⟩, q, _, _, _, HPQ.out, HQ2.out, fun _ => HE2.out⟩
        · by_cases k2 : x1 ≤ 57
          · skip
            have a0 : x1 ≥ 48 := by omega
            have a1 : ¬ x1 ≥ 97 := by omega
            have a2 : ¬ x1 ≥ 65 := by omega
            obtain ⟨y, hy⟩ : ∃ y, x1 - 48 = y := ⟨_, rfl⟩
            have y1 : 0 ≤ y := by omega
            have y2 : y ≤ 15 := by omega
            have y3 : ¬ y < 0 := by omega
            obtain ⟨mm, hmm⟩ : ∃ mm, m * 16 = mm := ⟨_, rfl⟩
            obtain ⟨m2, hm2b⟩ : ∃ m2, mm + y = m2 := ⟨_, rfl⟩
            have HM2 : Hid (0 ≤ m2 ∧ m2 + 1 ≤ hexB j) := by
              have h1 := HB.out; have h2 := hexB_succ i; rw [HJ.out] at h2
              refine hide ⟨?_, ?_⟩ <;> omega
            have m3 : mm ≤ 65520 := by omega
            have m4 : 0 ≤ mm := by omega
            obtain ⟨q2, hq2⟩ : ∃ qz, q + 1 = qz := ⟨_, rfl⟩
            have e1_2 : (q : Int) + 1 = (q2 : Int) := by omega
            have g2 : (q : Int) ≤ 1000000 := by have := HL.out; have := HQ1.out.le; omega
            have HP2 := hide hq2
            clear hq2
            have HQ2 := hide (HQ1.out.step (q := q2) (by have := HP2.out; omega) (by have := HP2.out; have := LT.out; omega))
            have HREL : Hid (∃ (i q : Nat) (m e' b' : Int), Value.int .i64 m2 = .int .i64 m ∧ Value.int .i64 (j : Int) = .int .i64 (i : Int) ∧ i ≤ 4 ∧ 0 ≤ m ∧ m + 1 ≤ hexB i ∧ p ≤ q ∧ (e ≠ 0 → e' ≠ 0) ∧ QS T w (W1.setCell ⟨R, 1, none⟩ (.int .i64 (q2 : Int))) R ao cap q d e' b') := ⟨j, q2, m2, 0, b1, rfl, rfl, by omega, HM2.out.1, HM2.out.2, by have := HPQ.out; have := HP2.out; omega, fun h => absurd E0.out h, HQ2.out⟩
            go_wp2
            go_roundw
            case rel => exact HREL.out
            case measure => simp only [RowKit.intOf]; omega
          · by_cases k3 : x1 < 65
            · skip
              have a0 : x1 ≥ 48 := by omega
              have a1 : ¬ x1 ≥ 97 := by omega
              have a2 : ¬ x1 ≥ 65 := by omega
              go_wp2_with fail
              refine (fail_q w W1 R q d 0 b1 6 (q : Int) ao cap T HQ1.out (by omega)).mono ?_
              rintro r W2 ⟨e2, b2, rfl, hq, he⟩
              have HQ2 := hide hq
              have HE2 := hide he
              have dn2 : (e2 == 0) = false := by simpa using he
              have dm2 : (e2 != 0) = true := by simpa using he
              clear hq he
              have c3_2 : W2.cell? ⟨R, 3, none⟩ = some (.int .i64 e2) := HQ2.out.rq.cell 3
              have lR_2 : R < W2.heap.size := HQ2.out.rq.lt
              go_wp2
              go_ret
              exact ⟨0, ⟨rfl, by omega, by omega⟩, q, _, _, _, HPQ.out, HQ2.out, fun _ => HE2.out⟩
            · by_cases k4 : x1 ≤ 70
              · skip
                have a0 : x1 ≥ 48 := by omega
                have a1 : ¬ x1 ≥ 97 := by omega
                have a2 : x1 ≥ 65 := by omega
                obtain ⟨y0, hy0⟩ : ∃ y0, x1 - 65 = y0 := ⟨_, rfl⟩
                obtain ⟨y, hy⟩ : ∃ y, y0 + 10 = y := ⟨_, rfl⟩
                have y1 : 0 ≤ y := by omega
                have y2 : y ≤ 15 := by omega
                have y3 : ¬ y < 0 := by omega
                obtain ⟨mm, hmm⟩ : ∃ mm, m * 16 = mm := ⟨_, rfl⟩
                obtain ⟨m2, hm2b⟩ : ∃ m2, mm + y = m2 := ⟨_, rfl⟩
                have HM2 : Hid (0 ≤ m2 ∧ m2 + 1 ≤ hexB j) := by
                  have h1 := HB.out; have h2 := hexB_succ i; rw [HJ.out] at h2
                  refine hide ⟨?_, ?_⟩ <;> omega
                have m3 : mm ≤ 65520 := by omega
                have m4 : 0 ≤ mm := by omega
                obtain ⟨q2, hq2⟩ : ∃ qz, q + 1 = qz := ⟨_, rfl⟩
                have e1_2 : (q : Int) + 1 = (q2 : Int) := by omega
                have g2 : (q : Int) ≤ 1000000 := by have := HL.out; have := HQ1.out.le; omega
                have HP2 := hide hq2
                clear hq2
                have HQ2 := hide (HQ1.out.step (q := q2) (by have := HP2.out; omega) (by have := HP2.out; have := LT.out; omega))
                have HREL : Hid (∃ (i q : Nat) (m e' b' : Int), Value.int .i64 m2 = .int .i64 m ∧ Value.int .i64 (j : Int) = .int .i64 (i : Int) ∧ i ≤ 4 ∧ 0 ≤ m ∧ m + 1 ≤ hexB i ∧ p ≤ q ∧ (e ≠ 0 → e' ≠ 0) ∧ QS T w (W1.setCell ⟨R, 1, none⟩ (.int .i64 (q2 : Int))) R ao cap q d e' b') := ⟨j, q2, m2, 0, b1, rfl, rfl, by omega, HM2.out.1, HM2.out.2, by have := HPQ.out; have := HP2.out; omega, fun h => absurd E0.out h, HQ2.out⟩
                go_wp2
                go_roundw
                case rel => exact HREL.out
                case measure => simp only [RowKit.intOf]; omega
              · by_cases k5 : x1 < 97
                · skip
                  have a0 : x1 ≥ 48 := by omega
                  have a1 : ¬ x1 ≥ 97 := by omega
                  have a2 : x1 ≥ 65 := by omega
                  go_wp2_with fail
                  refine (fail_q w W1 R q d 0 b1 6 (q : Int) ao cap T HQ1.out (by omega)).mono ?_
                  rintro r W2 ⟨e2, b2, rfl, hq, he⟩
                  have HQ2 := hide hq
                  have HE2 := hide he
                  have dn2 : (e2 == 0) = false := by simpa using he
                  have dm2 : (e2 != 0) = true := by simpa using he
                  clear hq he
                  have c3_2 : W2.cell? ⟨R, 3, none⟩ = some (.int .i64 e2) := HQ2.out.rq.cell 3
                  have lR_2 : R < W2.heap.size := HQ2.out.rq.lt
                  go_wp2
                  go_ret
                  exact ⟨0, ⟨rfl, by omega, by omega⟩, q, _, _, _, HPQ.out, HQ2.out, fun _ => HE2.out⟩
                · by_cases k6 : x1 ≤ 102
                  · skip
                    have a0 : x1 ≥ 48 := by omega
                    have a1 : x1 ≥ 97 := by omega
                    have a2 : x1 ≥ 65 := by omega
                    obtain ⟨y0, hy0⟩ : ∃ y0, x1 - 97 = y0 := ⟨_, rfl⟩
                    obtain ⟨y, hy⟩ : ∃ y, y0 + 10 = y := ⟨_, rfl⟩
                    have y1 : 0 ≤ y := by omega
                    have y2 : y ≤ 15 := by omega
                    have y3 : ¬ y < 0 := by omega
                    obtain ⟨mm, hmm⟩ : ∃ mm, m * 16 = mm := ⟨_, rfl⟩
                    obtain ⟨m2, hm2b⟩ : ∃ m2, mm + y = m2 := ⟨_, rfl⟩
                    have HM2 : Hid (0 ≤ m2 ∧ m2 + 1 ≤ hexB j) := by
                      have h1 := HB.out; have h2 := hexB_succ i; rw [HJ.out] at h2
                      refine hide ⟨?_, ?_⟩ <;> omega
                    have m3 : mm ≤ 65520 := by omega
                    have m4 : 0 ≤ mm := by omega
                    obtain ⟨q2, hq2⟩ : ∃ qz, q + 1 = qz := ⟨_, rfl⟩
                    have e1_2 : (q : Int) + 1 = (q2 : Int) := by omega
                    have g2 : (q : Int) ≤ 1000000 := by have := HL.out; have := HQ1.out.le; omega
                    have HP2 := hide hq2
                    clear hq2
                    have HQ2 := hide (HQ1.out.step (q := q2) (by have := HP2.out; omega) (by have := HP2.out; have := LT.out; omega))
                    have HREL : Hid (∃ (i q : Nat) (m e' b' : Int), Value.int .i64 m2 = .int .i64 m ∧ Value.int .i64 (j : Int) = .int .i64 (i : Int) ∧ i ≤ 4 ∧ 0 ≤ m ∧ m + 1 ≤ hexB i ∧ p ≤ q ∧ (e ≠ 0 → e' ≠ 0) ∧ QS T w (W1.setCell ⟨R, 1, none⟩ (.int .i64 (q2 : Int))) R ao cap q d e' b') := ⟨j, q2, m2, 0, b1, rfl, rfl, by omega, HM2.out.1, HM2.out.2, by have := HPQ.out; have := HP2.out; omega, fun h => absurd E0.out h, HQ2.out⟩
                    go_wp2
                    go_roundw
                    case rel => exact HREL.out
                    case measure => simp only [RowKit.intOf]; omega
                  · skip
                    have a0 : x1 ≥ 48 := by omega
                    have a1 : x1 ≥ 97 := by omega
                    have a2 : x1 ≥ 65 := by omega
                    go_wp2_with fail
                    refine (fail_q w W1 R q d 0 b1 6 (q : Int) ao cap T HQ1.out (by omega)).mono ?_
                    rintro r W2 ⟨e2, b2, rfl, hq, he⟩
                    have HQ2 := hide hq
                    have HE2 := hide he
                    have dn2 : (e2 == 0) = false := by simpa using he
                    have dm2 : (e2 != 0) = true := by simpa using he
                    clear hq he
                    have c3_2 : W2.cell? ⟨R, 3, none⟩ = some (.int .i64 e2) := HQ2.out.rq.cell 3
                    have lR_2 : R < W2.heap.size := HQ2.out.rq.lt
                    go_wp2
                    go_ret
                    exact ⟨0, ⟨rfl, by omega, by omega⟩, q, _, _, _, HPQ.out, HQ2.out, fun _ => HE2.out⟩
      · have d1 : (e1 == 0) = false := by simpa using he
        have d2 : (e1 != 0) = true := by simpa using he
        obtain rfl : x1 = -1 := by
          rcases HX1.out with h | h
          · exact h.1
          · exact absurd h.1 he
        have HE := hide he
        clear he HX1
        go_wp2
        go_ret
        exact ⟨0, ⟨rfl, by omega, by omega⟩, q, _, _, _, HPQ.out, HQ1.out, fun _ => HE.out⟩

end Go.Proofs.YtbdpmpepmjpadaaGreatDoor

namespace Go.Proofs.YtbdpmpepmjpadaaGreatDoor
set_option linter.unusedVariables false
set_option linter.unusedSimpArgs false
set_option maxRecDepth 100000
open Go Go.RowKit Go.Shelf Go.Lib

set_option maxHeartbeats 16000000 in
theorem second_any (w W : World) (R p : Nat) (d e b : Int) (from_ n : Int) (hn : 55296 ≤ n ∧ n ≤ 56319) (ao : Option Addr) (cap : Nat) (T : List Nat) (h : QS T w W R ao cap p d e b) :
    Calls Tryz.prog 102 #[.pointer (some ⟨R, 0, none⟩), .int .i64 from_, .int .i64 n] W fun r w' => ∃ (m : Int) (q : Nat) (d' e' b' : Int), r = .returned (.int .i64 m) ∧ p ≤ q ∧ QS T w w' R ao cap q d' e' b' ∧ (e ≠ 0 → e' ≠ 0) ∧ (e' = 0 → 65536 ≤ m ∧ m ≤ 1114111) := by
  have HL := hide h.tx.len
  have HQ0 := hide h
  obtain ⟨n0, n1⟩ := hn
  obtain ⟨n2, hn2⟩ : ∃ n2, n - 55296 = n2 := ⟨_, rfl⟩
  have n3 : 0 ≤ n2 := by omega
  have n4 : n2 ≤ 1023 := by omega
  obtain ⟨n5, hn5⟩ : ∃ n5, n2 * 1024 = n5 := ⟨_, rfl⟩
  have n6 : 0 ≤ n5 := by omega
  have n7 : n5 ≤ 1047552 := by omega
  obtain ⟨n8, hn8⟩ : ∃ n8, 65536 + n5 = n8 := ⟨_, rfl⟩
  have n9 : 65536 ≤ n8 := by omega
  have n10 : n8 ≤ 1113088 := by omega
  clear h
  go_enter Tryz.func102, Tryz.ntmps102
  go_wp2_with fail
  refine (see_q w W R p d e b ao cap T HQ0.out).mono ?_
  rintro r W1 ⟨x1, rfl, hq, hx, h1_1, h2_1⟩
  have HQ1 := hide hq
  have HX1 := hide hx
  clear hq hx
  by_cases k1 : x1 = 92
  · subst k1
    have SX1 : Hid (e = (0 : Int) ∧ p < T.length) := by
      rcases HX1.out with h | h
      · have := h.1; omega
      · exact hide ⟨h.1, h.2.1⟩
    clear HX1
    have c1_1 : W1.cell? ⟨R, 1, none⟩ = some (.int .i64 (p : Int)) := HQ1.out.rq.cell 1
    have f1_1 : W1.frozen? ⟨R, 1, none⟩ = false := HQ1.out.rq.frozen 1
    have lR_1 : R < W1.heap.size := HQ1.out.rq.lt
    obtain ⟨q2, hq2⟩ : ∃ qz, p + 1 = qz := ⟨_, rfl⟩
    have e1_2 : (p : Int) + 1 = (q2 : Int) := by omega
    have g2 : (p : Int) ≤ 1000000 := by have := HL.out; have := HQ1.out.le; omega
    have HP2 := hide hq2
    clear hq2
    have HQ2 := hide (HQ1.out.step (q := q2) (by have := HP2.out; omega) (by have := HP2.out; have := SX1.out.2; omega))
    go_wp2_with fail
    refine (peek_q w (W1.setCell ⟨R, 1, none⟩ (.int .i64 (q2 : Int))) R q2 d e b ao cap T HQ2.out).mono ?_
    rintro r W3 ⟨x3, e3, b3, rfl, hq, h1_3, h2_3, hx⟩
    have HQ3 := hide hq
    have HX3 := hide hx
    clear hq hx
    have c3_3 : W3.cell? ⟨R, 3, none⟩ = some (.int .i64 e3) := HQ3.out.rq.cell 3
    have lR_3 : R < W3.heap.size := HQ3.out.rq.lt
    by_cases he : e3 = 0
    · subst he
      have LT3 : Hid (q2 < T.length) := by
        rcases HX3.out with h | h
        · exact absurd rfl h.2
        · exact hide h.2.2.1
      by_cases k2 : x3 = 117
      · subst k2
        clear HX3
        have c1_3 : W3.cell? ⟨R, 1, none⟩ = some (.int .i64 (q2 : Int)) := HQ3.out.rq.cell 1
        have f1_3 : W3.frozen? ⟨R, 1, none⟩ = false := HQ3.out.rq.frozen 1
        obtain ⟨q4, hq4⟩ : ∃ qz, q2 + 1 = qz := ⟨_, rfl⟩
        have e1_4 : (q2 : Int) + 1 = (q4 : Int) := by omega
        have g4 : (q2 : Int) ≤ 1000000 := by have := HL.out; have := HQ3.out.le; omega
        have HP4 := hide hq4
        clear hq4
        have HQ4 := hide (HQ3.out.step (q := q4) (by have := HP4.out; omega) (by have := HP4.out; have := LT3.out; omega))
        go_wp2_with fail
        refine (hex_any w (W3.setCell ⟨R, 1, none⟩ (.int .i64 (q4 : Int))) R q4 d 0 b3 ao cap T HQ4.out).mono ?_
        rintro r W5 ⟨low, ⟨rfl, l1, l2⟩, q5, d5, e5, b5, hpq, hq, hee⟩
        have HQ5 := hide hq
        have HP5 := hide hpq
        have HE5 := hide hee
        clear hq hpq hee
        have c3_5 : W5.cell? ⟨R, 3, none⟩ = some (.int .i64 e5) := HQ5.out.rq.cell 3
        have lR_5 : R < W5.heap.size := HQ5.out.rq.lt
        obtain ⟨m0, hm0⟩ : ∃ m0, n8 + low = m0 := ⟨_, rfl⟩
        obtain ⟨m1, hm1⟩ : ∃ m1, m0 - 56320 = m1 := ⟨_, rfl⟩
        have m2 : 0 ≤ m0 := by omega
        have m3 : m0 ≤ 1200000 := by omega
        have LOW : Hid (n8 + low - 56320 = m1) := by
          refine hide ?_
          omega
        have N8 : Hid (65536 ≤ n8 ∧ n8 ≤ 1113088) := hide ⟨n9, n10⟩
        by_cases hz : e5 = 0
        · subst hz
          by_cases k3 : low < 56320
          · skip
            go_wp2_with fail
            refine (fail_q w W5 R q5 d5 0 b5 6 from_ ao cap T HQ5.out (by omega)).mono ?_
            rintro r W6 ⟨e6, b6, rfl, hq, he⟩
            have HQ6 := hide hq
            have HE6 := hide he
            have dn6 : (e6 == 0) = false := by simpa using he
            have dm6 : (e6 != 0) = true := by simpa using he
            clear hq he
            go_wp2
            go_ret
            exact ⟨_, q5, _, _, _, rfl, by have := HP5.out; have := HP4.out; have := HP2.out; omega, HQ6.out, fun _ => HE6.out, fun h => absurd h HE6.out⟩
          · by_cases k4 : low > 57343
            · skip
              go_wp2_with fail
              refine (fail_q w W5 R q5 d5 0 b5 6 from_ ao cap T HQ5.out (by omega)).mono ?_
              rintro r W6 ⟨e6, b6, rfl, hq, he⟩
              have HQ6 := hide hq
              have HE6 := hide he
              have dn6 : (e6 == 0) = false := by simpa using he
              have dm6 : (e6 != 0) = true := by simpa using he
              clear hq he
              go_wp2
              go_ret
              exact ⟨_, q5, _, _, _, rfl, by have := HP5.out; have := HP4.out; have := HP2.out; omega, HQ6.out, fun _ => HE6.out, fun h => absurd h HE6.out⟩
            · have LW : Hid (56320 ≤ low ∧ low ≤ 57343) := by
                refine hide ⟨?_, ?_⟩ <;> omega
              go_wp2
              go_ret
              exact ⟨_, q5, _, _, _, rfl, by have := HP5.out; have := HP4.out; have := HP2.out; omega, HQ5.out, fun h => absurd SX1.out.1 h, fun _ => by have h1 := LW.out; have h2 := LOW.out; have h3 := N8.out; refine ⟨?_, ?_⟩ <;> omega⟩
        · have d1 : (e5 == 0) = false := by simpa using hz
          have HZ := hide hz
          clear hz
          go_wp2
          go_ret
          exact ⟨_, q5, _, _, _, rfl, by have := HP5.out; have := HP4.out; have := HP2.out; omega, HQ5.out, fun _ => HZ.out, fun h => absurd h HZ.out⟩
      · have d1 : (x3 != 117) = true := by simpa using k2
        clear HX3
        go_wp2_with fail
        refine (fail_q w W3 R q2 d 0 b3 6 from_ ao cap T HQ3.out (by omega)).mono ?_
        rintro r W4 ⟨e4, b4, rfl, hq, he⟩
        have HQ4 := hide hq
        have HE4 := hide he
        have dn4 : (e4 == 0) = false := by simpa using he
        have dm4 : (e4 != 0) = true := by simpa using he
        clear hq he
        have c3_4 : W4.cell? ⟨R, 3, none⟩ = some (.int .i64 e4) := HQ4.out.rq.cell 3
        have lR_4 : R < W4.heap.size := HQ4.out.rq.lt
        go_wp2
        go_ret
        exact ⟨0, q2, _, _, _, rfl, by have := HP2.out; omega, HQ4.out, fun _ => HE4.out, fun h => absurd h HE4.out⟩
    · have d1 : (e3 == 0) = false := by simpa using he
      have d2 : (e3 != 0) = true := by simpa using he
      have HZ := hide he
      clear he HX3
      go_wp2
      go_ret
      exact ⟨0, q2, _, _, _, rfl, by have := HP2.out; omega, HQ3.out, fun _ => HZ.out, fun h => absurd h HZ.out⟩
  · have d1 : (x1 != 92) = true := by simpa using k1
    clear HX1
    go_wp2_with fail
    refine (fail_q w W1 R p d e b 6 from_ ao cap T HQ1.out (by omega)).mono ?_
    rintro r W2 ⟨e2, b2, rfl, hq, he⟩
    have HQ2 := hide hq
    have HE2 := hide he
    have dn2 : (e2 == 0) = false := by simpa using he
    have dm2 : (e2 != 0) = true := by simpa using he
    clear hq he
    go_wp2
    go_ret
    exact ⟨0, p, _, _, _, rfl, Nat.le_refl _, HQ2.out, fun _ => HE2.out, fun h => absurd h HE2.out⟩

theorem QS.down {T : List Nat} {w W : World} {R : Nat} {ao : Option Addr} {cap p : Nat} {d d' e b : Int} (h : QS T w W R ao cap p d e b) (hd : DB d' e p) : QS T w (W.setCell ⟨R, 2, none⟩ (.int .i64 d')) R ao cap p d' e b :=
  h.go (BoxC.set h.rq 2 _) ((Fr.refl R none W).set 2 _) h.le hd
set_option maxHeartbeats 16000000 in
theorem more_any (w W : World) (R p : Nat) (d e b : Int) (c : Int) (hc : 0 ≤ c) (ao : Option Addr) (cap : Nat) (T : List Nat) (h : QS T w W R ao cap p d e b) :
    Calls Tryz.prog 83 #[.pointer (some ⟨R, 0, none⟩), .int .i64 c] W fun r w' => ∃ (m : Bool) (q : Nat) (d' e' b' : Int), r = .returned (.bool m) ∧ p ≤ q ∧ QS T w w' R ao cap q d' e' b' ∧ (e ≠ 0 → e' ≠ 0) ∧ (m = true → p < q) := by
  have HL := hide h.tx.len
  have HQ0 := hide h
  clear h
  go_enter Tryz.func83, Tryz.ntmps83
  go_wp2_with fail
  refine (blank_q w W R p d e b ao cap T HQ0.out).mono ?_
  rintro r W1 ⟨rfl, q1, hpq, hq⟩
  have HQ1 := hide hq
  have HP1 := hide hpq
  clear hq hpq
  go_wp2_with fail
  refine (peek_q w W1 R q1 d e b ao cap T HQ1.out).mono ?_
  rintro r W2 ⟨x2, e2, b2, rfl, hq, h1_2, h2_2, hx⟩
  have HQ2 := hide hq
  have HX2 := hide hx
  clear hq hx
  have c1_2 : W2.cell? ⟨R, 1, none⟩ = some (.int .i64 (q1 : Int)) := HQ2.out.rq.cell 1
  have c2_2 : W2.cell? ⟨R, 2, none⟩ = some (.int .i64 d) := HQ2.out.rq.cell 2
  have c3_2 : W2.cell? ⟨R, 3, none⟩ = some (.int .i64 e2) := HQ2.out.rq.cell 3
  have f1_2 : W2.frozen? ⟨R, 1, none⟩ = false := HQ2.out.rq.frozen 1
  have f2_2 : W2.frozen? ⟨R, 2, none⟩ = false := HQ2.out.rq.frozen 2
  have lR_2 : R < W2.heap.size := HQ2.out.rq.lt
  by_cases he : e2 = 0
  · subst he
    have LT : Hid (q1 < T.length) := by
      rcases HX2.out with h | h
      · exact absurd rfl h.2
      · exact hide h.2.2.1
    have E0 : Hid (e = 0) := by
      rcases HX2.out with h | h
      · exact absurd rfl h.2
      · exact hide h.2.1
    clear HX2
    by_cases k1 : x2 = c
    · subst k1
      have DBD : Hid (-(q1 : Int) ≤ d ∧ d ≤ (q1 : Int)) := hide (HQ2.out.db.2.2 rfl)
      obtain ⟨q3, hq3⟩ : ∃ qz, q1 + 1 = qz := ⟨_, rfl⟩
      have e1_3 : (q1 : Int) + 1 = (q3 : Int) := by omega
      have g3 : (q1 : Int) ≤ 1000000 := by have := HL.out; have := HQ2.out.le; omega
      have HP3 := hide hq3
      clear hq3
      have HQ3 := hide (HQ2.out.step (q := q3) (by have := HP3.out; omega) (by have := HP3.out; have := LT.out; omega))
      have hD := DBD.out
      have hT := HQ3.out.le
      have hTL := HL.out
      obtain ⟨dd, hdd⟩ : ∃ dd, d - 1 = dd := ⟨_, rfl⟩
      have g5 : -1000001 ≤ d := by omega
      have g6 : d ≤ 1000001 := by omega
      have HQD := hide (HQ3.out.down (d' := dd) (by have := HP3.out; refine ⟨?_, ?_, fun _ => ⟨?_, ?_⟩⟩ <;> omega))
      clear hD hT hTL
      go_wp2
      go_ret
      exact ⟨false, q3, _, _, _, rfl, by have := HP1.out; have := HP3.out; omega, HQD.out, fun h => absurd E0.out h, fun h => by cases h⟩
    · have d1 : (x2 == c) = false := by simpa using k1
      by_cases k2 : x2 = 44
      · subst k2
        obtain ⟨q3, hq3⟩ : ∃ qz, q1 + 1 = qz := ⟨_, rfl⟩
        have e1_3 : (q1 : Int) + 1 = (q3 : Int) := by omega
        have g3 : (q1 : Int) ≤ 1000000 := by have := HL.out; have := HQ2.out.le; omega
        have HP3 := hide hq3
        clear hq3
        have HQ3 := hide (HQ2.out.step (q := q3) (by have := HP3.out; omega) (by have := HP3.out; have := LT.out; omega))
        go_wp2_with fail
        refine (blank_q w (W2.setCell ⟨R, 1, none⟩ (.int .i64 (q3 : Int))) R q3 d 0 b2 ao cap T HQ3.out).mono ?_
        rintro r W4 ⟨rfl, q4, hpq, hq⟩
        have HQ4 := hide hq
        have HP4 := hide hpq
        clear hq hpq
        go_wp2
        go_ret
        exact ⟨true, q4, _, _, _, rfl, by have := HP1.out; have := HP3.out; have := HP4.out; omega, HQ4.out, fun h => absurd E0.out h, fun _ => by have := HP1.out; have := HP3.out; have := HP4.out; omega⟩
      · have d2 : (x2 != 44) = true := by simpa using k2
        go_wp2_with fail
        refine (fail_q w W2 R q1 d 0 b2 6 (q1 : Int) ao cap T HQ2.out (by omega)).mono ?_
        rintro r W3 ⟨e3, b3, rfl, hq, he⟩
        have HQ3 := hide hq
        have HE3 := hide he
        have dn3 : (e3 == 0) = false := by simpa using he
        have dm3 : (e3 != 0) = true := by simpa using he
        clear hq he
        go_wp2
        go_ret
        exact ⟨false, q1, _, _, _, rfl, HP1.out, HQ3.out, fun _ => HE3.out, fun h => by cases h⟩
  · have d1 : (e2 != 0) = true := by simpa using he
    have HZ := hide he
    clear he HX2
    go_wp2
    go_ret
    exact ⟨false, q1, _, _, _, rfl, HP1.out, HQ2.out, fun _ => HZ.out, fun h => by cases h⟩

set_option maxHeartbeats 16000000 in
theorem enter_any (w W : World) (R p : Nat) (d b : Int) (c : Int) (hc : 0 ≤ c) (ao : Option Addr) (cap : Nat) (T : List Nat) (h : QS T w W R ao cap p d 0 b) (hlt : p < T.length) :
    Calls Tryz.prog 81 #[.pointer (some ⟨R, 0, none⟩), .int .i64 c] W fun r w' => ∃ (m : Bool) (q : Nat) (d' e' b' : Int), r = .returned (.bool m) ∧ p ≤ q ∧ QS T w w' R ao cap q d' e' b' ∧ (m = false → p < q) := by
  have HL := hide h.tx.len
  have HQ0 := hide h
  have LT := hide hlt
  have DBD : Hid (-(p : Int) ≤ d ∧ d ≤ (p : Int)) := hide (h.db.2.2 rfl)
  have hP := h.le
  have hT := HL.out
  have hD := DBD.out
  obtain ⟨d1, hd1⟩ : ∃ d1, d + 1 = d1 := ⟨_, rfl⟩
  have HD1 := hide hd1
  have g5 : -1000001 ≤ d := by omega
  have g6 : d ≤ 1000001 := by omega
  have g7 : -1000001 ≤ d1 := by omega
  have g8 : d1 ≤ 1000002 := by omega
  clear h hlt hP hT hD
  have c1_0 : W.cell? ⟨R, 1, none⟩ = some (.int .i64 (p : Int)) := HQ0.out.rq.cell 1
  have c2_0 : W.cell? ⟨R, 2, none⟩ = some (.int .i64 d) := HQ0.out.rq.cell 2
  have f1_0 : W.frozen? ⟨R, 1, none⟩ = false := HQ0.out.rq.frozen 1
  have f2_0 : W.frozen? ⟨R, 2, none⟩ = false := HQ0.out.rq.frozen 2
  have lR_0 : R < W.heap.size := HQ0.out.rq.lt
  go_enter Tryz.func81, Tryz.ntmps81
  by_cases k0 : d1 > 64
  · skip
    have RQ1 : Hid (RQ (W.setCell ⟨R, 2, none⟩ (.int .i64 d1)) R (.slice ao T.length cap) p d1 0 b) := hide (BoxC.set HQ0.out.rq 2 _)
    go_wp2_with fail
    refine (fail_yes (W.setCell ⟨R, 2, none⟩ (.int .i64 d1)) R p _ d1 b 13 (p : Int) RQ1.out).mono ?_
    rintro r W1 ⟨rfl, hr, hf⟩
    have HZ := hide (HQ0.out.go hr (((Fr.refl R none W).set 2 _).trans hf (.inl rfl)) HQ0.out.le (by have := DBD.out; have := HD1.out; refine ⟨?_, ?_, fun h => by omega⟩ <;> omega))
    clear hr hf
    go_wp2
    go_ret
    exact ⟨true, p, _, _, _, rfl, Nat.le_refl _, HZ.out, fun h => by cases h⟩
  · have RQ1 : Hid (RQ (W.setCell ⟨R, 2, none⟩ (.int .i64 d1)) R (.slice ao T.length cap) p d1 0 b) := hide (BoxC.set HQ0.out.rq 2 _)
    obtain ⟨q1, hq1⟩ : ∃ qz, p + 1 = qz := ⟨_, rfl⟩
    have e1_1 : (p : Int) + 1 = (q1 : Int) := by omega
    have g1 : (p : Int) ≤ 1000000 := by have := HL.out; have := HQ0.out.le; omega
    have HP1 := hide hq1
    clear hq1
    have HQ1 : Hid (QS T w ((W.setCell ⟨R, 2, none⟩ (.int .i64 d1)).setCell ⟨R, 1, none⟩ (.int .i64 (q1 : Int))) R ao cap q1 d1 0 b) := hide (HQ0.out.go RQ1.out.sets (((Fr.refl R none W).set 2 _).set 1 _) (by have := HP1.out; have := LT.out; omega) (by have := DBD.out; have := HD1.out; have := HP1.out; refine ⟨?_, ?_, fun _ => ⟨?_, ?_⟩⟩ <;> omega))
    go_wp2_with fail
    refine (blank_q w ((W.setCell ⟨R, 2, none⟩ (.int .i64 d1)).setCell ⟨R, 1, none⟩ (.int .i64 (q1 : Int))) R q1 d1 0 b ao cap T HQ1.out).mono ?_
    rintro r W2 ⟨rfl, q2, hpq, hq⟩
    have HQ2 := hide hq
    have HP2 := hide hpq
    clear hq hpq
    go_wp2_with fail
    refine (peek_q w W2 R q2 d1 0 b ao cap T HQ2.out).mono ?_
    rintro r W3 ⟨x3, e3, b3, rfl, hq, h1_3, h2_3, hx⟩
    have HQ3 := hide hq
    have HX3 := hide hx
    clear hq hx
    have c1_3 : W3.cell? ⟨R, 1, none⟩ = some (.int .i64 (q2 : Int)) := HQ3.out.rq.cell 1
    have c2_3 : W3.cell? ⟨R, 2, none⟩ = some (.int .i64 d1) := HQ3.out.rq.cell 2
    have c3_3 : W3.cell? ⟨R, 3, none⟩ = some (.int .i64 e3) := HQ3.out.rq.cell 3
    have f1_3 : W3.frozen? ⟨R, 1, none⟩ = false := HQ3.out.rq.frozen 1
    have f2_3 : W3.frozen? ⟨R, 2, none⟩ = false := HQ3.out.rq.frozen 2
    have lR_3 : R < W3.heap.size := HQ3.out.rq.lt
    by_cases he : e3 = 0
    · subst he
      have LT2 : Hid (q2 < T.length) := by
        rcases HX3.out with h | h
        · exact absurd rfl h.2
        · exact hide h.2.2.1
      clear HX3
      by_cases k1 : x3 = c
      · subst k1
        have DB2 : Hid (-(q2 : Int) ≤ d1 ∧ d1 ≤ (q2 : Int)) := hide (HQ3.out.db.2.2 rfl)
        obtain ⟨q4, hq4⟩ : ∃ qz, q2 + 1 = qz := ⟨_, rfl⟩
        have e1_4 : (q2 : Int) + 1 = (q4 : Int) := by omega
        have g4 : (q2 : Int) ≤ 1000000 := by have := HL.out; have := HQ3.out.le; omega
        have HP4 := hide hq4
        clear hq4
        have HQ4 := hide (HQ3.out.step (q := q4) (by have := HP4.out; omega) (by have := HP4.out; have := LT2.out; omega))
        obtain ⟨dd, hdd⟩ : ∃ dd, d1 - 1 = dd := ⟨_, rfl⟩
        have HQD := hide (HQ4.out.down (d' := dd) (by have := DB2.out; have := HP4.out; refine ⟨?_, ?_, fun _ => ⟨?_, ?_⟩⟩ <;> omega))
        go_wp2
        go_ret
        exact ⟨true, q4, _, _, _, rfl, by have := HP2.out; have := HP1.out; have := HP4.out; omega, HQD.out, fun h => by cases h⟩
      · have d1 : (x3 == c) = false := by simpa using k1
        go_wp2
        go_ret
        exact ⟨false, q2, _, _, _, rfl, by have := HP2.out; have := HP1.out; omega, HQ3.out, fun _ => by have := HP2.out; have := HP1.out; omega⟩
    · have dz : (e3 != 0) = true := by simpa using he
      have HZ := hide he
      clear he HX3
      go_wp2
      go_ret
      exact ⟨true, q2, _, _, _, rfl, by have := HP2.out; have := HP1.out; omega, HQ3.out, fun h => by cases h⟩

end Go.Proofs.YtbdpmpepmjpadaaGreatDoor

namespace Go.Proofs.YtbdpmpepmjpadaaGreatDoor
set_option linter.unusedVariables false
set_option linter.unusedSimpArgs false
set_option maxRecDepth 100000
open Go Go.RowKit Go.Shelf Go.Lib

/-- Trees whose rows and texts are no longer than a text that is read. -/
inductive SzT (N : Nat) : JT → Prop where
  | mk (k : Int) (s : ByteArray) (K : List ByteArray) (L : List JT) (hK : K.length ≤ N) (hL : L.length ≤ N) (hs : s.size ≤ 4 * N) (ht : ∀ i (h : i < L.length), SzT N L[i]) : SzT N (.mk k s K L)
/-- A value is read: some tree, in memory of its own. -/
def QV (T : List Nat) (w : World) (R : Nat) (ao : Option Addr) (cap p : Nat) (e : Int) (n : Nat) (r : Ending) (w' : World) : Prop :=
  ∃ (x : JC) (Tr : JT), r = .returned (vagg x) ∧ TIn w' (fun b => n ≤ b) x Tr ∧ SzT T.length Tr ∧ QM T w R ao cap p e w'
theorem wrap64_at {n : Int} (h : 0 ≤ n ∧ n ≤ 255) : wrap64 n = n := by unfold wrap64; omega
theorem tin_leaf (W : World) (S : Nat → Prop) (k : Int) (s : ByteArray) : TIn W S (k, s, .slice none 0 0, .slice none 0 0) (.mk k s [] []) :=
  .mk k s (.slice none 0 0) none 0 [] [] (fun _ => (0, ⟨#[]⟩, .slice none 0 0, .slice none 0 0)) ⟨none, 0, rfl, fun j h => by simp at h⟩ (fun i h => by simp at h) (fun i h => by simp at h) (fun i h => by simp at h)
theorem sz_leaf (N : Nat) (k : Int) (s : ByteArray) (hs : s.size ≤ 4 * N) : SzT N (.mk k s [] []) :=
  .mk k s [] [] (by simp) (by simp) hs (fun i h => by simp at h)
theorem QS.self {T : List Nat} {w W W' : World} {R : Nat} {ao : Option Addr} {cap p : Nat} {d e b : Int} (h : QS T w W R ao cap p d e b) (hb : Below W.heap.size W W') : QS T W' W' R ao cap p d e b :=
  ⟨h.rq.below hb, h.tx.fr (Fr.of hb), Fr.refl _ _ _, h.le, h.db⟩
theorem QS.fin {T : List Nat} {w W W1 W' : World} {R : Nat} {ao : Option Addr} {cap p q : Nat} {d d' e e' b b' : Int} (h : QS T w W R ao cap p d e b) (hb : Below W.heap.size W W1) (hs : QS T W1 W' R ao cap q d' e' b') (a0 a1 a2 a3 : Value) :
    QS T w ((((W'.setCell ⟨W.heap.size, 0, none⟩ a0).setCell ⟨W.heap.size, 1, none⟩ a1).setCell ⟨W.heap.size, 2, none⟩ a2).setCell ⟨W.heap.size, 3, none⟩ a3) R ao cap q d' e' b' := by
  have hne : R ≠ W.heap.size := by have := h.rq.lt; omega
  have hn := Nat.le_refl W.heap.size
  exact h.go (BoxC.other (BoxC.other (BoxC.other (BoxC.other hs.rq hne 0 _) hne 1 _) hne 2 _) hne 3 _) ((((((Fr.of hb).trans hs.fr (.inl rfl)).setNew hn 0 _).setNew hn 1 _).setNew hn 2 _).setNew hn 3 _) hs.le hs.db

set_option maxHeartbeats 16000000 in
theorem word_true (w W : World) (R p : Nat) (d e b : Int) (ao : Option Addr) (cap : Nat) (T : List Nat) (h : QS T w W R ao cap p d e b) :
    Calls Tryz.prog 60 #[.pointer (some ⟨R, 0, none⟩), .string ⟨#[116, 114, 117, 101]⟩, .int .i64 2] W (QV T w R ao cap p e W.heap.size) := by
  have hb0 := bel W (.cells #[.int .i64 0, .string ⟨#[]⟩, .slice none 0 0, .slice none 0 0] 36)
  have hx0 := BoxC.new W 36 #[.int .i64 0, .string ⟨#[]⟩, .slice none 0 0, .slice none 0 0]
  have HSZ : Hid ((W.alloc (.cells #[.int .i64 0, .string ⟨#[]⟩, .slice none 0 0, .slice none 0 0] 36)).heap.size = W.heap.size + 1) := World.size_alloc _ _
  have HRW := hide h.rq.lt
  have HQE := hide h
  generalize hw0 : W.alloc (.cells #[.int .i64 0, .string ⟨#[]⟩, .slice none 0 0, .slice none 0 0] 36) = w0 at *
  have HW0 := hide hw0
  have HB := hide hb0
  have HX0 := hide hx0
  have HQ0 := hide (h.self hb0)
  clear h hw0 hb0 hx0
  have HI : Hid (∃ (i : Int) (q : Nat) (d' e' b' : Int), Value.int .i64 0 = .int .i64 i ∧ 0 ≤ i ∧ i ≤ 4 ∧ p ≤ q ∧ (e ≠ 0 → e' ≠ 0) ∧ QS T w0 w0 R ao cap q d' e' b') := ⟨0, p, d, e, b, rfl, by omega, by omega, Nat.le_refl _, fun h => h, HQ0.out⟩
  clear HQ0
  go_enter Tryz.func60, Tryz.ntmps60
  go_upto_region 1 with fail
  show Code.wp _ _ _ _ (W.alloc (.cells #[.int .i64 0, .string ⟨#[]⟩, .slice none 0 0, .slice none 0 0] 36))
  rw [HW0.out]
  clear HW0
  go_wp2
  go_loopw [7] (fun iv wr => ∃ (i : Int) (q : Nat) (d' e' b' : Int), iv = .int .i64 i ∧ 0 ≤ i ∧ i ≤ 4 ∧ p ≤ q ∧ (e ≠ 0 → e' ≠ 0) ∧ QS T w0 wr R ao cap q d' e' b') (fun iv _ => 4 - (RowKit.intOf iv).toNat)
  case atStart => exact HI.out
  case round =>
    obtain ⟨i, q, d0, e0, b0, rfl, hi0, hi1, hpq, hee, hs⟩ := hrel
    have HS := hide hs
    have HPQ := hide hpq
    have HEE := hide hee
    clear HI hs hpq hee
    obtain rfl | rfl | rfl | rfl | rfl : i = 0 ∨ i = 1 ∨ i = 2 ∨ i = 3 ∨ i = 4 := by omega
    · have q0 : ∀ h, wrap64 (((({ data := #[116, 114, 117, 101] } : ByteArray)[0]'h).toNat : Nat) : Int) = 116 := by intro h; exact wrap64_at (n := 116) (by omega)
      go_wp2_with fail
      rw [q0]
      clear q0
      refine (must_any w0 wr R q d0 e0 b0 116 ao cap T HS.out).mono ?_
      rintro r W1 ⟨rfl, q1, d1, e1, b1, hpq, hq, hee⟩
      have HREL : Hid (∃ (i : Int) (q : Nat) (d' e' b' : Int), Value.int .i64 1 = .int .i64 i ∧ 0 ≤ i ∧ i ≤ 4 ∧ p ≤ q ∧ (e ≠ 0 → e' ≠ 0) ∧ QS T w0 W1 R ao cap q d' e' b') := ⟨1, q1, d1, e1, b1, rfl, by omega, by omega, by have := HPQ.out; omega, fun h => hee (HEE.out h), hq⟩
      clear hpq hq hee
      go_wp2
      go_roundw
      case rel => exact HREL.out
      case measure => simp [RowKit.intOf]
    · have q0 : ∀ h, wrap64 (((({ data := #[116, 114, 117, 101] } : ByteArray)[1]'h).toNat : Nat) : Int) = 114 := by intro h; exact wrap64_at (n := 114) (by omega)
      go_wp2_with fail
      rw [q0]
      clear q0
      refine (must_any w0 wr R q d0 e0 b0 114 ao cap T HS.out).mono ?_
      rintro r W1 ⟨rfl, q1, d1, e1, b1, hpq, hq, hee⟩
      have HREL : Hid (∃ (i : Int) (q : Nat) (d' e' b' : Int), Value.int .i64 2 = .int .i64 i ∧ 0 ≤ i ∧ i ≤ 4 ∧ p ≤ q ∧ (e ≠ 0 → e' ≠ 0) ∧ QS T w0 W1 R ao cap q d' e' b') := ⟨2, q1, d1, e1, b1, rfl, by omega, by omega, by have := HPQ.out; omega, fun h => hee (HEE.out h), hq⟩
      clear hpq hq hee
      go_wp2
      go_roundw
      case rel => exact HREL.out
      case measure => simp [RowKit.intOf]
    · have q0 : ∀ h, wrap64 (((({ data := #[116, 114, 117, 101] } : ByteArray)[2]'h).toNat : Nat) : Int) = 117 := by intro h; exact wrap64_at (n := 117) (by omega)
      go_wp2_with fail
      rw [q0]
      clear q0
      refine (must_any w0 wr R q d0 e0 b0 117 ao cap T HS.out).mono ?_
      rintro r W1 ⟨rfl, q1, d1, e1, b1, hpq, hq, hee⟩
      have HREL : Hid (∃ (i : Int) (q : Nat) (d' e' b' : Int), Value.int .i64 3 = .int .i64 i ∧ 0 ≤ i ∧ i ≤ 4 ∧ p ≤ q ∧ (e ≠ 0 → e' ≠ 0) ∧ QS T w0 W1 R ao cap q d' e' b') := ⟨3, q1, d1, e1, b1, rfl, by omega, by omega, by have := HPQ.out; omega, fun h => hee (HEE.out h), hq⟩
      clear hpq hq hee
      go_wp2
      go_roundw
      case rel => exact HREL.out
      case measure => simp [RowKit.intOf]
    · have q0 : ∀ h, wrap64 (((({ data := #[116, 114, 117, 101] } : ByteArray)[3]'h).toNat : Nat) : Int) = 101 := by intro h; exact wrap64_at (n := 101) (by omega)
      go_wp2_with fail
      rw [q0]
      clear q0
      refine (must_any w0 wr R q d0 e0 b0 101 ao cap T HS.out).mono ?_
      rintro r W1 ⟨rfl, q1, d1, e1, b1, hpq, hq, hee⟩
      have HREL : Hid (∃ (i : Int) (q : Nat) (d' e' b' : Int), Value.int .i64 4 = .int .i64 i ∧ 0 ≤ i ∧ i ≤ 4 ∧ p ≤ q ∧ (e ≠ 0 → e' ≠ 0) ∧ QS T w0 W1 R ao cap q d' e' b') := ⟨4, q1, d1, e1, b1, rfl, by omega, by omega, by have := HPQ.out; omega, fun h => hee (HEE.out h), hq⟩
      clear hpq hq hee
      go_wp2
      go_roundw
      case rel => exact HREL.out
      case measure => simp [RowKit.intOf]
    · have HX := hide (show BoxC wr W.heap.size 36 #[.int .i64 0, .string ⟨#[]⟩, .slice none 0 0, .slice none 0 0] from (HS.out.fr.block (k := W.heap.size) (by have := HSZ.out; omega) (by have := HRW.out; omega) (by simp)).trans HX0.out)
      have x0 := HX.out.cell 0
      have x1 := HX.out.cell 1
      have x2 := HX.out.cell 2
      have x3 := HX.out.cell 3
      have y0 := HX.out.frozen 0
      have y1 := HX.out.frozen 1
      have y2 := HX.out.frozen 2
      have y3 := HX.out.frozen 3
      have lX := HX.out.lt
      go_wp2
      have z := (((HX.out.set 0 (.int .i64 2)).set 1 (.string ⟨#[]⟩)).set 2 (.slice none 0 0)).set 3 (.slice none 0 0)
      refine bodyPost_ret (results_rv rfl rfl z) rfl ?_
      refine ⟨(2, ⟨#[]⟩, .slice none 0 0, .slice none 0 0), _, rfl, tin_leaf _ _ _ _, sz_leaf _ _ _ (Nat.zero_le _), q, d0, e0, b0, HPQ.out, ?_, HEE.out⟩
      exact HQE.out.fin HB.out HS.out (.int .i64 2) (.string ⟨#[]⟩) (.slice none 0 0) (.slice none 0 0)

set_option maxHeartbeats 16000000 in
theorem word_false (w W : World) (R p : Nat) (d e b : Int) (ao : Option Addr) (cap : Nat) (T : List Nat) (h : QS T w W R ao cap p d e b) :
    Calls Tryz.prog 60 #[.pointer (some ⟨R, 0, none⟩), .string ⟨#[102, 97, 108, 115, 101]⟩, .int .i64 1] W (QV T w R ao cap p e W.heap.size) := by
  have hb0 := bel W (.cells #[.int .i64 0, .string ⟨#[]⟩, .slice none 0 0, .slice none 0 0] 36)
  have hx0 := BoxC.new W 36 #[.int .i64 0, .string ⟨#[]⟩, .slice none 0 0, .slice none 0 0]
  have HSZ : Hid ((W.alloc (.cells #[.int .i64 0, .string ⟨#[]⟩, .slice none 0 0, .slice none 0 0] 36)).heap.size = W.heap.size + 1) := World.size_alloc _ _
  have HRW := hide h.rq.lt
  have HQE := hide h
  generalize hw0 : W.alloc (.cells #[.int .i64 0, .string ⟨#[]⟩, .slice none 0 0, .slice none 0 0] 36) = w0 at *
  have HW0 := hide hw0
  have HB := hide hb0
  have HX0 := hide hx0
  have HQ0 := hide (h.self hb0)
  clear h hw0 hb0 hx0
  have HI : Hid (∃ (i : Int) (q : Nat) (d' e' b' : Int), Value.int .i64 0 = .int .i64 i ∧ 0 ≤ i ∧ i ≤ 5 ∧ p ≤ q ∧ (e ≠ 0 → e' ≠ 0) ∧ QS T w0 w0 R ao cap q d' e' b') := ⟨0, p, d, e, b, rfl, by omega, by omega, Nat.le_refl _, fun h => h, HQ0.out⟩
  clear HQ0
  go_enter Tryz.func60, Tryz.ntmps60
  go_upto_region 1 with fail
  show Code.wp _ _ _ _ (W.alloc (.cells #[.int .i64 0, .string ⟨#[]⟩, .slice none 0 0, .slice none 0 0] 36))
  rw [HW0.out]
  clear HW0
  go_wp2
  go_loopw [7] (fun iv wr => ∃ (i : Int) (q : Nat) (d' e' b' : Int), iv = .int .i64 i ∧ 0 ≤ i ∧ i ≤ 5 ∧ p ≤ q ∧ (e ≠ 0 → e' ≠ 0) ∧ QS T w0 wr R ao cap q d' e' b') (fun iv _ => 5 - (RowKit.intOf iv).toNat)
  case atStart => exact HI.out
  case round =>
    obtain ⟨i, q, d0, e0, b0, rfl, hi0, hi1, hpq, hee, hs⟩ := hrel
    have HS := hide hs
    have HPQ := hide hpq
    have HEE := hide hee
    clear HI hs hpq hee
    obtain rfl | rfl | rfl | rfl | rfl | rfl : i = 0 ∨ i = 1 ∨ i = 2 ∨ i = 3 ∨ i = 4 ∨ i = 5 := by omega
    · have q0 : ∀ h, wrap64 (((({ data := #[102, 97, 108, 115, 101] } : ByteArray)[0]'h).toNat : Nat) : Int) = 102 := by intro h; exact wrap64_at (n := 102) (by omega)
      go_wp2_with fail
      rw [q0]
      clear q0
      refine (must_any w0 wr R q d0 e0 b0 102 ao cap T HS.out).mono ?_
      rintro r W1 ⟨rfl, q1, d1, e1, b1, hpq, hq, hee⟩
      have HREL : Hid (∃ (i : Int) (q : Nat) (d' e' b' : Int), Value.int .i64 1 = .int .i64 i ∧ 0 ≤ i ∧ i ≤ 5 ∧ p ≤ q ∧ (e ≠ 0 → e' ≠ 0) ∧ QS T w0 W1 R ao cap q d' e' b') := ⟨1, q1, d1, e1, b1, rfl, by omega, by omega, by have := HPQ.out; omega, fun h => hee (HEE.out h), hq⟩
      clear hpq hq hee
      go_wp2
      go_roundw
      case rel => exact HREL.out
      case measure => simp [RowKit.intOf]
    · have q0 : ∀ h, wrap64 (((({ data := #[102, 97, 108, 115, 101] } : ByteArray)[1]'h).toNat : Nat) : Int) = 97 := by intro h; exact wrap64_at (n := 97) (by omega)
      go_wp2_with fail
      rw [q0]
      clear q0
      refine (must_any w0 wr R q d0 e0 b0 97 ao cap T HS.out).mono ?_
      rintro r W1 ⟨rfl, q1, d1, e1, b1, hpq, hq, hee⟩
      have HREL : Hid (∃ (i : Int) (q : Nat) (d' e' b' : Int), Value.int .i64 2 = .int .i64 i ∧ 0 ≤ i ∧ i ≤ 5 ∧ p ≤ q ∧ (e ≠ 0 → e' ≠ 0) ∧ QS T w0 W1 R ao cap q d' e' b') := ⟨2, q1, d1, e1, b1, rfl, by omega, by omega, by have := HPQ.out; omega, fun h => hee (HEE.out h), hq⟩
      clear hpq hq hee
      go_wp2
      go_roundw
      case rel => exact HREL.out
      case measure => simp [RowKit.intOf]
    · have q0 : ∀ h, wrap64 (((({ data := #[102, 97, 108, 115, 101] } : ByteArray)[2]'h).toNat : Nat) : Int) = 108 := by intro h; exact wrap64_at (n := 108) (by omega)
      go_wp2_with fail
      rw [q0]
      clear q0
      refine (must_any w0 wr R q d0 e0 b0 108 ao cap T HS.out).mono ?_
      rintro r W1 ⟨rfl, q1, d1, e1, b1, hpq, hq, hee⟩
      have HREL : Hid (∃ (i : Int) (q : Nat) (d' e' b' : Int), Value.int .i64 3 = .int .i64 i ∧ 0 ≤ i ∧ i ≤ 5 ∧ p ≤ q ∧ (e ≠ 0 → e' ≠ 0) ∧ QS T w0 W1 R ao cap q d' e' b') := ⟨3, q1, d1, e1, b1, rfl, by omega, by omega, by have := HPQ.out; omega, fun h => hee (HEE.out h), hq⟩
      clear hpq hq hee
      go_wp2
      go_roundw
      case rel => exact HREL.out
      case measure => simp [RowKit.intOf]
    · have q0 : ∀ h, wrap64 (((({ data := #[102, 97, 108, 115, 101] } : ByteArray)[3]'h).toNat : Nat) : Int) = 115 := by intro h; exact wrap64_at (n := 115) (by omega)
      go_wp2_with fail
      rw [q0]
      clear q0
      refine (must_any w0 wr R q d0 e0 b0 115 ao cap T HS.out).mono ?_
      rintro r W1 ⟨rfl, q1, d1, e1, b1, hpq, hq, hee⟩
      have HREL : Hid (∃ (i : Int) (q : Nat) (d' e' b' : Int), Value.int .i64 4 = .int .i64 i ∧ 0 ≤ i ∧ i ≤ 5 ∧ p ≤ q ∧ (e ≠ 0 → e' ≠ 0) ∧ QS T w0 W1 R ao cap q d' e' b') := ⟨4, q1, d1, e1, b1, rfl, by omega, by omega, by have := HPQ.out; omega, fun h => hee (HEE.out h), hq⟩
      clear hpq hq hee
      go_wp2
      go_roundw
      case rel => exact HREL.out
      case measure => simp [RowKit.intOf]
    · have q0 : ∀ h, wrap64 (((({ data := #[102, 97, 108, 115, 101] } : ByteArray)[4]'h).toNat : Nat) : Int) = 101 := by intro h; exact wrap64_at (n := 101) (by omega)
      go_wp2_with fail
      rw [q0]
      clear q0
      refine (must_any w0 wr R q d0 e0 b0 101 ao cap T HS.out).mono ?_
      rintro r W1 ⟨rfl, q1, d1, e1, b1, hpq, hq, hee⟩
      have HREL : Hid (∃ (i : Int) (q : Nat) (d' e' b' : Int), Value.int .i64 5 = .int .i64 i ∧ 0 ≤ i ∧ i ≤ 5 ∧ p ≤ q ∧ (e ≠ 0 → e' ≠ 0) ∧ QS T w0 W1 R ao cap q d' e' b') := ⟨5, q1, d1, e1, b1, rfl, by omega, by omega, by have := HPQ.out; omega, fun h => hee (HEE.out h), hq⟩
      clear hpq hq hee
      go_wp2
      go_roundw
      case rel => exact HREL.out
      case measure => simp [RowKit.intOf]
    · have HX := hide (show BoxC wr W.heap.size 36 #[.int .i64 0, .string ⟨#[]⟩, .slice none 0 0, .slice none 0 0] from (HS.out.fr.block (k := W.heap.size) (by have := HSZ.out; omega) (by have := HRW.out; omega) (by simp)).trans HX0.out)
      have x0 := HX.out.cell 0
      have x1 := HX.out.cell 1
      have x2 := HX.out.cell 2
      have x3 := HX.out.cell 3
      have y0 := HX.out.frozen 0
      have y1 := HX.out.frozen 1
      have y2 := HX.out.frozen 2
      have y3 := HX.out.frozen 3
      have lX := HX.out.lt
      go_wp2
      have z := (((HX.out.set 0 (.int .i64 1)).set 1 (.string ⟨#[]⟩)).set 2 (.slice none 0 0)).set 3 (.slice none 0 0)
      refine bodyPost_ret (results_rv rfl rfl z) rfl ?_
      refine ⟨(1, ⟨#[]⟩, .slice none 0 0, .slice none 0 0), _, rfl, tin_leaf _ _ _ _, sz_leaf _ _ _ (Nat.zero_le _), q, d0, e0, b0, HPQ.out, ?_, HEE.out⟩
      exact HQE.out.fin HB.out HS.out (.int .i64 1) (.string ⟨#[]⟩) (.slice none 0 0) (.slice none 0 0)

set_option maxHeartbeats 16000000 in
theorem word_null (w W : World) (R p : Nat) (d e b : Int) (ao : Option Addr) (cap : Nat) (T : List Nat) (h : QS T w W R ao cap p d e b) :
    Calls Tryz.prog 60 #[.pointer (some ⟨R, 0, none⟩), .string ⟨#[110, 117, 108, 108]⟩, .int .i64 0] W (QV T w R ao cap p e W.heap.size) := by
  have hb0 := bel W (.cells #[.int .i64 0, .string ⟨#[]⟩, .slice none 0 0, .slice none 0 0] 36)
  have hx0 := BoxC.new W 36 #[.int .i64 0, .string ⟨#[]⟩, .slice none 0 0, .slice none 0 0]
  have HSZ : Hid ((W.alloc (.cells #[.int .i64 0, .string ⟨#[]⟩, .slice none 0 0, .slice none 0 0] 36)).heap.size = W.heap.size + 1) := World.size_alloc _ _
  have HRW := hide h.rq.lt
  have HQE := hide h
  generalize hw0 : W.alloc (.cells #[.int .i64 0, .string ⟨#[]⟩, .slice none 0 0, .slice none 0 0] 36) = w0 at *
  have HW0 := hide hw0
  have HB := hide hb0
  have HX0 := hide hx0
  have HQ0 := hide (h.self hb0)
  clear h hw0 hb0 hx0
  have HI : Hid (∃ (i : Int) (q : Nat) (d' e' b' : Int), Value.int .i64 0 = .int .i64 i ∧ 0 ≤ i ∧ i ≤ 4 ∧ p ≤ q ∧ (e ≠ 0 → e' ≠ 0) ∧ QS T w0 w0 R ao cap q d' e' b') := ⟨0, p, d, e, b, rfl, by omega, by omega, Nat.le_refl _, fun h => h, HQ0.out⟩
  clear HQ0
  go_enter Tryz.func60, Tryz.ntmps60
  go_upto_region 1 with fail
  show Code.wp _ _ _ _ (W.alloc (.cells #[.int .i64 0, .string ⟨#[]⟩, .slice none 0 0, .slice none 0 0] 36))
  rw [HW0.out]
  clear HW0
  go_wp2
  go_loopw [7] (fun iv wr => ∃ (i : Int) (q : Nat) (d' e' b' : Int), iv = .int .i64 i ∧ 0 ≤ i ∧ i ≤ 4 ∧ p ≤ q ∧ (e ≠ 0 → e' ≠ 0) ∧ QS T w0 wr R ao cap q d' e' b') (fun iv _ => 4 - (RowKit.intOf iv).toNat)
  case atStart => exact HI.out
  case round =>
    obtain ⟨i, q, d0, e0, b0, rfl, hi0, hi1, hpq, hee, hs⟩ := hrel
    have HS := hide hs
    have HPQ := hide hpq
    have HEE := hide hee
    clear HI hs hpq hee
    obtain rfl | rfl | rfl | rfl | rfl : i = 0 ∨ i = 1 ∨ i = 2 ∨ i = 3 ∨ i = 4 := by omega
    · have q0 : ∀ h, wrap64 (((({ data := #[110, 117, 108, 108] } : ByteArray)[0]'h).toNat : Nat) : Int) = 110 := by intro h; exact wrap64_at (n := 110) (by omega)
      go_wp2_with fail
      rw [q0]
      clear q0
      refine (must_any w0 wr R q d0 e0 b0 110 ao cap T HS.out).mono ?_
      rintro r W1 ⟨rfl, q1, d1, e1, b1, hpq, hq, hee⟩
      have HREL : Hid (∃ (i : Int) (q : Nat) (d' e' b' : Int), Value.int .i64 1 = .int .i64 i ∧ 0 ≤ i ∧ i ≤ 4 ∧ p ≤ q ∧ (e ≠ 0 → e' ≠ 0) ∧ QS T w0 W1 R ao cap q d' e' b') := ⟨1, q1, d1, e1, b1, rfl, by omega, by omega, by have := HPQ.out; omega, fun h => hee (HEE.out h), hq⟩
      clear hpq hq hee
      go_wp2
      go_roundw
      case rel => exact HREL.out
      case measure => simp [RowKit.intOf]
    · have q0 : ∀ h, wrap64 (((({ data := #[110, 117, 108, 108] } : ByteArray)[1]'h).toNat : Nat) : Int) = 117 := by intro h; exact wrap64_at (n := 117) (by omega)
      go_wp2_with fail
      rw [q0]
      clear q0
      refine (must_any w0 wr R q d0 e0 b0 117 ao cap T HS.out).mono ?_
      rintro r W1 ⟨rfl, q1, d1, e1, b1, hpq, hq, hee⟩
      have HREL : Hid (∃ (i : Int) (q : Nat) (d' e' b' : Int), Value.int .i64 2 = .int .i64 i ∧ 0 ≤ i ∧ i ≤ 4 ∧ p ≤ q ∧ (e ≠ 0 → e' ≠ 0) ∧ QS T w0 W1 R ao cap q d' e' b') := ⟨2, q1, d1, e1, b1, rfl, by omega, by omega, by have := HPQ.out; omega, fun h => hee (HEE.out h), hq⟩
      clear hpq hq hee
      go_wp2
      go_roundw
      case rel => exact HREL.out
      case measure => simp [RowKit.intOf]
    · have q0 : ∀ h, wrap64 (((({ data := #[110, 117, 108, 108] } : ByteArray)[2]'h).toNat : Nat) : Int) = 108 := by intro h; exact wrap64_at (n := 108) (by omega)
      go_wp2_with fail
      rw [q0]
      clear q0
      refine (must_any w0 wr R q d0 e0 b0 108 ao cap T HS.out).mono ?_
      rintro r W1 ⟨rfl, q1, d1, e1, b1, hpq, hq, hee⟩
      have HREL : Hid (∃ (i : Int) (q : Nat) (d' e' b' : Int), Value.int .i64 3 = .int .i64 i ∧ 0 ≤ i ∧ i ≤ 4 ∧ p ≤ q ∧ (e ≠ 0 → e' ≠ 0) ∧ QS T w0 W1 R ao cap q d' e' b') := ⟨3, q1, d1, e1, b1, rfl, by omega, by omega, by have := HPQ.out; omega, fun h => hee (HEE.out h), hq⟩
      clear hpq hq hee
      go_wp2
      go_roundw
      case rel => exact HREL.out
      case measure => simp [RowKit.intOf]
    · have q0 : ∀ h, wrap64 (((({ data := #[110, 117, 108, 108] } : ByteArray)[3]'h).toNat : Nat) : Int) = 108 := by intro h; exact wrap64_at (n := 108) (by omega)
      go_wp2_with fail
      rw [q0]
      clear q0
      refine (must_any w0 wr R q d0 e0 b0 108 ao cap T HS.out).mono ?_
      rintro r W1 ⟨rfl, q1, d1, e1, b1, hpq, hq, hee⟩
      have HREL : Hid (∃ (i : Int) (q : Nat) (d' e' b' : Int), Value.int .i64 4 = .int .i64 i ∧ 0 ≤ i ∧ i ≤ 4 ∧ p ≤ q ∧ (e ≠ 0 → e' ≠ 0) ∧ QS T w0 W1 R ao cap q d' e' b') := ⟨4, q1, d1, e1, b1, rfl, by omega, by omega, by have := HPQ.out; omega, fun h => hee (HEE.out h), hq⟩
      clear hpq hq hee
      go_wp2
      go_roundw
      case rel => exact HREL.out
      case measure => simp [RowKit.intOf]
    · have HX := hide (show BoxC wr W.heap.size 36 #[.int .i64 0, .string ⟨#[]⟩, .slice none 0 0, .slice none 0 0] from (HS.out.fr.block (k := W.heap.size) (by have := HSZ.out; omega) (by have := HRW.out; omega) (by simp)).trans HX0.out)
      have x0 := HX.out.cell 0
      have x1 := HX.out.cell 1
      have x2 := HX.out.cell 2
      have x3 := HX.out.cell 3
      have y0 := HX.out.frozen 0
      have y1 := HX.out.frozen 1
      have y2 := HX.out.frozen 2
      have y3 := HX.out.frozen 3
      have lX := HX.out.lt
      go_wp2
      have z := (((HX.out.set 0 (.int .i64 0)).set 1 (.string ⟨#[]⟩)).set 2 (.slice none 0 0)).set 3 (.slice none 0 0)
      refine bodyPost_ret (results_rv rfl rfl z) rfl ?_
      refine ⟨(0, ⟨#[]⟩, .slice none 0 0, .slice none 0 0), _, rfl, tin_leaf _ _ _ _, sz_leaf _ _ _ (Nat.zero_le _), q, d0, e0, b0, HPQ.out, ?_, HEE.out⟩
      exact HQE.out.fin HB.out HS.out (.int .i64 0) (.string ⟨#[]⟩) (.slice none 0 0) (.slice none 0 0)

end Go.Proofs.YtbdpmpepmjpadaaGreatDoor

namespace Go.Proofs.YtbdpmpepmjpadaaGreatDoor
set_option linter.unusedVariables false
set_option linter.unusedSimpArgs false
set_option maxRecDepth 100000
open Go Go.RowKit Go.Shelf Go.Lib

theorem QM.of {T : List Nat} {w W : World} {R : Nat} {ao : Option Addr} {cap p q : Nat} {d e e0 b : Int} (h : QS T w W R ao cap q d e b) (hp : p ≤ q) (he : e0 ≠ 0 → e ≠ 0) : QM T w R ao cap p e0 W := ⟨q, d, e, b, hp, h, he⟩
set_option maxHeartbeats 16000000 in
theorem number_any (w W : World) (R p : Nat) (d e b : Int) (ao : Option Addr) (cap : Nat) (T : List Nat) (h : QS T w W R ao cap p d e b) :
    Calls Tryz.prog 61 #[.pointer (some ⟨R, 0, none⟩)] W (QV T w R ao cap p e W.heap.size) := by
  have hb0 := bel W (.cells #[.int .i64 0, .string ⟨#[]⟩, .slice none 0 0, .slice none 0 0] 36)
  have hx0 := BoxC.new W 36 #[.int .i64 0, .string ⟨#[]⟩, .slice none 0 0, .slice none 0 0]
  have HSZ : Hid ((W.alloc (.cells #[.int .i64 0, .string ⟨#[]⟩, .slice none 0 0, .slice none 0 0] 36)).heap.size = W.heap.size + 1) := World.size_alloc _ _
  have HRW := hide h.rq.lt
  have HL := hide h.tx.len
  have HPL := hide h.le
  have HQE := hide h
  generalize hw0 : W.alloc (.cells #[.int .i64 0, .string ⟨#[]⟩, .slice none 0 0, .slice none 0 0] 36) = w0 at *
  have HW0 := hide hw0
  have HB := hide hb0
  have HX0 := hide hx0
  have HQ0 := hide (h.self hb0)
  clear h hw0 hb0 hx0
  have c1 : w0.cell? ⟨R, 1, none⟩ = some (.int .i64 (p : Int)) := HQ0.out.rq.cell 1
  have lR : R < w0.heap.size := HQ0.out.rq.lt
  go_enter Tryz.func61, Tryz.ntmps61
  go_upto_region 1 with fail
  show Code.wp _ _ _ _ (W.alloc (.cells #[.int .i64 0, .string ⟨#[]⟩, .slice none 0 0, .slice none 0 0] 36))
  rw [HW0.out]
  clear HW0
  go_wp2_with fail
  refine (see_q w0 w0 R p d e b ao cap T HQ0.out).mono ?_
  rintro r W1 ⟨x1, rfl, hq, hx, h1_1, h2_1⟩
  have HQ1 := hide hq
  have HX1 := hide hx
  clear hq hx
  go_upto_if 11 with fail
  go_cut [] from 11 to 18 (fun wx => QM T w0 R ao cap p e wx)
  case first =>
    by_cases k1 : x1 = 45
    · subst k1
      have SX : Hid (p < T.length) := by
        rcases HX1.out with h | h
        · have := h.1; omega
        · exact hide h.2.1
      have c1_1 : W1.cell? ⟨R, 1, none⟩ = some (.int .i64 (p : Int)) := HQ1.out.rq.cell 1
      have f1_1 : W1.frozen? ⟨R, 1, none⟩ = false := HQ1.out.rq.frozen 1
      have lR_1 : R < W1.heap.size := HQ1.out.rq.lt
      obtain ⟨q2, hq2⟩ : ∃ qz, p + 1 = qz := ⟨_, rfl⟩
      have e1_2 : (p : Int) + 1 = (q2 : Int) := by omega
      have g2 : (p : Int) ≤ 1000000 := by have := HL.out; have := HQ1.out.le; omega
      have HP2 := hide hq2
      clear hq2
      have HQ2 := hide (HQ1.out.step (q := q2) (by have := HP2.out; omega) (by have := HP2.out; have := SX.out; omega))
      go_wp2
      go_meet
      exact QM.of HQ2.out (by have := HP2.out; omega) (fun h => h)
    · have d1 : (x1 == 45) = false := by simpa using k1
      go_wp2
      go_meet
      exact QM.of HQ1.out (Nat.le_refl _) (fun h => h)
  case rest =>
    obtain ⟨r101, d101, e101, b101, hpq, hq, hee⟩ := hcut
    have HQ101 := hide hq
    have HP101 := hide hpq
    have HE101 := hide hee
    clear hpq hq hee
    generalize wc = V101 at *
    go_wp2_with fail
    refine (peek_q w0 V101 R r101 d101 e101 b101 ao cap T HQ101.out).mono ?_
    rintro r W2 ⟨x2, e2, b2, rfl, hq, h1_2, h2_2, hx⟩
    have HQ2 := hide hq
    have HX2 := hide hx
    clear hq hx
    go_upto_if 22 with fail
    go_cut [] from 22 to 31 (fun wx => QM T w0 R ao cap p e wx)
    case first =>
      by_cases k1 : x2 = 48
      · subst k1
        have SX : Hid (r101 < T.length) := by
          rcases HX2.out with h | h
          · have := h.1; omega
          · exact hide h.2.2.1
        have c1_2 : W2.cell? ⟨R, 1, none⟩ = some (.int .i64 (r101 : Int)) := HQ2.out.rq.cell 1
        have f1_2 : W2.frozen? ⟨R, 1, none⟩ = false := HQ2.out.rq.frozen 1
        have lR_2 : R < W2.heap.size := HQ2.out.rq.lt
        obtain ⟨q3, hq3⟩ : ∃ qz, r101 + 1 = qz := ⟨_, rfl⟩
        have e1_3 : (r101 : Int) + 1 = (q3 : Int) := by omega
        have g3 : (r101 : Int) ≤ 1000000 := by have := HL.out; have := HQ2.out.le; omega
        have HP3 := hide hq3
        clear hq3
        have HQ3 := hide (HQ2.out.step (q := q3) (by have := HP3.out; omega) (by have := HP3.out; have := SX.out; omega))
        go_wp2
        go_meet
        exact QM.of HQ3.out (by have := HP3.out; have := HP101.out; omega) (fun h => by have := HX2.out; have := HE101.out h; omega)
      · have d1 : (x2 == 48) = false := by simpa using k1
        go_wp2_with fail
        refine (digits_any w0 W2 R r101 d101 e2 b2 ao cap T HQ2.out).mono ?_
        rintro r W3 ⟨rfl, q3, d3, e3, b3, hpq, hq, hee⟩
        have HQ3 := hide hq
        have HP3 := hide hpq
        have HE3 := hide hee
        clear hq hpq hee
        go_wp2
        go_meet
        exact QM.of HQ3.out (by have := HP3.out; have := HP101.out; omega) (fun h => HE3.out ((fun h => by have := HX2.out; have := HE101.out h; omega) h))
    case rest =>
      obtain ⟨r102, d102, e102, b102, hpq, hq, hee⟩ := hcut
      have HQ102 := hide hq
      have HP102 := hide hpq
      have HE102 := hide hee
      clear hpq hq hee
      generalize wc = V102 at *
      go_wp2_with fail
      refine (see_q w0 V102 R r102 d102 e102 b102 ao cap T HQ102.out).mono ?_
      rintro r W3 ⟨x3, rfl, hq, hx, h1_3, h2_3⟩
      have HQ3 := hide hq
      have HX3 := hide hx
      clear hq hx
      go_upto_if 34 with fail
      go_cut [] from 34 to 43 (fun wx => QM T w0 R ao cap p e wx)
      case first =>
        by_cases k1 : x3 = 46
        · subst k1
          have SX : Hid (r102 < T.length) := by
            rcases HX3.out with h | h
            · have := h.1; omega
            · exact hide h.2.1
          have c1_3 : W3.cell? ⟨R, 1, none⟩ = some (.int .i64 (r102 : Int)) := HQ3.out.rq.cell 1
          have f1_3 : W3.frozen? ⟨R, 1, none⟩ = false := HQ3.out.rq.frozen 1
          have lR_3 : R < W3.heap.size := HQ3.out.rq.lt
          obtain ⟨q4, hq4⟩ : ∃ qz, r102 + 1 = qz := ⟨_, rfl⟩
          have e1_4 : (r102 : Int) + 1 = (q4 : Int) := by omega
          have g4 : (r102 : Int) ≤ 1000000 := by have := HL.out; have := HQ3.out.le; omega
          have HP4 := hide hq4
          clear hq4
          have HQ4 := hide (HQ3.out.step (q := q4) (by have := HP4.out; omega) (by have := HP4.out; have := SX.out; omega))
          go_wp2_with fail
          refine (digits_any w0 (W3.setCell ⟨R, 1, none⟩ (.int .i64 (q4 : Int))) R q4 d102 e102 b102 ao cap T HQ4.out).mono ?_
          rintro r W5 ⟨rfl, q5, d5, e5, b5, hpq, hq, hee⟩
          have HQ5 := hide hq
          have HP5 := hide hpq
          have HE5 := hide hee
          clear hq hpq hee
          go_wp2
          go_meet
          exact QM.of HQ5.out (by have := HP5.out; have := HP4.out; have := HP102.out; omega) (fun h => HE5.out (HE102.out h))
        · have d1 : (x3 == 46) = false := by simpa using k1
          go_wp2
          go_meet
          exact QM.of HQ3.out HP102.out HE102.out
      case rest =>
        obtain ⟨r103, d103, e103, b103, hpq, hq, hee⟩ := hcut
        have HQ103 := hide hq
        have HP103 := hide hpq
        have HE103 := hide hee
        clear hpq hq hee
        generalize wc = V103 at *
        go_wp2_with fail
        refine (see_q w0 V103 R r103 d103 e103 b103 ao cap T HQ103.out).mono ?_
        rintro r W4 ⟨x4, rfl, hq, hx, h1_4, h2_4⟩
        have HQ4 := hide hq
        have HX4 := hide hx
        clear hq hx
        go_upto_region 12 with fail
        go_cut [51] from 46 to 50 (fun s51 wx => s51 = .bool (decide (x4 = 101 ∨ x4 = 69)) ∧ wx = W4)
        case first =>
          by_cases k1 : x4 = 101
          · subst k1
            go_wp2
            go_meet
            exact ⟨rfl, rfl⟩
          · have d1 : (x4 == 101) = false := by simpa using k1
            by_cases k2 : x4 = 69
            · subst k2
              go_wp2
              go_meet
              exact ⟨by simp, rfl⟩
            · have d2 : (x4 == 69) = false := by simpa using k2
              go_wp2
              go_meet
              exact ⟨by simp [k1, k2], rfl⟩
        case rest =>
          obtain ⟨rfl, hwc⟩ := hcut
          rw [hwc]
          clear hwc
          go_upto_if 51 with fail
          go_cut [4] from 51 to 75 (fun s4 wx => QM T w0 R ao cap p e wx)
          case first =>
            obtain ⟨bE, hbE⟩ : ∃ bE, decide (x4 = 101 ∨ x4 = 69) = bE := ⟨_, rfl⟩
            rw [hbE]
            cases bE
            · clear hbE
              go_wp2
              go_meet
              exact QM.of HQ4.out HP103.out HE103.out
            · have kE : x4 = 101 ∨ x4 = 69 := of_decide_eq_true hbE
              clear hbE
              have SX : Hid (e103 = (0 : Int) ∧ r103 < T.length) := by
                rcases HX4.out with h | h
                · have := h.1; omega
                · exact hide ⟨h.1, h.2.1⟩
              clear kE
              have c1_4 : W4.cell? ⟨R, 1, none⟩ = some (.int .i64 (r103 : Int)) := HQ4.out.rq.cell 1
              have f1_4 : W4.frozen? ⟨R, 1, none⟩ = false := HQ4.out.rq.frozen 1
              have lR_4 : R < W4.heap.size := HQ4.out.rq.lt
              obtain ⟨q5, hq5⟩ : ∃ qz, r103 + 1 = qz := ⟨_, rfl⟩
              have e1_5 : (r103 : Int) + 1 = (q5 : Int) := by omega
              have g5 : (r103 : Int) ≤ 1000000 := by have := HL.out; have := HQ4.out.le; omega
              have HP5 := hide hq5
              clear hq5
              have HQ5 := hide (HQ4.out.step (q := q5) (by have := HP5.out; omega) (by have := HP5.out; have := SX.out.2; omega))
              go_wp2_with fail
              refine (see_q w0 (W4.setCell ⟨R, 1, none⟩ (.int .i64 (q5 : Int))) R q5 d103 e103 b103 ao cap T HQ5.out).mono ?_
              rintro r W6 ⟨x6, rfl, hq, hx, h1_6, h2_6⟩
              have HQ6 := hide hq
              have HX6 := hide hx
              clear hq hx
              by_cases k3 : x6 = 43
              · subst k3
                have SY : Hid (q5 < T.length) := by
                  rcases HX6.out with h | h
                  · have := h.1; omega
                  · exact hide h.2.1
                have c1_6 : W6.cell? ⟨R, 1, none⟩ = some (.int .i64 (q5 : Int)) := HQ6.out.rq.cell 1
                have f1_6 : W6.frozen? ⟨R, 1, none⟩ = false := HQ6.out.rq.frozen 1
                have lR_6 : R < W6.heap.size := HQ6.out.rq.lt
                obtain ⟨q7, hq7⟩ : ∃ qz, q5 + 1 = qz := ⟨_, rfl⟩
                have e1_7 : (q5 : Int) + 1 = (q7 : Int) := by omega
                have g7 : (q5 : Int) ≤ 1000000 := by have := HL.out; have := HQ6.out.le; omega
                have HP7 := hide hq7
                clear hq7
                have HQ7 := hide (HQ6.out.step (q := q7) (by have := HP7.out; omega) (by have := HP7.out; have := SY.out; omega))
                go_wp2_with fail
                refine (digits_any w0 (W6.setCell ⟨R, 1, none⟩ (.int .i64 (q7 : Int))) R q7 d103 e103 b103 ao cap T HQ7.out).mono ?_
                rintro r W8 ⟨rfl, q8, d8, e8, b8, hpq, hq, hee⟩
                have HQ8 := hide hq
                have HP8 := hide hpq
                have HE8 := hide hee
                clear hq hpq hee
                go_wp2
                go_meet
                exact QM.of HQ8.out (by have := HP8.out; have := HP7.out; have := HP5.out; have := HP103.out; omega) (fun h => HE8.out (HE103.out h))
              · have d3 : (x6 == 43) = false := by simpa using k3
                by_cases k4 : x6 = 45
                · subst k4
                  have SY : Hid (q5 < T.length) := by
                    rcases HX6.out with h | h
                    · have := h.1; omega
                    · exact hide h.2.1
                  have c1_6 : W6.cell? ⟨R, 1, none⟩ = some (.int .i64 (q5 : Int)) := HQ6.out.rq.cell 1
                  have f1_6 : W6.frozen? ⟨R, 1, none⟩ = false := HQ6.out.rq.frozen 1
                  have lR_6 : R < W6.heap.size := HQ6.out.rq.lt
                  obtain ⟨q7, hq7⟩ : ∃ qz, q5 + 1 = qz := ⟨_, rfl⟩
                  have e1_7 : (q5 : Int) + 1 = (q7 : Int) := by omega
                  have g7 : (q5 : Int) ≤ 1000000 := by have := HL.out; have := HQ6.out.le; omega
                  have HP7 := hide hq7
                  clear hq7
                  have HQ7 := hide (HQ6.out.step (q := q7) (by have := HP7.out; omega) (by have := HP7.out; have := SY.out; omega))
                  go_wp2_with fail
                  refine (digits_any w0 (W6.setCell ⟨R, 1, none⟩ (.int .i64 (q7 : Int))) R q7 d103 e103 b103 ao cap T HQ7.out).mono ?_
                  rintro r W8 ⟨rfl, q8, d8, e8, b8, hpq, hq, hee⟩
                  have HQ8 := hide hq
                  have HP8 := hide hpq
                  have HE8 := hide hee
                  clear hq hpq hee
                  go_wp2
                  go_meet
                  exact QM.of HQ8.out (by have := HP8.out; have := HP7.out; have := HP5.out; have := HP103.out; omega) (fun h => HE8.out (HE103.out h))
                · have d4 : (x6 == 45) = false := by simpa using k4
                  go_wp2_with fail
                  refine (digits_any w0 W6 R q5 d103 e103 b103 ao cap T HQ6.out).mono ?_
                  rintro r W7 ⟨rfl, q7, d7, e7, b7, hpq, hq, hee⟩
                  have HQ7 := hide hq
                  have HP7 := hide hpq
                  have HE7 := hide hee
                  clear hq hpq hee
                  go_wp2
                  go_meet
                  exact QM.of HQ7.out (by have := HP7.out; have := HP5.out; have := HP103.out; omega) (fun h => HE7.out (HE103.out h))
          case rest =>
            obtain ⟨r104, d104, e104, b104, hpq, hq, hee⟩ := hcut
            have HQ104 := hide hq
            have HP104 := hide hpq
            have HE104 := hide hee
            clear hpq hq hee
            generalize wc = V104 at *
            have HX := hide (show BoxC V104 W.heap.size 36 #[.int .i64 0, .string ⟨#[]⟩, .slice none 0 0, .slice none 0 0] from (HQ104.out.fr.block (k := W.heap.size) (by have := HSZ.out; omega) (by have := HRW.out; omega) (by simp)).trans HX0.out)
            have x0_ := HX.out.cell 0
            have y0_ := HX.out.frozen 0
            have x1_ := HX.out.cell 1
            have y1_ := HX.out.frozen 1
            have x2_ := HX.out.cell 2
            have y2_ := HX.out.frozen 2
            have x3_ := HX.out.cell 3
            have y3_ := HX.out.frozen 3
            have lX := HX.out.lt
            have c1_4 : V104.cell? ⟨R, 1, none⟩ = some (.int .i64 (r104 : Int)) := HQ104.out.rq.cell 1
            have c3_4 : V104.cell? ⟨R, 3, none⟩ = some (.int .i64 e104) := HQ104.out.rq.cell 3
            have lR_4 : R < V104.heap.size := HQ104.out.rq.lt
            have c0_4 : V104.cell? ⟨R, 0, none⟩ = some (.slice ao T.length cap) := HQ104.out.rq.cell 0
            by_cases he : e104 = 0
            · have dz : (e104 != 0) = false := by simpa using he
              have HBY := hide (HQ104.out.tx.byts.mid HP104.out HQ104.out.le HQ104.out.tx.cap)
              have hcut2 := fun W => cut_mid W ao T.length cap p r104 HP104.out HQ104.out.le HQ104.out.tx.cap
              have hcv := conv_byts (HBY.out.below (Below.refl V104.heap.size V104).drew)
              obtain ⟨st, hst⟩ : ∃ st, strOf ((T.drop p).take (r104 - p)) = st := ⟨_, rfl⟩
              rw [hst] at hcv
              have HST : Hid (st.size ≤ 4 * T.length) := by rw [← hst]; simp [strOf, ByteArray.size]; unfold Hid; have := HQ104.out.le; omega
              clear hst
              generalize (if cap = p then ao else ao.map (·.add p)) = ao2 at *
              go_upto_region 20 with fail
              go_region_with (fail)
              all_goals
                go_wp2
                have z := ((((HX.out.set 0 (.int .i64 3)).set 1 (.string st)).set 2 (.slice none 0 0)).set 3 (.slice none 0 0)).below (Below.refl _ _).drew
                refine bodyPost_ret (results_rv rfl rfl z) rfl ?_
                have hq := HQE.out.fin HB.out HQ104.out (.int .i64 3) (.string st) (.slice none 0 0) (.slice none 0 0)
                exact ⟨(3, st, .slice none 0 0, .slice none 0 0), _, rfl, tin_leaf _ _ _ _, sz_leaf _ _ _ HST.out, r104, d104, e104, b104, HP104.out, hq.below (Below.refl _ _).drew, HE104.out⟩
            · have dz : (e104 != 0) = true := by simpa using he
              go_wp2
              have z := (((HX.out.set 0 (.int .i64 0)).set 1 (.string ⟨#[]⟩)).set 2 (.slice none 0 0)).set 3 (.slice none 0 0)
              refine bodyPost_ret (results_rv rfl rfl z) rfl ?_
              exact ⟨(0, ⟨#[]⟩, .slice none 0 0, .slice none 0 0), _, rfl, tin_leaf _ _ _ _, sz_leaf _ _ _ (Nat.zero_le _), r104, d104, e104, b104, HP104.out, HQE.out.fin HB.out HQ104.out (.int .i64 0) (.string ⟨#[]⟩) (.slice none 0 0) (.slice none 0 0), HE104.out⟩

end Go.Proofs.YtbdpmpepmjpadaaGreatDoor

namespace Go.Proofs.YtbdpmpepmjpadaaGreatDoor
end Go.Proofs.YtbdpmpepmjpadaaGreatDoor

namespace Go.Proofs.YtbdpmpepmjpadaaGreatDoor
set_option linter.unusedVariables false
set_option linter.unusedSimpArgs false
set_option maxRecDepth 100000
open Go Go.RowKit Go.Shelf Go.Lib

theorem byts_nil (W : World) : Byts W (.slice none 0 0) [] := ⟨none, 0, rfl, by simp, fun j h => by simp at h⟩
/-- What escape answers: some bytes, at most four; it stands further. -/
def EscR (T : List Nat) (w : World) (R : Nat) (ao : Option Addr) (cap p : Nat) (r : Ending) (w' : World) : Prop :=
  ∃ (v : Value) (S : List Nat) (q : Nat) (d' e' b' : Int), r = .returned v ∧ Byts w' v S ∧ S.length ≤ 4 ∧ p < q ∧ QS T w w' R ao cap q d' e' b'
theorem sz_of {W : World} {n m : Nat} {S : List Nat} (e : n = m) (h : Byts W (.slice (some ⟨n, 0, none⟩) 1 1) S) : Byts W (.slice (some ⟨m, 0, none⟩) 1 1) S := e ▸ h
theorem encL_len (n : Nat) : (encL n).length ≤ 4 := by
  unfold encL
  split
  · simp
  · split
    · simp
    · split <;> simp

set_option maxHeartbeats 16000000 in
theorem escape_any (w W : World) (R p : Nat) (d b : Int) (ao : Option Addr) (cap : Nat) (T : List Nat) (h : QS T w W R ao cap p d 0 b) (hlt : p < T.length) :
    Calls Tryz.prog 84 #[.pointer (some ⟨R, 0, none⟩)] W (EscR T w R ao cap p) := by
  have HL := hide h.tx.len
  have HQ0 := hide h
  have LT := hide hlt
  clear h hlt
  have c1_0 : W.cell? ⟨R, 1, none⟩ = some (.int .i64 (p : Int)) := HQ0.out.rq.cell 1
  have f1_0 : W.frozen? ⟨R, 1, none⟩ = false := HQ0.out.rq.frozen 1
  have lR_0 : R < W.heap.size := HQ0.out.rq.lt
  obtain ⟨q1, hq1⟩ : ∃ qz, p + 1 = qz := ⟨_, rfl⟩
  have e1_1 : (p : Int) + 1 = (q1 : Int) := by omega
  have g1 : (p : Int) ≤ 1000000 := by have := HL.out; have := HQ0.out.le; omega
  have HP1 := hide hq1
  clear hq1
  have HQ1 := hide (HQ0.out.step (q := q1) (by have := HP1.out; omega) (by have := HP1.out; have := LT.out; omega))
  go_enter Tryz.func84, Tryz.ntmps84
  go_wp2_with fail
  refine (peek_q w (W.setCell ⟨R, 1, none⟩ (.int .i64 (q1 : Int))) R q1 d 0 b ao cap T HQ1.out).mono ?_
  rintro r W2 ⟨x2, e2, b2, rfl, hq, h1_2, h2_2, hx⟩
  have HQ2 := hide hq
  have HX2 := hide hx
  clear hq hx
  have c1_2 : W2.cell? ⟨R, 1, none⟩ = some (.int .i64 (q1 : Int)) := HQ2.out.rq.cell 1
  have c3_2 : W2.cell? ⟨R, 3, none⟩ = some (.int .i64 e2) := HQ2.out.rq.cell 3
  have f1_2 : W2.frozen? ⟨R, 1, none⟩ = false := HQ2.out.rq.frozen 1
  have lR_2 : R < W2.heap.size := HQ2.out.rq.lt
  by_cases he : e2 = 0
  · subst he
    have LT2 : Hid (q1 < T.length) := by
      rcases HX2.out with h | h
      · exact absurd rfl h.2
      · exact hide h.2.2.1
    have x0 : 0 ≤ x2 := by
      rcases HX2.out with h | h
      · exact absurd rfl h.2
      · exact h.2.2.2
    clear HX2
    have HBX := hide (BoxC.new W2 5 #[.int .u8 34, .int .u8 92, .int .u8 47, .int .u8 8, .int .u8 12, .int .u8 10, .int .u8 13, .int .u8 9])
    have hbx := bel W2 (.cells #[.int .u8 34, .int .u8 92, .int .u8 47, .int .u8 8, .int .u8 12, .int .u8 10, .int .u8 13, .int .u8 9] 5)
    have HSZ : Hid ((W2.alloc (.cells #[.int .u8 34, .int .u8 92, .int .u8 47, .int .u8 8, .int .u8 12, .int .u8 10, .int .u8 13, .int .u8 9] 5)).heap.size = W2.heap.size + 1) := World.size_alloc _ _
    obtain ⟨w3, hw3⟩ : ∃ w3, W2.alloc (.cells #[.int .u8 34, .int .u8 92, .int .u8 47, .int .u8 8, .int .u8 12, .int .u8 10, .int .u8 13, .int .u8 9] 5) = w3 := ⟨_, rfl⟩
    rw [hw3] at HBX hbx HSZ
    have HW3 := hide hw3
    have HQ3 := hide (HQ2.out.below hbx)
    clear hw3 hbx
    go_upto_region 8 with fail
    show Code.wp _ _ _ _ (W2.alloc (.cells #[.int .u8 34, .int .u8 92, .int .u8 47, .int .u8 8, .int .u8 12, .int .u8 10, .int .u8 13, .int .u8 9] 5))
    rw [HW3.out]
    clear HW3
    have hnb : ¬ R = W2.heap.size := by have := HQ2.out.rq.lt; omega
    have hnc : ¬ W2.heap.size = R := by omega
    have lB : W2.heap.size < w3.heap.size := by have := HSZ.out; omega
    obtain ⟨B, hB⟩ : ∃ B, W2.heap.size = B := ⟨_, rfl⟩
    rw [hB] at HBX hnb hnc lB HSZ ⊢
    clear hB
    have c1_10 : w3.cell? ⟨R, 1, none⟩ = some (.int .i64 (q1 : Int)) := HQ3.out.rq.cell 1
    have c3_10 : w3.cell? ⟨R, 3, none⟩ = some (.int .i64 0) := HQ3.out.rq.cell 3
    have f1_10 : w3.frozen? ⟨R, 1, none⟩ = false := HQ3.out.rq.frozen 1
    have lR_10 : R < w3.heap.size := HQ3.out.rq.lt
    go_wp2
    go_loopw [7] (fun iv wr => ∃ i : Int, iv = .int .i64 i ∧ 0 ≤ i ∧ i ≤ 8 ∧ wr = w3) (fun iv _ => 8 - (RowKit.intOf iv).toNat)
    case atStart => exact ⟨0, rfl, by omega, by omega, rfl⟩
    case round =>
      obtain ⟨i, rfl, hi0, hi1, hwr⟩ := hrel
      obtain ⟨V, hV⟩ : ∃ V, wr = V := ⟨_, rfl⟩
      rw [hwr]
      clear hwr hV
      obtain rfl | rfl | rfl | rfl | rfl | rfl | rfl | rfl | rfl : i = 0 ∨ i = 1 ∨ i = 2 ∨ i = 3 ∨ i = 4 ∨ i = 5 ∨ i = 6 ∨ i = 7 ∨ i = 8 := by omega
      · have q0 : ∀ h, wrap64 (((({ data := #[34, 92, 47, 98, 102, 110, 114, 116] } : ByteArray)[0]'h).toNat : Nat) : Int) = 34 := by intro h; exact wrap64_at (n := 34) (by omega)
        by_cases kx : x2 = 34
        · subst kx
          have yb : w3.cell? ⟨B, 0, none⟩ = some (.int .u8 34) := HBX.out.cell 0
          obtain ⟨q12, hq12⟩ : ∃ qz, q1 + 1 = qz := ⟨_, rfl⟩
          have e1_12 : (q1 : Int) + 1 = (q12 : Int) := by omega
          have g12 : (q1 : Int) ≤ 1000000 := by have := HL.out; have := HQ3.out.le; omega
          have HP12 := hide hq12
          clear hq12
          have HQ12 := hide (HQ3.out.step (q := q12) (by have := HP12.out; omega) (by have := HP12.out; have := LT2.out; omega))
          have HRES : Hid (∀ X : World, X = (w3.setCell ⟨R, 1, none⟩ (.int .i64 (q12 : Int))) → EscR T w R ao cap p (.returned (.slice (some ⟨w3.heap.size, 0, none⟩) 1 1)) (X.alloc (.cells #[.int .u8 34] 5))) := fun X hX => ⟨_, [34], q12, d, 0, b2, rfl, sz_of (by rw [hX]; simp) (byts_lit X [34] (by simp) (0, 0)), by simp, by have := HP1.out; have := HP12.out; omega, by rw [hX]; exact HQ12.out.below (bel _ _)⟩
          go_wp2
          go_ret
          exact HRES.out _ rfl
        · have d1 : (x2 == 34) = false := by simpa using kx
          go_wp2
          go_roundw
          case rel => exact ⟨1, rfl, by omega, by omega, by first | rfl | trivial⟩
          case measure => simp [RowKit.intOf]
      · have q0 : ∀ h, wrap64 (((({ data := #[34, 92, 47, 98, 102, 110, 114, 116] } : ByteArray)[1]'h).toNat : Nat) : Int) = 92 := by intro h; exact wrap64_at (n := 92) (by omega)
        by_cases kx : x2 = 92
        · subst kx
          have yb : w3.cell? ⟨B, 1, none⟩ = some (.int .u8 92) := HBX.out.cell 1
          obtain ⟨q12, hq12⟩ : ∃ qz, q1 + 1 = qz := ⟨_, rfl⟩
          have e1_12 : (q1 : Int) + 1 = (q12 : Int) := by omega
          have g12 : (q1 : Int) ≤ 1000000 := by have := HL.out; have := HQ3.out.le; omega
          have HP12 := hide hq12
          clear hq12
          have HQ12 := hide (HQ3.out.step (q := q12) (by have := HP12.out; omega) (by have := HP12.out; have := LT2.out; omega))
          have HRES : Hid (∀ X : World, X = (w3.setCell ⟨R, 1, none⟩ (.int .i64 (q12 : Int))) → EscR T w R ao cap p (.returned (.slice (some ⟨w3.heap.size, 0, none⟩) 1 1)) (X.alloc (.cells #[.int .u8 92] 5))) := fun X hX => ⟨_, [92], q12, d, 0, b2, rfl, sz_of (by rw [hX]; simp) (byts_lit X [92] (by simp) (0, 0)), by simp, by have := HP1.out; have := HP12.out; omega, by rw [hX]; exact HQ12.out.below (bel _ _)⟩
          go_wp2
          go_ret
          exact HRES.out _ rfl
        · have d1 : (x2 == 92) = false := by simpa using kx
          go_wp2
          go_roundw
          case rel => exact ⟨2, rfl, by omega, by omega, by first | rfl | trivial⟩
          case measure => simp [RowKit.intOf]
      · have q0 : ∀ h, wrap64 (((({ data := #[34, 92, 47, 98, 102, 110, 114, 116] } : ByteArray)[2]'h).toNat : Nat) : Int) = 47 := by intro h; exact wrap64_at (n := 47) (by omega)
        by_cases kx : x2 = 47
        · subst kx
          have yb : w3.cell? ⟨B, 2, none⟩ = some (.int .u8 47) := HBX.out.cell 2
          obtain ⟨q12, hq12⟩ : ∃ qz, q1 + 1 = qz := ⟨_, rfl⟩
          have e1_12 : (q1 : Int) + 1 = (q12 : Int) := by omega
          have g12 : (q1 : Int) ≤ 1000000 := by have := HL.out; have := HQ3.out.le; omega
          have HP12 := hide hq12
          clear hq12
          have HQ12 := hide (HQ3.out.step (q := q12) (by have := HP12.out; omega) (by have := HP12.out; have := LT2.out; omega))
          have HRES : Hid (∀ X : World, X = (w3.setCell ⟨R, 1, none⟩ (.int .i64 (q12 : Int))) → EscR T w R ao cap p (.returned (.slice (some ⟨w3.heap.size, 0, none⟩) 1 1)) (X.alloc (.cells #[.int .u8 47] 5))) := fun X hX => ⟨_, [47], q12, d, 0, b2, rfl, sz_of (by rw [hX]; simp) (byts_lit X [47] (by simp) (0, 0)), by simp, by have := HP1.out; have := HP12.out; omega, by rw [hX]; exact HQ12.out.below (bel _ _)⟩
          go_wp2
          go_ret
          exact HRES.out _ rfl
        · have d1 : (x2 == 47) = false := by simpa using kx
          go_wp2
          go_roundw
          case rel => exact ⟨3, rfl, by omega, by omega, by first | rfl | trivial⟩
          case measure => simp [RowKit.intOf]
      · have q0 : ∀ h, wrap64 (((({ data := #[34, 92, 47, 98, 102, 110, 114, 116] } : ByteArray)[3]'h).toNat : Nat) : Int) = 98 := by intro h; exact wrap64_at (n := 98) (by omega)
        by_cases kx : x2 = 98
        · subst kx
          have yb : w3.cell? ⟨B, 3, none⟩ = some (.int .u8 8) := HBX.out.cell 3
          obtain ⟨q12, hq12⟩ : ∃ qz, q1 + 1 = qz := ⟨_, rfl⟩
          have e1_12 : (q1 : Int) + 1 = (q12 : Int) := by omega
          have g12 : (q1 : Int) ≤ 1000000 := by have := HL.out; have := HQ3.out.le; omega
          have HP12 := hide hq12
          clear hq12
          have HQ12 := hide (HQ3.out.step (q := q12) (by have := HP12.out; omega) (by have := HP12.out; have := LT2.out; omega))
          have HRES : Hid (∀ X : World, X = (w3.setCell ⟨R, 1, none⟩ (.int .i64 (q12 : Int))) → EscR T w R ao cap p (.returned (.slice (some ⟨w3.heap.size, 0, none⟩) 1 1)) (X.alloc (.cells #[.int .u8 8] 5))) := fun X hX => ⟨_, [8], q12, d, 0, b2, rfl, sz_of (by rw [hX]; simp) (byts_lit X [8] (by simp) (0, 0)), by simp, by have := HP1.out; have := HP12.out; omega, by rw [hX]; exact HQ12.out.below (bel _ _)⟩
          go_wp2
          go_ret
          exact HRES.out _ rfl
        · have d1 : (x2 == 98) = false := by simpa using kx
          go_wp2
          go_roundw
          case rel => exact ⟨4, rfl, by omega, by omega, by first | rfl | trivial⟩
          case measure => simp [RowKit.intOf]
      · have q0 : ∀ h, wrap64 (((({ data := #[34, 92, 47, 98, 102, 110, 114, 116] } : ByteArray)[4]'h).toNat : Nat) : Int) = 102 := by intro h; exact wrap64_at (n := 102) (by omega)
        by_cases kx : x2 = 102
        · subst kx
          have yb : w3.cell? ⟨B, 4, none⟩ = some (.int .u8 12) := HBX.out.cell 4
          obtain ⟨q12, hq12⟩ : ∃ qz, q1 + 1 = qz := ⟨_, rfl⟩
          have e1_12 : (q1 : Int) + 1 = (q12 : Int) := by omega
          have g12 : (q1 : Int) ≤ 1000000 := by have := HL.out; have := HQ3.out.le; omega
          have HP12 := hide hq12
          clear hq12
          have HQ12 := hide (HQ3.out.step (q := q12) (by have := HP12.out; omega) (by have := HP12.out; have := LT2.out; omega))
          have HRES : Hid (∀ X : World, X = (w3.setCell ⟨R, 1, none⟩ (.int .i64 (q12 : Int))) → EscR T w R ao cap p (.returned (.slice (some ⟨w3.heap.size, 0, none⟩) 1 1)) (X.alloc (.cells #[.int .u8 12] 5))) := fun X hX => ⟨_, [12], q12, d, 0, b2, rfl, sz_of (by rw [hX]; simp) (byts_lit X [12] (by simp) (0, 0)), by simp, by have := HP1.out; have := HP12.out; omega, by rw [hX]; exact HQ12.out.below (bel _ _)⟩
          go_wp2
          go_ret
          exact HRES.out _ rfl
        · have d1 : (x2 == 102) = false := by simpa using kx
          go_wp2
          go_roundw
          case rel => exact ⟨5, rfl, by omega, by omega, by first | rfl | trivial⟩
          case measure => simp [RowKit.intOf]
      · have q0 : ∀ h, wrap64 (((({ data := #[34, 92, 47, 98, 102, 110, 114, 116] } : ByteArray)[5]'h).toNat : Nat) : Int) = 110 := by intro h; exact wrap64_at (n := 110) (by omega)
        by_cases kx : x2 = 110
        · subst kx
          have yb : w3.cell? ⟨B, 5, none⟩ = some (.int .u8 10) := HBX.out.cell 5
          obtain ⟨q12, hq12⟩ : ∃ qz, q1 + 1 = qz := ⟨_, rfl⟩
          have e1_12 : (q1 : Int) + 1 = (q12 : Int) := by omega
          have g12 : (q1 : Int) ≤ 1000000 := by have := HL.out; have := HQ3.out.le; omega
          have HP12 := hide hq12
          clear hq12
          have HQ12 := hide (HQ3.out.step (q := q12) (by have := HP12.out; omega) (by have := HP12.out; have := LT2.out; omega))
          have HRES : Hid (∀ X : World, X = (w3.setCell ⟨R, 1, none⟩ (.int .i64 (q12 : Int))) → EscR T w R ao cap p (.returned (.slice (some ⟨w3.heap.size, 0, none⟩) 1 1)) (X.alloc (.cells #[.int .u8 10] 5))) := fun X hX => ⟨_, [10], q12, d, 0, b2, rfl, sz_of (by rw [hX]; simp) (byts_lit X [10] (by simp) (0, 0)), by simp, by have := HP1.out; have := HP12.out; omega, by rw [hX]; exact HQ12.out.below (bel _ _)⟩
          go_wp2
          go_ret
          exact HRES.out _ rfl
        · have d1 : (x2 == 110) = false := by simpa using kx
          go_wp2
          go_roundw
          case rel => exact ⟨6, rfl, by omega, by omega, by first | rfl | trivial⟩
          case measure => simp [RowKit.intOf]
      · have q0 : ∀ h, wrap64 (((({ data := #[34, 92, 47, 98, 102, 110, 114, 116] } : ByteArray)[6]'h).toNat : Nat) : Int) = 114 := by intro h; exact wrap64_at (n := 114) (by omega)
        by_cases kx : x2 = 114
        · subst kx
          have yb : w3.cell? ⟨B, 6, none⟩ = some (.int .u8 13) := HBX.out.cell 6
          obtain ⟨q12, hq12⟩ : ∃ qz, q1 + 1 = qz := ⟨_, rfl⟩
          have e1_12 : (q1 : Int) + 1 = (q12 : Int) := by omega
          have g12 : (q1 : Int) ≤ 1000000 := by have := HL.out; have := HQ3.out.le; omega
          have HP12 := hide hq12
          clear hq12
          have HQ12 := hide (HQ3.out.step (q := q12) (by have := HP12.out; omega) (by have := HP12.out; have := LT2.out; omega))
          have HRES : Hid (∀ X : World, X = (w3.setCell ⟨R, 1, none⟩ (.int .i64 (q12 : Int))) → EscR T w R ao cap p (.returned (.slice (some ⟨w3.heap.size, 0, none⟩) 1 1)) (X.alloc (.cells #[.int .u8 13] 5))) := fun X hX => ⟨_, [13], q12, d, 0, b2, rfl, sz_of (by rw [hX]; simp) (byts_lit X [13] (by simp) (0, 0)), by simp, by have := HP1.out; have := HP12.out; omega, by rw [hX]; exact HQ12.out.below (bel _ _)⟩
          go_wp2
          go_ret
          exact HRES.out _ rfl
        · have d1 : (x2 == 114) = false := by simpa using kx
          go_wp2
          go_roundw
          case rel => exact ⟨7, rfl, by omega, by omega, by first | rfl | trivial⟩
          case measure => simp [RowKit.intOf]
      · have q0 : ∀ h, wrap64 (((({ data := #[34, 92, 47, 98, 102, 110, 114, 116] } : ByteArray)[7]'h).toNat : Nat) : Int) = 116 := by intro h; exact wrap64_at (n := 116) (by omega)
        by_cases kx : x2 = 116
        · subst kx
          have yb : w3.cell? ⟨B, 7, none⟩ = some (.int .u8 9) := HBX.out.cell 7
          obtain ⟨q12, hq12⟩ : ∃ qz, q1 + 1 = qz := ⟨_, rfl⟩
          have e1_12 : (q1 : Int) + 1 = (q12 : Int) := by omega
          have g12 : (q1 : Int) ≤ 1000000 := by have := HL.out; have := HQ3.out.le; omega
          have HP12 := hide hq12
          clear hq12
          have HQ12 := hide (HQ3.out.step (q := q12) (by have := HP12.out; omega) (by have := HP12.out; have := LT2.out; omega))
          have HRES : Hid (∀ X : World, X = (w3.setCell ⟨R, 1, none⟩ (.int .i64 (q12 : Int))) → EscR T w R ao cap p (.returned (.slice (some ⟨w3.heap.size, 0, none⟩) 1 1)) (X.alloc (.cells #[.int .u8 9] 5))) := fun X hX => ⟨_, [9], q12, d, 0, b2, rfl, sz_of (by rw [hX]; simp) (byts_lit X [9] (by simp) (0, 0)), by simp, by have := HP1.out; have := HP12.out; omega, by rw [hX]; exact HQ12.out.below (bel _ _)⟩
          go_wp2
          go_ret
          exact HRES.out _ rfl
        · have d1 : (x2 == 116) = false := by simpa using kx
          go_wp2
          go_roundw
          case rel => exact ⟨8, rfl, by omega, by omega, by first | rfl | trivial⟩
          case measure => simp [RowKit.intOf]
      · skip
        by_cases ku : x2 = 117
        · subst ku
          obtain ⟨q13, hq13⟩ : ∃ qz, q1 + 1 = qz := ⟨_, rfl⟩
          have e1_13 : (q1 : Int) + 1 = (q13 : Int) := by omega
          have g13 : (q1 : Int) ≤ 1000000 := by have := HL.out; have := HQ3.out.le; omega
          have HP13 := hide hq13
          clear hq13
          have HQ13 := hide (HQ3.out.step (q := q13) (by have := HP13.out; omega) (by have := HP13.out; have := LT2.out; omega))
          go_wp2_with fail
          refine (hex_any w (w3.setCell ⟨R, 1, none⟩ (.int .i64 (q13 : Int))) R q13 d 0 b2 ao cap T HQ13.out).mono ?_
          rintro r W14 ⟨low, ⟨rfl, l1, l2⟩, q14, d14, e14, b14, hpq, hq, hee⟩
          have HQ14 := hide hq
          have HP14 := hide hpq
          have HE14 := hide hee
          clear hq hpq hee
          have c3_14 : W14.cell? ⟨R, 3, none⟩ = some (.int .i64 e14) := HQ14.out.rq.cell 3
          have lR_14 : R < W14.heap.size := HQ14.out.rq.lt
          by_cases hz : e14 = 0
          · subst hz
            by_cases k1 : low ≥ 55296
            · by_cases k2 : low ≤ 56319
              · skip
                go_wp2_with fail
                refine (second_any w W14 R q14 d14 0 b14 (p : Int) low ⟨k1, k2⟩ ao cap T HQ14.out).mono ?_
                rintro r W51 ⟨big, q51, d51, e51, b51, rfl, hpq, hq, hee, hbig⟩
                have HQ51 := hide hq
                have HP51 := hide hpq
                have HBG := hide hbig
                clear hq hpq hee hbig
                have c3_51 : W51.cell? ⟨R, 3, none⟩ = some (.int .i64 e51) := HQ51.out.rq.cell 3
                have lR_51 : R < W51.heap.size := HQ51.out.rq.lt
                by_cases hy : e51 = 0
                · subst hy
                  have hb9 := HBG.out rfl
                  obtain ⟨hb7, hb8⟩ := hb9
                  go_wp2_with fail
                  obtain ⟨nn, hnn⟩ : ∃ nn : Nat, (nn : Int) = big := ⟨big.toNat, by omega⟩
                  subst hnn
                  have hl : isLet (nn : Int) := ⟨by omega, by omega, by omega⟩
                  refine (rencode_calls W51 nn hl).mono ?_
                  rintro r W90 ⟨v, rfl, hby, hb⟩
                  have HR90 : Hid (EscR T w R ao cap p (.returned v) W90) := ⟨v, encL nn, q51, d51, 0, b51, rfl, hby, encL_len nn, by have := HP1.out; have := HP13.out; have := HP14.out; have := HP51.out; omega, HQ51.out.below hb⟩
                  clear hby hb hl
                  skip
                  go_wp2
                  go_ret
                  exact HR90.out
                · have dy : (e51 != 0) = true := by simpa using hy
                  clear hy
                  go_wp2
                  go_ret
                  exact ⟨_, [], q51, d51, e51, b51, rfl, byts_nil _, by simp, by have := HP1.out; have := HP13.out; have := HP14.out; have := HP51.out; omega, HQ51.out⟩
              · skip
                go_wp2_with fail
                obtain ⟨nn, hnn⟩ : ∃ nn : Nat, (nn : Int) = low := ⟨low.toNat, by omega⟩
                subst hnn
                by_cases hl : isLet (nn : Int)
                · skip
                  refine (rencode_calls W14 nn hl).mono ?_
                  rintro r W90 ⟨v, rfl, hby, hb⟩
                  have HR90 : Hid (EscR T w R ao cap p (.returned v) W90) := ⟨v, encL nn, q14, d14, 0, b14, rfl, hby, encL_len nn, by have := HP1.out; have := HP13.out; have := HP14.out; omega, HQ14.out.below hb⟩
                  clear hby hb hl
                  skip
                  go_wp2
                  go_ret
                  exact HR90.out
                · skip
                  refine (rencode_bad W14 nn hl).mono ?_
                  rintro r W91 ⟨rfl, hw⟩
                  rw [hw]
                  clear hw hl
                  go_wp2_with fail
                  refine (fail_q w W14 R q14 d14 0 b14 6 (p : Int) ao cap T HQ14.out (by omega)).mono ?_
                  rintro r W92 ⟨e92, b92, rfl, hq, he⟩
                  have HQ92 := hide hq
                  have HE92 := hide he
                  have dn92 : (e92 == 0) = false := by simpa using he
                  have dm92 : (e92 != 0) = true := by simpa using he
                  clear hq he
                  go_wp2
                  go_ret
                  exact ⟨_, [], q14, d14, e92, b92, rfl, byts_nil _, by simp, by have := HP1.out; have := HP13.out; have := HP14.out; omega, HQ92.out⟩
            · skip
              go_wp2_with fail
              obtain ⟨nn, hnn⟩ : ∃ nn : Nat, (nn : Int) = low := ⟨low.toNat, by omega⟩
              subst hnn
              by_cases hl : isLet (nn : Int)
              · skip
                refine (rencode_calls W14 nn hl).mono ?_
                rintro r W90 ⟨v, rfl, hby, hb⟩
                have HR90 : Hid (EscR T w R ao cap p (.returned v) W90) := ⟨v, encL nn, q14, d14, 0, b14, rfl, hby, encL_len nn, by have := HP1.out; have := HP13.out; have := HP14.out; omega, HQ14.out.below hb⟩
                clear hby hb hl
                skip
                go_wp2
                go_ret
                exact HR90.out
              · skip
                refine (rencode_bad W14 nn hl).mono ?_
                rintro r W91 ⟨rfl, hw⟩
                rw [hw]
                clear hw hl
                go_wp2_with fail
                refine (fail_q w W14 R q14 d14 0 b14 6 (p : Int) ao cap T HQ14.out (by omega)).mono ?_
                rintro r W92 ⟨e92, b92, rfl, hq, he⟩
                have HQ92 := hide hq
                have HE92 := hide he
                have dn92 : (e92 == 0) = false := by simpa using he
                have dm92 : (e92 != 0) = true := by simpa using he
                clear hq he
                go_wp2
                go_ret
                exact ⟨_, [], q14, d14, e92, b92, rfl, byts_nil _, by simp, by have := HP1.out; have := HP13.out; have := HP14.out; omega, HQ92.out⟩
          · have dy : (e14 == 0) = false := by simpa using hz
            have dx : (e14 != 0) = true := by simpa using hz
            clear hz
            go_wp2
            go_ret
            exact ⟨_, [], q14, d14, e14, b14, rfl, byts_nil _, by simp, by have := HP1.out; have := HP13.out; have := HP14.out; omega, HQ14.out⟩
        · have d1 : (x2 != 117) = true := by simpa using ku
          go_wp2_with fail
          refine (fail_q w w3 R q1 d 0 b2 6 (q1 : Int) ao cap T HQ3.out (by omega)).mono ?_
          rintro r W61 ⟨e61, b61, rfl, hq, he⟩
          have HQ61 := hide hq
          have HE61 := hide he
          have dn61 : (e61 == 0) = false := by simpa using he
          have dm61 : (e61 != 0) = true := by simpa using he
          clear hq he
          go_wp2
          go_ret
          exact ⟨_, [], q1, d, e61, b61, rfl, byts_nil _, by simp, by have := HP1.out; omega, HQ61.out⟩
  · have dz : (e2 != 0) = true := by simpa using he
    clear he HX2
    go_wp2
    go_ret
    exact ⟨_, [], q1, d, e2, b2, rfl, byts_nil _, by simp, by have := HP1.out; omega, HQ2.out⟩

end Go.Proofs.YtbdpmpepmjpadaaGreatDoor

namespace Go.Proofs.YtbdpmpepmjpadaaGreatDoor
set_option linter.unusedVariables false
set_option linter.unusedSimpArgs false
set_option maxRecDepth 100000
open Go Go.RowKit Go.Shelf Go.Lib

/-- Is it unbroken yet? -/
def rdE (W : World) (R : Nat) : Nat := match W.cell? ⟨R, 3, none⟩ with
  | some (.int _ i) => if i = 0 then 1 else 0
  | _ => 0
theorem RQ.err {w : World} {R p : Nat} {sv : Value} {d e b : Int} (h : RQ w R sv p d e b) : rdE w R = if e = 0 then 1 else 0 := by
  unfold rdE
  have c1 : w.cell? ⟨R, 3, none⟩ = some (.int .i64 e) := BoxC.cell h 3
  rw [c1]
/-- A text under way. -/
def TxtR (T : List Nat) (W : World) (R : Nat) (ao : Option Addr) (cap p : Nat) (e : Int) (ov : Value) (wr : World) : Prop :=
  ∃ (S : List Nat) (q : Nat) (d' e' b' : Int), OwnB W.heap.size wr ov S ∧ (∀ x ∈ S, x < 256) ∧ S.length ≤ 4 * q ∧ p ≤ q ∧ (e ≠ 0 → e' ≠ 0) ∧ QS T W wr R ao cap q d' e' b'
theorem byts_256 {W : World} {v : Value} {S : List Nat} (h : Byts W v S) : ∀ x ∈ S, x < 256 := by
  obtain ⟨_, _, _, h, _⟩ := h
  exact h
theorem own_off {n₀ R : Nat} {w : World} {v : Value} {S : List Nat} (h : OwnB n₀ w v S) (hR : R < n₀) : v.ownBlock ≠ some R := fun e => by
  have := (h.lt R e).1
  omega
/-- Behind an append to one's own row. -/
theorem QS.grown {T : List Nat} {W w w5 : World} {R : Nat} {ao : Option Addr} {cap q : Nat} {d e b : Int} {ov : Value} {S : List Nat} (h0 : R < W.heap.size) (hTx : TxJ W R ao cap T) (h : QS T W w R ao cap q d e b) (ho : OwnB W.heap.size w ov S) (hg : w.grownBy w5 ov.ownBlock) : QS T W w5 R ao cap q d e b := by
  have hrow : RowTo W none ov.ownBlock := by
    cases hob : ov.ownBlock with
    | none => exact .inl rfl
    | some j => exact .inr (.inr ⟨j, rfl, (ho.lt j hob).1⟩)
  have hf := h.fr.trans (Fr.grown hg) hrow
  exact ⟨BoxC.kept h.rq hg (fun q => own_off ho h0 q.symm), hTx.fr hf, hf, h.le, h.db⟩

set_option maxHeartbeats 16000000 in
theorem text_any (w W : World) (R p : Nat) (d e b : Int) (ao : Option Addr) (cap : Nat) (T : List Nat) (h : QS T w W R ao cap p d e b) :
    Calls Tryz.prog 59 #[.pointer (some ⟨R, 0, none⟩)] W fun r w' => ∃ s : ByteArray, (r = .returned (.string s) ∧ s.size ≤ 4 * T.length) ∧ QM T w R ao cap p e w' := by
  have HL := hide h.tx.len
  have HQE := hide h
  have HTX := hide h.tx
  have HRW := hide h.rq.lt
  have HQ0 := hide (h.self (Below.refl _ _))
  clear h
  have HFIN : Hid (∀ (s : ByteArray) (wr : World) (q : Nat) (d' e' b' : Int), s.size ≤ 4 * T.length → p ≤ q → (e ≠ 0 → e' ≠ 0) → QS T W wr R ao cap q d' e' b' → ∃ s' : ByteArray, (Ending.returned (.string s) = .returned (.string s') ∧ s'.size ≤ 4 * T.length) ∧ QM T w R ao cap p e wr) := fun s wr q d' e' b' h1 h2 h3 h4 => ⟨s, ⟨rfl, h1⟩, q, d', e', b', h2, HQE.out.go h4.rq h4.fr h4.le h4.db, h3⟩
  go_enter Tryz.func59, Tryz.ntmps59
  go_wp2_with fail
  refine (must_any W W R p d e b 34 ao cap T HQ0.out).mono ?_
  rintro r W1 ⟨rfl, q1, d1, e1, b1, hpq, hq, hee⟩
  have HQ1 := hide hq
  have HP1 := hide hpq
  have HE1 := hide hee
  clear hq hpq hee
  have HI : Hid (TxtR T W R ao cap p e (.slice none 0 0) W1) := ⟨[], q1, d1, e1, b1, World.ownsRow_nil _ _ _ _, by simp, by simp, HP1.out, HE1.out, HQ1.out⟩
  clear HQ1 HP1 HE1
  go_wp2
  go_loopw [3] (fun ov wr => TxtR T W R ao cap p e ov wr) (fun _ wr => 2 * (T.length - rdAt wr R) + rdE wr R)
  case atStart => exact HI.out
  case round =>
    obtain ⟨S, q, d0, e0, b0, hown, hsm, hsl, hpq, hee, hs⟩ := hrel
    obtain ⟨va, vn, vc, rfl⟩ := hown.slice
    have HO := hide hown
    have HSM := hide hsm
    have HSL := hide hsl
    have HPQ := hide hpq
    have HEE := hide hee
    have HS := hide hs
    have HAT := hide hs.rq.at
    have HER := hide hs.rq.err
    clear HI hown hsm hsl hpq hee hs
    have c3_20 : wr.cell? ⟨R, 3, none⟩ = some (.int .i64 e0) := HS.out.rq.cell 3
    have lR_20 : R < wr.heap.size := HS.out.rq.lt
    by_cases hz : e0 = 0
    · subst hz
      have HER1 : Hid (rdE wr R = 1) := hide (by have h := HER.out; simpa using h)
      clear HER
      have E0 : Hid (e = 0) := hide (Decidable.byContradiction fun h => HEE.out h rfl)
      go_wp2_with fail
      refine (peek_q wr wr R q d0 0 b0 ao cap T (HS.out.self (Below.refl _ _))).mono ?_
      rintro r W21 ⟨x21, e21, b21, rfl, hq, h1_21, h2_21, hx⟩
      have HQ21 := hide (HS.out.go hq.rq hq.fr hq.le hq.db)
      have HO21 : Hid (OwnB W.heap.size W21 (.slice va vn vc) S) := hide (HO.out.fr hq.fr (own_off HO.out HRW.out) (by cases (Value.slice va vn vc).ownBlock <;> simp))
      have HX21 := hide hx
      clear hq hx
      have c1_21 : W21.cell? ⟨R, 1, none⟩ = some (.int .i64 (q : Int)) := HQ21.out.rq.cell 1
      have c3_21 : W21.cell? ⟨R, 3, none⟩ = some (.int .i64 e21) := HQ21.out.rq.cell 3
      have f1_21 : W21.frozen? ⟨R, 1, none⟩ = false := HQ21.out.rq.frozen 1
      have lR_21 : R < W21.heap.size := HQ21.out.rq.lt
      skip
      by_cases he : e21 = 0
      · subst he
        have LT : Hid (q < T.length) := by
          rcases HX21.out with h | h
          · exact absurd rfl h.2
          · exact hide h.2.2.1
        have X0 : 0 ≤ x21 := by
          rcases HX21.out with h | h
          · exact absurd rfl h.2
          · exact h.2.2.2
        clear HX21
        by_cases k1 : x21 = 34
        · subst k1
          obtain ⟨ao2, cap2, e2, hby, _⟩ := own_byts HSM.out HO21.out
          cases e2
          obtain ⟨q22, hq22⟩ : ∃ qz, q + 1 = qz := ⟨_, rfl⟩
          have e1_22 : (q : Int) + 1 = (q22 : Int) := by omega
          have g22 : (q : Int) ≤ 1000000 := by have := HL.out; have := HQ21.out.le; omega
          have HP22 := hide hq22
          clear hq22
          have HQ22 := hide (HQ21.out.step (q := q22) (by have := HP22.out; omega) (by have := HP22.out; have := LT.out; omega))
          skip
          have hO2 : OwnB W.heap.size (W21.setCell ⟨R, 1, none⟩ (.int .i64 (q22 : Int))) (.slice va S.length vc) S := HO21.out.fr ((Fr.refl R none W21).set 1 _) (own_off HO21.out HRW.out) (by cases (Value.slice va S.length vc).ownBlock <;> simp)
          clear hby
          obtain ⟨ao3, cap3, e3, hby, _⟩ := own_byts HSM.out hO2
          cases e3
          have hcv := conv_byts hby
          clear hby hO2
          go_wp2
          go_ret
          exact HFIN.out _ _ q22 _ _ _ (by have := HSL.out; have := LT.out; simp only [strOf, ByteArray.size, List.size_toArray, List.length_map]; omega) (by have := HPQ.out; have := HP22.out; omega) (fun h => absurd E0.out h) HQ22.out
        · have d34 : (x21 == 34) = false := by simpa using k1
          by_cases k2 : x21 < 32
          · skip
            go_wp2_with fail
            refine (fail_q W21 W21 R q d0 0 b21 6 (q : Int) ao cap T (HQ21.out.self (Below.refl _ _)) (by omega)).mono ?_
            rintro r W22 ⟨e22, b22, rfl, hq, he⟩
            have HREL : Hid (TxtR T W R ao cap p e (.slice va vn vc) W22) := ⟨S, q, d0, e22, b22, HO21.out.fr hq.fr (own_off HO21.out HRW.out) (by cases (Value.slice va vn vc).ownBlock <;> simp), HSM.out, HSL.out, HPQ.out, fun _ => he, HQ21.out.go hq.rq hq.fr hq.le hq.db⟩
            have HM : Hid (rdAt W22 R = q ∧ rdE W22 R = 0) := hide ⟨hq.rq.at, by rw [hq.rq.err, if_neg he]⟩
            clear hq he
            go_wp2
            go_roundw
            case rel => exact HREL.out
            case measure => rw [HM.out.1, HM.out.2, HAT.out, HER1.out]; omega
          · by_cases k3 : x21 = 92
            · subst k3
              go_wp2_with fail
              refine (escape_any W21 W21 R q d0 b21 ao cap T (HQ21.out.self (Below.refl _ _)) LT.out).mono ?_
              rintro r w5 ⟨xv, xs, q5, d5, e5, b5, rfl, hby, hxl, hq5, hq⟩
              have HO5 : Hid (OwnB W.heap.size w5 (.slice va vn vc) S) := hide (HO21.out.fr hq.fr (own_off HO21.out HRW.out) (by cases (Value.slice va vn vc).ownBlock <;> simp))
              have HQ5 := hide (HQ21.out.go hq.rq hq.fr hq.le hq.db)
              have HBY := hide hby
              have HXL := hide hxl
              have HLT5 := hide hq5
              have HSZ5 : Hid (W.heap.size ≤ w5.heap.size) := hide HQ5.out.fr.size
              clear hby hxl hq5 hq
              go_wp2_with (at_builtin; go_must (refine wpList_appA _ rfl (.tmp 40) (.tmp 42) rfl W.heap.size (.slice va vn vc) S rfl HO5.out xv xs rfl HBY.out (by have := HSL.out; have := HL.out; have := LT.out; have := HXL.out; omega) (by have := HSZ5.out; omega) ?_; intro v' w6 hown' hgrow hrow); have HOW := hide hown'; obtain ⟨av, LL, cv, hv'⟩ := hown'.slice; subst hv'; have HQ6 := hide (QS.grown HRW.out HTX.out HQ5.out HO5.out hgrow); have c16 : w6.cell? ⟨R, 1, none⟩ = some (.int .i64 (q5 : Int)) := HQ6.out.rq.cell 1; have f16 : w6.frozen? ⟨R, 1, none⟩ = false := HQ6.out.rq.frozen 1; have l6 : R < w6.heap.size := HQ6.out.rq.lt; clear hown' hgrow hrow)
              go_roundw
              case rel => exact ⟨_, q5, _, _, _, HOW.out, fun x hx => by (rcases List.mem_append.1 hx with h | h; exact HSM.out x h; exact byts_256 HBY.out x h), by have := HSL.out; have := HXL.out; have := HLT5.out; rw [List.length_append]; omega, by have := HPQ.out; have := HLT5.out; omega, fun h => absurd E0.out h, HQ6.out⟩
              case measure => rw [HQ6.out.rq.at, HQ6.out.rq.err, HAT.out, HER1.out]; have := HLT5.out; have := LT.out; split <;> omega
            · have d92 : (x21 == 92) = false := by simpa using k3
              obtain ⟨c, rfl⟩ : ∃ c : Nat, x21 = (c : Int) := ⟨x21.toNat, by omega⟩
              have c256 : c < 256 := by omega
              have hwu : IntKind.u8.wrap (c : Int) = (c : Int) := by rw [wrapu8]; omega
              have hmod : (c : Int) % 256 = (c : Int) := by omega
              have hb5 := bel W21 (.cells #[.int .u8 (c : Int)] 5)
              have HO5 := hide (HO21.out.below hb5)
              have HQ5 := hide (HQ21.out.below hb5)
              have HBY : Hid (Byts (W21.alloc (.cells #[.int .u8 (c : Int)] 5)) (.slice (some ⟨W21.heap.size, 0, none⟩) 1 1) [c]) := byts_lit W21 [c] (by simpa using c256) (0, 0)
              have HXL : Hid ([c].length ≤ 4) := hide (by simp)
              have HSZ5 : Hid (W.heap.size ≤ (W21.alloc (.cells #[.int .u8 (c : Int)] 5)).heap.size) := hide HQ5.out.fr.size
              clear hb5
              obtain ⟨q5, hq5⟩ : ∃ q5, q + 1 = q5 := ⟨_, rfl⟩
              have e15 : (q : Int) + 1 = (q5 : Int) := by omega
              have g15 : (q : Int) ≤ 1000000 := by have := HL.out; have := LT.out; omega
              have HLT5 := hide hq5
              clear hq5
              go_wp2_with (at_builtin; go_must (refine wpList_appA _ rfl (.tmp 44) (.tmp 47) rfl W.heap.size (.slice va vn vc) S rfl HO5.out _ [c] rfl HBY.out (by have := HSL.out; have := HL.out; have := LT.out; have := HXL.out; omega) (by have := HSZ5.out; omega) ?_; intro v' w6 hown' hgrow hrow); have HOW := hide hown'; obtain ⟨av, LL, cv, hv'⟩ := hown'.slice; subst hv'; have HQ6 := hide (QS.grown HRW.out HTX.out HQ5.out HO5.out hgrow); have c16 : w6.cell? ⟨R, 1, none⟩ = some (.int .i64 (q : Int)) := HQ6.out.rq.cell 1; have f16 : w6.frozen? ⟨R, 1, none⟩ = false := HQ6.out.rq.frozen 1; have l6 : R < w6.heap.size := HQ6.out.rq.lt; clear hown' hgrow hrow)
              have HQ7 := hide (HQ6.out.step (q := q5) (by have := HLT5.out; omega) (by have := HLT5.out; have := LT.out; omega))
              go_roundw
              case rel => exact ⟨S ++ [c], q5, _, _, _, HOW.out.fr ((Fr.refl R none w6).set 1 _) (own_off HOW.out HRW.out) (by cases (Value.slice av LL cv).ownBlock <;> simp), fun x hx => by (rcases List.mem_append.1 hx with h | h; exact HSM.out x h; exact byts_256 HBY.out x h), by have := HSL.out; have := HLT5.out; rw [List.length_append, List.length_singleton]; omega, by have := HPQ.out; have := HLT5.out; omega, fun h => absurd E0.out h, HQ7.out⟩
              case measure => rw [HQ7.out.rq.at, HQ7.out.rq.err, HAT.out, HER1.out]; have := HLT5.out; have := LT.out; split <;> omega
      · have dm : (e21 != 0) = true := by simpa using he
        have HZ := hide he
        clear he HX21
        go_wp2
        go_ret
        exact HFIN.out _ _ q _ _ _ (Nat.zero_le _) HPQ.out (fun _ => HZ.out) HQ21.out
    · have dz : (e0 == 0) = false := by simpa using hz
      have HZ := hide hz
      clear hz
      go_wp2
      go_ret
      exact HFIN.out _ _ q _ _ _ (Nat.zero_le _) HPQ.out (fun _ => HZ.out) HS.out

end Go.Proofs.YtbdpmpepmjpadaaGreatDoor

namespace Go.Proofs.YtbdpmpepmjpadaaGreatDoor
set_option linter.unusedVariables false
set_option linter.unusedSimpArgs false
set_option maxRecDepth 100000
open Go Go.RowKit Go.Shelf Go.Lib

/-- Appending a value to one's own, where nothing draws. -/
theorem wpList_appQ (w : World) {ops : Array Oper} {rest : List Oper} {o : Oper} {a : Act} {Q : Exit → Act → World → Prop} (hg : o.guard = none) (s x : Operand)
    (ho : o.op = .call { callee := .builtin .append, args := #[s, x], argTypes := #[34, 34] })
    (n₀ : Nat) (v : Value) (M : List JC) (hs : a.eval s = v) (hown : OwnQ n₀ w v M) (b c : Nat) (y : JC) (hx : a.eval x = .slice (some ⟨b, 0, none⟩) 1 c) (hl : BoxC w b 36 (vcell y).toArray) (h1 : y.2.2.1.oneCell' = true ∧ y.2.2.2.oneCell' = true) (hsum : M.length ≤ 1000000000) (hbase : n₀ ≤ w.heap.size)
    (h : ∀ v' w', OwnQ n₀ w' v' (M ++ [y]) → w.grownBy w' v.ownBlock → (v'.ownBlock = v.ownBlock ∨ v'.ownBlock = some w.heap.size) → wpList Tryz.prog ops Q rest (a.put o.dst v') w') : wpList Tryz.prog ops Q (o :: rest) a w :=
  wpList_plain hg fun K hK => wp_appQ w s x ho n₀ v M hs hown b c y hx hl h1 hsum hbase fun v' w' h1 h2 h3 => hK _ _ (h v' w' h1 h2 h3)
theorem tin_form {W : World} {S : Nat → Prop} {x : JC} {Tr : JT} (h : TIn W S x Tr) : ∃ k s a1 n1 c1 a2 n2 c2, x = (k, s, .slice a1 n1 c1, .slice a2 n2 c2) := by
  cases h with
  | mk k s kv la lc K L xs hK hc hsl ht =>
    obtain ⟨ao, cap, rfl, _⟩ := hK
    exact ⟨k, s, _, _, _, _, _, _, rfl⟩
/-- The trees of a row of values, in blocks of which S holds. -/
def TreesQ (T : List Nat) (S : Nat → Prop) (wr : World) (M : List JC) (Ts : List JT) : Prop :=
  Ts.length = M.length ∧ ∀ (i : Nat) (x : JC), M[i]? = some x → ∃ Tr, Ts[i]? = some Tr ∧ TIn wr S x Tr ∧ SzT T.length Tr
theorem TreesQ.keep {T : List Nat} {S S' : Nat → Prop} {wr wr' : World} {M : List JC} {Ts : List JT} (h : TreesQ T S wr M Ts) (hb : ∀ b, S b → b < wr.heap.size → S' b ∧ wr'.heap[b]? = wr.heap[b]?) : TreesQ T S' wr' M Ts :=
  ⟨h.1, fun i x hx => by
    obtain ⟨Tr, h1, h2, h3⟩ := h.2 i x hx
    exact ⟨Tr, h1, h2.keep hb, h3⟩⟩
theorem TreesQ.snoc {T : List Nat} {S : Nat → Prop} {wr : World} {M : List JC} {Ts : List JT} {x : JC} {Tr : JT} (h : TreesQ T S wr M Ts) (ht : TIn wr S x Tr) (hz : SzT T.length Tr) : TreesQ T S wr (M ++ [x]) (Ts ++ [Tr]) := by
  refine ⟨by simp [h.1], fun i y hy => ?_⟩
  by_cases hi : i < M.length
  · rw [List.getElem?_append_left hi] at hy
    obtain ⟨Tr', h1, h2⟩ := h.2 i y hy
    exact ⟨Tr', by rw [List.getElem?_append_left (by rw [h.1]; exact hi)]; exact h1, h2⟩
  · have hl : i < (M ++ [x]).length := (List.getElem?_eq_some_iff.1 hy).1
    have : i = M.length := by simp at hl; omega
    subst this
    simp at hy
    subst hy
    exact ⟨Tr, by rw [← h.1]; simp, ht, hz⟩
theorem OwnQ.fr {n₀ R : Nat} {w w' : World} {v : Value} {M : List JC} (h : OwnQ n₀ w v M) (k : Fr R none w w') (hR : R < n₀) : OwnQ n₀ w' v M := h.keep fun j e => by
  have := h.lt j e
  exact k.block this.2 (by omega) (by simp)
/-- A list that grows: its value's tree. -/
theorem tin_list {W : World} {n n₀ : Nat} {T : List Nat} {lv : Value} {M : List JC} {Ts : List JT} (k : Int) (s : ByteArray) (kv : Value) (K : List ByteArray) (hK : StrsS W (fun b => n ≤ b) kv K) (ho : OwnQ n₀ W lv M) (hn : n ≤ n₀) (ht : TreesQ T (fun b => n ≤ b) W M Ts) : ∃ a c, lv = .slice a M.length c ∧ TIn W (fun b => n ≤ b) (k, s, kv, lv) (.mk k s K Ts) := by
  obtain ⟨a, c, rfl, hle⟩ := ho.len
  refine ⟨a, c, rfl, ?_⟩
  have key : TIn W (fun b => n ≤ b) (k, s, kv, .slice a Ts.length c) (.mk k s K Ts) := by
    refine .mk k s kv a c K Ts (fun i => (M[i]?).getD (0, ⟨#[]⟩, .slice none 0 0, .slice none 0 0)) hK (fun i hi => ?_) (fun i hi => ?_) (fun i hi => ?_)
    · obtain ⟨y, hm⟩ : ∃ y, M[i]? = some y := ⟨_, List.getElem?_eq_getElem (by rw [← ht.1]; exact hi)⟩
      obtain ⟨g, e, hc⟩ := ho.cell hm
      refine ⟨g, 0, e, ?_, fun r hr => ?_⟩
      · have := ho.lt g (by rw [e]; rfl)
        show n ≤ g
        omega
      · rw [Nat.zero_add, hc r hr, hm]
        rfl
    · obtain ⟨y, hm⟩ : ∃ y, M[i]? = some y := ⟨_, List.getElem?_eq_getElem (by rw [← ht.1]; exact hi)⟩
      obtain ⟨Tr, _, h2, _⟩ := ht.2 i _ hm
      obtain ⟨k, s, a1, n1, c1, a2, n2, c2, e⟩ := tin_form h2
      rw [hm, Option.getD_some, e]
      exact ⟨⟨_, _, _, rfl⟩, ⟨_, _, _, rfl⟩⟩
    · obtain ⟨y, hm⟩ : ∃ y, M[i]? = some y := ⟨_, List.getElem?_eq_getElem (by rw [← ht.1]; exact hi)⟩
      obtain ⟨Tr, h1, h2, _⟩ := ht.2 i _ hm
      rw [hm, Option.getD_some]
      have e : Ts[i] = Tr := by
        have := List.getElem?_eq_getElem hi
        rw [h1] at this
        exact (Option.some.inj this).symm
      rw [e]
      exact h2
  rw [ht.1] at key
  exact key
theorem sz_list {T : List Nat} {S : Nat → Prop} {W : World} {M : List JC} {Ts : List JT} (k : Int) (K : List ByteArray) (hK : K.length ≤ T.length) (hM : M.length ≤ T.length) (ht : TreesQ T S W M Ts) : SzT T.length (.mk k ⟨#[]⟩ K Ts) := by
  refine .mk k _ K Ts hK (by rw [ht.1]; exact hM) (Nat.zero_le _) (fun i hi => ?_)
  obtain ⟨y, hm⟩ : ∃ y, M[i]? = some y := ⟨_, List.getElem?_eq_getElem (by rw [← ht.1]; exact hi)⟩
  obtain ⟨Tr, h1, _, h3⟩ := ht.2 i _ hm
  have e : Ts[i] = Tr := by
    have := List.getElem?_eq_getElem hi
    rw [h1] at this
    exact (Option.some.inj this).symm
  rw [e]
  exact h3

/-- Behind a store into a box of one's own. -/
theorem QS.put {T : List Nat} {W w : World} {R B : Nat} {ao : Option Addr} {cap q : Nat} {d e b : Int} (hTx : TxJ W R ao cap T) (h : QS T W w R ao cap q d e b) (hR : R ≠ B) (hB : W.heap.size ≤ B) (i : Nat) (x : Value) : QS T W (w.setCell ⟨B, i, none⟩ x) R ao cap q d e b := by
  have hf := h.fr.setNew hB i x
  exact ⟨BoxC.other h.rq hR i x, hTx.fr hf, hf, h.le, h.db⟩
theorem QS.grownQ {T : List Nat} {W w w5 : World} {R n₀ : Nat} {ao : Option Addr} {cap q : Nat} {d e b : Int} {ov : Value} {M : List JC} (h0 : R < W.heap.size) (hn : W.heap.size ≤ n₀) (hTx : TxJ W R ao cap T) (h : QS T W w R ao cap q d e b) (ho : OwnQ n₀ w ov M) (hg : w.grownBy w5 ov.ownBlock) : QS T W w5 R ao cap q d e b := by
  have hrow : RowTo W none ov.ownBlock := by
    cases hob : ov.ownBlock with
    | none => exact .inl rfl
    | some j => exact .inr (.inr ⟨j, rfl, Nat.le_trans hn (ho.lt j hob).1⟩)
  have hf := h.fr.trans (Fr.grown hg) hrow
  exact ⟨BoxC.kept h.rq hg (fun q => ho.off (show R < n₀ by omega) q.symm), hTx.fr hf, hf, h.le, h.db⟩
def bN : Value → Nat
  | .bool true => 1
  | _ => 0
/-- An array under way: A its result's box, A + 1 its own. -/
structure ArrQ (T : List Nat) (W : World) (R : Nat) (ao : Option Addr) (cap p : Nat) (m : Bool) (M : List JC) (Ts : List JT) (lv : Value) (q : Nat) (d e b : Int) (wr : World) : Prop where
  res : BoxC wr W.heap.size 36 #[.int .i64 0, .string ⟨#[]⟩, .slice none 0 0, .slice none 0 0]
  box : BoxC wr (W.heap.size + 1) 36 #[.int .i64 5, .string ⟨#[]⟩, .slice none 0 0, lv]
  own : OwnQ (W.heap.size + 2) wr lv M
  trees : TreesQ T (fun k => W.heap.size + 2 ≤ k ∧ lv.ownBlock ≠ some k) wr M Ts
  len : M.length ≤ q
  more : m = true → M.length < q
  far : p < q
  qs : QS T W wr R ao cap q d e b
  big : W.heap.size + 2 ≤ wr.heap.size

end Go.Proofs.YtbdpmpepmjpadaaGreatDoor

namespace Go.Proofs.YtbdpmpepmjpadaaGreatDoor
set_option linter.unusedVariables false
set_option linter.unusedSimpArgs false
set_option maxRecDepth 100000
open Go Go.RowKit Go.Shelf Go.Lib

theorem heap4 {w : World} {A b : Nat} (h : b ≠ A) (x y z u : Value) : ((((w.setCell ⟨A, 0, none⟩ x).setCell ⟨A, 1, none⟩ y).setCell ⟨A, 2, none⟩ z).setCell ⟨A, 3, none⟩ u).heap[b]? = w.heap[b]? :=
  (heap_setCell_other _ ⟨A, 3, none⟩ b u h).trans ((heap_setCell_other _ ⟨A, 2, none⟩ b z h).trans ((heap_setCell_other _ ⟨A, 1, none⟩ b y h).trans (heap_setCell_other _ ⟨A, 0, none⟩ b x h)))
/-- Behind a value that was read: all that the array keeps. -/
theorem ArrQ.read {T : List Nat} {W wr w4 : World} {R : Nat} {ao : Option Addr} {cap p q q4 : Nat} {m : Bool} {M : List JC} {Ts : List JT} {lv : Value} {d e b d4 e4 b4 : Int} (h : ArrQ T W R ao cap p m M Ts lv q d e b wr) (hR : R < W.heap.size) (hs : QS T wr w4 R ao cap q4 d4 e4 b4) (hq : q ≤ q4) (m' : Bool) (hm : m' = true → M.length < q4) : ArrQ T W R ao cap p m' M Ts lv q4 d4 e4 b4 w4 :=
  ⟨h.res.fr hs.fr (by omega) (by simp), h.box.fr hs.fr (by omega) (by simp), h.own.fr hs.fr (by omega), h.trees.keep fun b hb hlt => ⟨hb, hs.fr.block hlt (by have := hb.1; omega) (by simp)⟩, Nat.le_trans h.len hq, hm, Nat.lt_of_lt_of_le h.far hq, h.qs.go hs.rq hs.fr hs.le hs.db, Nat.le_trans h.big hs.fr.size⟩
theorem ArrQ.below {T : List Nat} {W wr w4 : World} {R : Nat} {ao : Option Addr} {cap p q : Nat} {m : Bool} {M : List JC} {Ts : List JT} {lv : Value} {d e b : Int} (h : ArrQ T W R ao cap p m M Ts lv q d e b wr) (hR : R < W.heap.size) (hb : Below wr.heap.size wr w4) : ArrQ T W R ao cap p m M Ts lv q d e b w4 :=
  h.read hR ⟨h.qs.rq.below hb, h.qs.tx.fr (Fr.of hb), Fr.of hb, h.qs.le, h.qs.db⟩ (Nat.le_refl _) m h.more
/-- Behind an append, and the store of what it left. -/
theorem ArrQ.app {T : List Nat} {W w6 w7 : World} {R : Nat} {ao : Option Addr} {cap p q : Nat} {m : Bool} {M : List JC} {Ts : List JT} {lv v' : Value} {x : JC} {Tr : JT} {d e b : Int} (h : ArrQ T W R ao cap p m M Ts lv q d e b w6) (hR : R < W.heap.size) (hTx : TxJ W R ao cap T) (ht : TIn w6 (fun k => W.heap.size + 2 ≤ k ∧ lv.ownBlock ≠ some k) x Tr) (hz : SzT T.length Tr) (hml : M.length < q)
    (ho : OwnQ (W.heap.size + 2) w7 v' (M ++ [x])) (hg : w6.grownBy w7 lv.ownBlock) (hrow : v'.ownBlock = lv.ownBlock ∨ v'.ownBlock = some w6.heap.size) : ArrQ T W R ao cap p false (M ++ [x]) (Ts ++ [Tr]) v' q d e b (w7.setCell ⟨W.heap.size + 1, 3, none⟩ v') := by
  have hb7 := BoxC.kept h.box hg (fun e => (h.own.off (show W.heap.size + 1 < W.heap.size + 2 by omega)) e.symm)
  have hr7 := BoxC.kept h.res hg (fun e => (h.own.off (show W.heap.size < W.heap.size + 2 by omega)) e.symm)
  have hq7 := QS.grownQ hR (by omega) hTx h.qs h.own hg
  have ht6 := h.trees.snoc ht hz
  have ht7 : TreesQ T (fun k => W.heap.size + 2 ≤ k ∧ v'.ownBlock ≠ some k) w7 (M ++ [x]) (Ts ++ [Tr]) := ht6.keep fun b hb hlt => by
    refine ⟨⟨hb.1, fun e => ?_⟩, hg.block b hlt (fun e => hb.2 e.symm)⟩
    rcases hrow with h | h
    · exact hb.2 (h ▸ e)
    · rw [h] at e
      cases e
      omega
  refine ⟨hr7.other (by omega) 3 v', hb7.set 3 v', ho.set (ho.off (by omega)), ht7.keep fun b hb hlt => ⟨hb, heap_setCell_other _ ⟨W.heap.size + 1, 3, none⟩ b v' (by have := hb.1; show b ≠ W.heap.size + 1; omega)⟩, by simp; omega, (fun h => by cases h), h.far, QS.put hTx hq7 (by omega) (by omega) 3 v', ?_⟩
  have h1 := (Below.refl w7.heap.size w7)
  have := (h1.setCell (p := ⟨w7.heap.size, 0, none⟩) (Nat.le_refl _) v')
  have h3 : (w7.setCell ⟨W.heap.size + 1, 3, none⟩ v').heap.size = w7.heap.size := by simp
  rw [h3]
  exact Nat.le_trans h.big hg.size
/-- What a walk over an array keeps, by its slot. -/
def ArrE (T : List Nat) (W : World) (R : Nat) (ao : Option Addr) (cap p : Nat) (mv : Value) (wr : World) : Prop :=
  ∃ (m : Bool) (M : List JC) (Ts : List JT) (lv : Value) (q : Nat) (d e b : Int), mv = .bool m ∧ ArrQ T W R ao cap p m M Ts lv q d e b wr

set_option maxHeartbeats 16000000 in
theorem array_any (w W : World) (R p : Nat) (d b : Int) (ao : Option Addr) (cap : Nat) (T : List Nat) (h : QS T w W R ao cap p d 0 b) (hlt : p < T.length) (hV : ∀ (wx : World) (qx : Nat) (dx ex bx : Int), p < qx → QS T wx wx R ao cap qx dx ex bx → Calls Tryz.prog 33 #[.pointer (some ⟨R, 0, none⟩)] wx (QV T wx R ao cap qx ex wx.heap.size)) :
    Calls Tryz.prog 58 #[.pointer (some ⟨R, 0, none⟩)] W (QV T w R ao cap p 0 W.heap.size) := by
  have HL := hide h.tx.len
  have HTX := hide h.tx
  have HRW := hide h.rq.lt
  have HQE := hide h
  have hq2 := (h.self (Below.refl _ _)).below ((bel W (.cells #[.int .i64 0, .string ⟨#[]⟩, .slice none 0 0, .slice none 0 0] 36)).alloc (by simp) (.cells #[.int .i64 5, .string ⟨#[]⟩, .slice none 0 0, .slice none 0 0] 36))
  have hA := (BoxC.new W 36 #[.int .i64 0, .string ⟨#[]⟩, .slice none 0 0, .slice none 0 0]).alloc (.cells #[.int .i64 5, .string ⟨#[]⟩, .slice none 0 0, .slice none 0 0] 36)
  have hB := BoxC.new (W.alloc (.cells #[.int .i64 0, .string ⟨#[]⟩, .slice none 0 0, .slice none 0 0] 36)) 36 #[.int .i64 5, .string ⟨#[]⟩, .slice none 0 0, .slice none 0 0]
  rw [World.size_alloc] at hB
  have hsz : ((W.alloc (.cells #[.int .i64 0, .string ⟨#[]⟩, .slice none 0 0, .slice none 0 0] 36)).alloc (.cells #[.int .i64 5, .string ⟨#[]⟩, .slice none 0 0, .slice none 0 0] 36)).heap.size = W.heap.size + 2 := by simp
  obtain ⟨w2, hw2⟩ : ∃ w2, (W.alloc (.cells #[.int .i64 0, .string ⟨#[]⟩, .slice none 0 0, .slice none 0 0] 36)).alloc (.cells #[.int .i64 5, .string ⟨#[]⟩, .slice none 0 0, .slice none 0 0] 36) = w2 := ⟨_, rfl⟩
  rw [hw2] at hq2 hA hB hsz
  have HW2 := hide hw2
  have HQ2 := hide hq2
  have HA2 := hide hA
  have HB2 := hide hB
  have HSZ := hide hsz
  have HEN := hide (enter_any w2 w2 R p d b 93 (by omega) ao cap T (hq2.self (Below.refl _ _)) hlt)
  have HV := hide hV
  clear h hlt hq2 hA hB hsz hw2 hV
  go_enter Tryz.func58, Tryz.ntmps58
  go_upto_region 2 with fail
  show Code.wp _ _ _ _ ((W.alloc (.cells #[.int .i64 0, .string ⟨#[]⟩, .slice none 0 0, .slice none 0 0] 36)).alloc (.cells #[.int .i64 5, .string ⟨#[]⟩, .slice none 0 0, .slice none 0 0] 36))
  rw [HW2.out]
  clear HW2
  go_wp2_with fail
  refine HEN.out.mono ?_
  rintro r w3 ⟨m, q, d3, e3, b3, rfl, hpq, hq, hm⟩
  have HA3 := hide (HA2.out.fr hq.fr (by have := HRW.out; omega) (by simp))
  have HB3 := hide (HB2.out.fr hq.fr (by have := HRW.out; omega) (by simp))
  have HQ3 := hide (HQ2.out.go hq.rq hq.fr hq.le hq.db)
  have HS3 : Hid (W.heap.size + 2 ≤ w3.heap.size) := hide (by have := hq.fr.size; have := HSZ.out; omega)
  have HPQ := hide hpq
  have HM := hide hm
  clear hq hpq hm HEN HA2 HB2 HQ2
  have hAB : ¬ W.heap.size = W.heap.size + 1 := by omega
  have hBA : ¬ W.heap.size + 1 = W.heap.size := by omega
  cases m
  · have HI : Hid (ArrE T W R ao cap p (.bool true) w3) := ⟨true, [], [], .slice none 0 0, q, d3, e3, b3, rfl, HA3.out, HB3.out, ownQ_nil _ _, ⟨rfl, fun i x hx => by simp at hx⟩, by simp, fun _ => by have := HM.out rfl; simp; omega, HM.out rfl, HQ3.out, HS3.out⟩
    clear HA3 HB3 HQ3 HS3 HPQ HM
    go_wp2
    go_loopw [4] (fun mv wr => ArrE T W R ao cap p mv wr) (fun mv wr => 2 * (T.length - rdAt wr R) + bN mv)
    case atStart => exact HI.out
    case round =>
      obtain ⟨m, M, Ts, lv, q, d0, e0, b0, rfl, hq⟩ := hrel
      obtain ⟨la, ln, lc, rfl⟩ := hq.own.slice
      have HS := hide hq
      have HAT := hide hq.qs.rq.at
      have c3 : wr.cell? ⟨R, 3, none⟩ = some (.int .i64 e0) := hq.qs.rq.cell 3
      have lR : R < wr.heap.size := hq.qs.rq.lt
      clear HI hq
      have HOUT : Hid (∀ (K : Act → World → Prop), True) := fun _ => trivial
      cases m
      · go_upto_region 9 with fail
        obtain ⟨la2, lc2, elv, htin⟩ := tin_list 5 ⟨#[]⟩ (.slice none 0 0) [] ⟨none, 0, rfl, fun j h => by simp at h⟩ HS.out.own (Nat.le_refl _) (HS.out.trees.keep (S' := fun k => W.heap.size + 2 ≤ k) fun b hb _ => ⟨hb.1, rfl⟩)
        have HT := hide htin
        have HSZL := hide (sz_list 5 [] (by simp) (by have := HS.out.len; have := HS.out.qs.le; omega) HS.out.trees)
        clear elv htin
        have x0 := HS.out.box.cell 0
        have x1 := HS.out.box.cell 1
        have x2 := HS.out.box.cell 2
        have x3 := HS.out.box.cell 3
        have lB := HS.out.box.lt
        have y0 := HS.out.res.frozen 0
        have y1 := HS.out.res.frozen 1
        have y2 := HS.out.res.frozen 2
        have y3 := HS.out.res.frozen 3
        have z0 := HS.out.res.cell 0
        have z1 := HS.out.res.cell 1
        have z2 := HS.out.res.cell 2
        have z3 := HS.out.res.cell 3
        have lA := HS.out.res.lt
        go_wp2
        have z := (((HS.out.res.set 0 (.int .i64 5)).set 1 (.string ⟨#[]⟩)).set 2 (.slice none 0 0)).set 3 (.slice la ln lc)
        refine bodyPost_ret (results_rv rfl rfl z) rfl ?_
        exact ⟨(5, ⟨#[]⟩, .slice none 0 0, .slice la ln lc), _, rfl, HT.out.keep (fun b hb hlt => ⟨by have := hb; omega, heap4 (by have := hb; omega) (.int .i64 5) (.string ⟨#[]⟩) (.slice none 0 0) (.slice la ln lc)⟩), HSZL.out, q, d0, e0, b0, Nat.le_of_lt HS.out.far, HQE.out.fin (Below.refl _ _) HS.out.qs (.int .i64 5) (.string ⟨#[]⟩) (.slice none 0 0) (.slice la ln lc), fun h => absurd rfl h⟩
      · by_cases hz : e0 = 0
        · subst hz
          go_wp2_with fail
          refine (HV.out wr q d0 0 b0 HS.out.far (HS.out.qs.self (Below.refl _ _))).mono ?_
          rintro r w4 ⟨x, Tr, rfl, ht, hsz, q4, d4, e4, b4, hq4, hs4, he4⟩
          obtain ⟨k, s, a1, n1, c1, a2, n2, c2, rfl⟩ := tin_form ht
          simp only [vagg]
          have HR4 := hide (HS.out.read HRW.out hs4 hq4 true (fun _ => Nat.lt_of_lt_of_le (HS.out.more rfl) hq4))
          have HT4 : Hid (TIn w4 (fun k => W.heap.size + 2 ≤ k ∧ (Value.slice la ln lc).ownBlock ≠ some k) (k, s, .slice a1 n1 c1, .slice a2 n2 c2) Tr) := hide (ht.keep fun b hb hlt => ⟨⟨by have := HS.out.big; omega, fun e => by have := (HS.out.own.lt b e).2; omega⟩, rfl⟩)
          have HZ4 := hide hsz
          have HQ4 := hide hq4
          clear ht hsz hq4 hs4 he4
          have hb5 := bel w4 (.cells #[.int .i64 k, .string s, .slice a1 n1 c1, .slice a2 n2 c2] 36)
          have hC5 := BoxC.new w4 36 #[.int .i64 k, .string s, .slice a1 n1 c1, .slice a2 n2 c2]
          obtain ⟨w5, hw5⟩ : ∃ w5, w4.alloc (.cells #[.int .i64 k, .string s, .slice a1 n1 c1, .slice a2 n2 c2] 36) = w5 := ⟨_, rfl⟩
          rw [hw5] at hb5 hC5
          have HR5 := hide (HR4.out.below HRW.out hb5)
          have HT5 := hide (HT4.out.bel hb5)
          have hb6 := bel w5 (.cells #[.int .i64 k, .string s, .slice a1 n1 c1, .slice a2 n2 c2] 36)
          have HR6 := hide (HR5.out.below HRW.out hb6)
          have HT6 := hide (HT5.out.bel hb6)
          have HD6 := hide (BoxC.new w5 36 #[.int .i64 k, .string s, .slice a1 n1 c1, .slice a2 n2 c2])
          have x3 := HR5.out.box.cell 3
          have lB := HR5.out.box.lt
          have C0 := hC5.cell 0
          have C1 := hC5.cell 1
          have C2 := hC5.cell 2
          have C3 := hC5.cell 3
          have lC := hC5.lt
          have HW5 := hide hw5
          clear hb5 hb6 hC5 hw5 HR4 HT4
          go_upto_region 7 with fail
          show Code.wp _ _ _ _ (w4.alloc (.cells #[.int .i64 k, .string s, .slice a1 n1 c1, .slice a2 n2 c2] 36))
          rw [HW5.out]
          clear HW5
          go_upto_region 8 with (at_builtin; go_must (refine wpList_appQ _ rfl (.tmp 21) (.tmp 23) rfl (W.heap.size + 2) (.slice la ln lc) M rfl HR6.out.own w5.heap.size 1 (k, s, .slice a1 n1 c1, .slice a2 n2 c2) rfl HD6.out ⟨rfl, rfl⟩ (by have := HR6.out.len; have := HR6.out.qs.le; have := HL.out; omega) (by have := HR6.out.big; simpa using this) ?_; intro v' w7 hown' hgrow hrow); have HR8 := hide (HR6.out.app HRW.out HTX.out HT6.out HZ4.out (HR6.out.more rfl) hown' hgrow hrow); have hb7 := BoxC.kept HR6.out.box hgrow (fun e => (HR6.out.own.off (show W.heap.size + 1 < W.heap.size + 2 by omega)) e.symm); obtain ⟨la7, ln7, lc7, hv7⟩ := hown'.slice; subst hv7; have f7 := hb7.frozen 3; have c7 := hb7.cell 3; have l7 := hb7.lt; clear hown' hgrow hrow hb7)
          clear HR5 HR6 HT5 HT6 HD6 x3 lB C0 C1 C2 C3 lC
          have HMO := hide (more_any _ _ R q4 d4 e4 b4 93 (by omega) ao cap T (HR8.out.qs.self (Below.refl _ _)))
          go_wp2_with fail
          refine HMO.out.mono ?_
          rintro r w9 ⟨m, q9, d9, e9, b9, rfl, hq9, hs9, he9, hm9⟩
          have HREL : Hid (ArrE T W R ao cap p (.bool m) w9) := hide ⟨m, _, _, _, q9, d9, e9, b9, rfl, HR8.out.read HRW.out hs9 hq9 m (fun h => Nat.lt_of_le_of_lt HR8.out.len (hm9 h))⟩
          have HMS : Hid (2 * (T.length - rdAt w9 R) + bN (.bool m) < 2 * (T.length - q) + 1) := hide (by
            rw [hs9.rq.at]
            have h1 := hs9.le
            have h2 := HQ4.out
            cases m
            · have h3 := HS.out.qs.le
              simp only [bN]
              omega
            · have h3 := hm9 rfl
              simp only [bN]
              omega)
          clear hq9 hs9 he9 hm9
          go_wp2
          go_roundw
          case rel => exact HREL.out
          case measure =>
            rw [HAT.out]
            exact HMS.out
        · have dz : (e0 == 0) = false := by simpa using hz
          go_upto_region 9 with fail
          obtain ⟨la2, lc2, elv, htin⟩ := tin_list 5 ⟨#[]⟩ (.slice none 0 0) [] ⟨none, 0, rfl, fun j h => by simp at h⟩ HS.out.own (Nat.le_refl _) (HS.out.trees.keep (S' := fun k => W.heap.size + 2 ≤ k) fun b hb _ => ⟨hb.1, rfl⟩)
          have HT := hide htin
          have HSZL := hide (sz_list 5 [] (by simp) (by have := HS.out.len; have := HS.out.qs.le; omega) HS.out.trees)
          clear elv htin
          have x0 := HS.out.box.cell 0
          have x1 := HS.out.box.cell 1
          have x2 := HS.out.box.cell 2
          have x3 := HS.out.box.cell 3
          have lB := HS.out.box.lt
          have y0 := HS.out.res.frozen 0
          have y1 := HS.out.res.frozen 1
          have y2 := HS.out.res.frozen 2
          have y3 := HS.out.res.frozen 3
          have z0 := HS.out.res.cell 0
          have z1 := HS.out.res.cell 1
          have z2 := HS.out.res.cell 2
          have z3 := HS.out.res.cell 3
          have lA := HS.out.res.lt
          go_wp2
          have z := (((HS.out.res.set 0 (.int .i64 5)).set 1 (.string ⟨#[]⟩)).set 2 (.slice none 0 0)).set 3 (.slice la ln lc)
          refine bodyPost_ret (results_rv rfl rfl z) rfl ?_
          exact ⟨(5, ⟨#[]⟩, .slice none 0 0, .slice la ln lc), _, rfl, HT.out.keep (fun b hb hlt => ⟨by have := hb; omega, heap4 (by have := hb; omega) (.int .i64 5) (.string ⟨#[]⟩) (.slice none 0 0) (.slice la ln lc)⟩), HSZL.out, q, d0, e0, b0, Nat.le_of_lt HS.out.far, HQE.out.fin (Below.refl _ _) HS.out.qs (.int .i64 5) (.string ⟨#[]⟩) (.slice none 0 0) (.slice la ln lc), fun h => absurd rfl h⟩
  · have x0 := HB3.out.cell 0
    have x1 := HB3.out.cell 1
    have x2 := HB3.out.cell 2
    have x3 := HB3.out.cell 3
    have lB := HB3.out.lt
    have y0 := HA3.out.frozen 0
    have y1 := HA3.out.frozen 1
    have y2 := HA3.out.frozen 2
    have y3 := HA3.out.frozen 3
    have z0 := HA3.out.cell 0
    have z1 := HA3.out.cell 1
    have z2 := HA3.out.cell 2
    have z3 := HA3.out.cell 3
    have lA := HA3.out.lt
    go_wp2
    have z := (((HA3.out.set 0 (.int .i64 5)).set 1 (.string ⟨#[]⟩)).set 2 (.slice none 0 0)).set 3 (.slice none 0 0)
    refine bodyPost_ret (results_rv rfl rfl z) rfl ?_
    exact ⟨(5, ⟨#[]⟩, .slice none 0 0, .slice none 0 0), _, rfl, tin_leaf _ _ _ _, sz_leaf _ _ _ (Nat.zero_le _), q, d3, e3, b3, HPQ.out, HQE.out.fin (Below.refl _ _) HQ3.out (.int .i64 5) (.string ⟨#[]⟩) (.slice none 0 0) (.slice none 0 0), fun h => absurd rfl h⟩

end Go.Proofs.YtbdpmpepmjpadaaGreatDoor

namespace Go.Proofs.YtbdpmpepmjpadaaGreatDoor
set_option linter.unusedVariables false
set_option linter.unusedSimpArgs false
set_option maxRecDepth 100000
open Go Go.RowKit Go.Shelf Go.Lib

/-- Appending a text to one's own, where nothing draws. -/
theorem wpList_appS (w : World) {ops : Array Oper} {rest : List Oper} {o : Oper} {a : Act} {Q : Exit → Act → World → Prop} (hg : o.guard = none) (s x : Operand)
    (ho : o.op = .call { callee := .builtin .append, args := #[s, x], argTypes := #[24, 24] })
    (n₀ : Nat) (v : Value) (Ks : List ByteArray) (hs : a.eval s = v) (hown : OwnS n₀ w v Ks) (b c : Nat) (y : ByteArray) (hx : a.eval x = .slice (some ⟨b, 0, none⟩) 1 c) (hl : BoxC w b 9 #[.string y]) (hsum : Ks.length ≤ 1000000000) (hbase : n₀ ≤ w.heap.size)
    (h : ∀ v' w', OwnS n₀ w' v' (Ks ++ [y]) → w.grownBy w' v.ownBlock → (v'.ownBlock = v.ownBlock ∨ v'.ownBlock = some w.heap.size) → wpList Tryz.prog ops Q rest (a.put o.dst v') w') : wpList Tryz.prog ops Q (o :: rest) a w :=
  wpList_plain hg fun K hK => wp_appS w s x ho n₀ v Ks hs hown b c y hx hl hsum hbase fun v' w' h1 h2 h3 => hK _ _ (h v' w' h1 h2 h3)
theorem OwnS.fr {n₀ R : Nat} {w w' : World} {v : Value} {K : List ByteArray} (h : OwnS n₀ w v K) (k : Fr R none w w') (hR : R < n₀) : OwnS n₀ w' v K := h.keep fun j e => by
  have := h.lt j e
  exact k.block this.2 (by omega) (by simp)
/-- One's own texts are texts in memory. -/
theorem OwnS.strs {n n₀ : Nat} {w : World} {v : Value} {K : List ByteArray} (h : OwnS n₀ w v K) (hn : n ≤ n₀) : StrsS w (fun b => n ≤ b) v K := by
  obtain ⟨ao, c, rfl, _⟩ := h.len
  refine ⟨ao, c, rfl, fun j hj => ?_⟩
  have hm : K[j]? = some K[j] := List.getElem?_eq_getElem hj
  obtain ⟨g, e, hc⟩ := h.cell hm
  have hg : n ≤ g := by
    have := h.lt g (by rw [e]; rfl)
    omega
  refine ⟨g, 0, e, hg, ?_⟩
  rw [Nat.zero_add, hc, nthS, hm]
  rfl
theorem QS.grownS {T : List Nat} {W w w5 : World} {R n₀ : Nat} {ao : Option Addr} {cap q : Nat} {d e b : Int} {ov : Value} {M : List ByteArray} (h0 : R < W.heap.size) (hn : W.heap.size ≤ n₀) (hTx : TxJ W R ao cap T) (h : QS T W w R ao cap q d e b) (ho : OwnS n₀ w ov M) (hg : w.grownBy w5 ov.ownBlock) : QS T W w5 R ao cap q d e b := by
  have hrow : RowTo W none ov.ownBlock := by
    cases hob : ov.ownBlock with
    | none => exact .inl rfl
    | some j => exact .inr (.inr ⟨j, rfl, Nat.le_trans hn (ho.lt j hob).1⟩)
  have hf := h.fr.trans (Fr.grown hg) hrow
  exact ⟨BoxC.kept h.rq hg (fun q => ho.off (show R < n₀ by omega) q.symm), hTx.fr hf, hf, h.le, h.db⟩
/-- An object under way: A its result's box, A + 1 its own. -/
structure ObjQ (T : List Nat) (W : World) (R : Nat) (ao : Option Addr) (cap p : Nat) (K : List ByteArray) (kv : Value) (M : List JC) (Ts : List JT) (lv : Value) (q : Nat) (d e b : Int) (wr : World) : Prop where
  res : BoxC wr W.heap.size 36 #[.int .i64 0, .string ⟨#[]⟩, .slice none 0 0, .slice none 0 0]
  box : BoxC wr (W.heap.size + 1) 36 #[.int .i64 6, .string ⟨#[]⟩, kv, lv]
  keys : OwnS (W.heap.size + 2) wr kv K
  own : OwnQ (W.heap.size + 2) wr lv M
  two : ∀ j, kv.ownBlock = some j → lv.ownBlock ≠ some j
  trees : TreesQ T (fun k => W.heap.size + 2 ≤ k ∧ lv.ownBlock ≠ some k ∧ kv.ownBlock ≠ some k) wr M Ts
  lenK : K.length ≤ q
  lenM : M.length ≤ q
  far : p < q
  qs : QS T W wr R ao cap q d e b
  big : W.heap.size + 2 ≤ wr.heap.size
theorem ObjQ.read {T : List Nat} {W wr w4 : World} {R : Nat} {ao : Option Addr} {cap p q q4 : Nat} {K : List ByteArray} {kv : Value} {M : List JC} {Ts : List JT} {lv : Value} {d e b d4 e4 b4 : Int} (h : ObjQ T W R ao cap p K kv M Ts lv q d e b wr) (hR : R < W.heap.size) (hs : QS T wr w4 R ao cap q4 d4 e4 b4) (hq : q ≤ q4) : ObjQ T W R ao cap p K kv M Ts lv q4 d4 e4 b4 w4 :=
  ⟨h.res.fr hs.fr (by omega) (by simp), h.box.fr hs.fr (by omega) (by simp), h.keys.fr hs.fr (by omega), h.own.fr hs.fr (by omega), h.two, h.trees.keep fun b hb hlt => ⟨hb, hs.fr.block hlt (by have := hb.1; omega) (by simp)⟩, Nat.le_trans h.lenK hq, Nat.le_trans h.lenM hq, Nat.lt_of_lt_of_le h.far hq, h.qs.go hs.rq hs.fr hs.le hs.db, Nat.le_trans h.big hs.fr.size⟩
theorem ObjQ.below {T : List Nat} {W wr w4 : World} {R : Nat} {ao : Option Addr} {cap p q : Nat} {K : List ByteArray} {kv : Value} {M : List JC} {Ts : List JT} {lv : Value} {d e b : Int} (h : ObjQ T W R ao cap p K kv M Ts lv q d e b wr) (hR : R < W.heap.size) (hb : Below wr.heap.size wr w4) : ObjQ T W R ao cap p K kv M Ts lv q d e b w4 :=
  h.read hR ⟨h.qs.rq.below hb, h.qs.tx.fr (Fr.of hb), Fr.of hb, h.qs.le, h.qs.db⟩ (Nat.le_refl _)
/-- Behind a key's append and its store. -/
theorem ObjQ.appK {T : List Nat} {W w6 w7 : World} {R : Nat} {ao : Option Addr} {cap p q : Nat} {K : List ByteArray} {kv : Value} {M : List JC} {Ts : List JT} {lv v' : Value} {s : ByteArray} {d e b : Int} (h : ObjQ T W R ao cap p K kv M Ts lv q d e b w6) (hR : R < W.heap.size) (hTx : TxJ W R ao cap T) (hml : K.length < q)
    (ho : OwnS (W.heap.size + 2) w7 v' (K ++ [s])) (hg : w6.grownBy w7 kv.ownBlock) (hrow : v'.ownBlock = kv.ownBlock ∨ v'.ownBlock = some w6.heap.size) : ObjQ T W R ao cap p (K ++ [s]) v' M Ts lv q d e b (w7.setCell ⟨W.heap.size + 1, 2, none⟩ v') := by
  have hb7 := BoxC.kept h.box hg (fun e => (h.keys.off (show W.heap.size + 1 < W.heap.size + 2 by omega)) e.symm)
  have hr7 := BoxC.kept h.res hg (fun e => (h.keys.off (show W.heap.size < W.heap.size + 2 by omega)) e.symm)
  have hq7 := QS.grownS hR (by omega) hTx h.qs h.keys hg
  have hl7 : OwnQ (W.heap.size + 2) w7 lv M := h.own.keep fun j e => hg.block j (h.own.lt j e).2 (fun e2 => h.two j e2.symm e)
  have ht7 : TreesQ T (fun k => W.heap.size + 2 ≤ k ∧ lv.ownBlock ≠ some k ∧ v'.ownBlock ≠ some k) w7 M Ts := h.trees.keep fun b hb hlt => by
    refine ⟨⟨hb.1, hb.2.1, fun e => ?_⟩, hg.block b hlt (fun e => hb.2.2 e.symm)⟩
    rcases hrow with h | h
    · exact hb.2.2 (h ▸ e)
    · rw [h] at e
      cases e
      omega
  refine ⟨hr7.other (by omega) 2 v', hb7.set 2 v', ho.set (ho.off (by omega)), hl7.set (hl7.off (by omega)), fun j e => ?_, ht7.keep fun b hb hlt => ⟨hb, heap_setCell_other _ ⟨W.heap.size + 1, 2, none⟩ b v' (by have := hb.1; show b ≠ W.heap.size + 1; omega)⟩, by simp; omega, h.lenM, h.far, QS.put hTx hq7 (by omega) (by omega) 2 v', ?_⟩
  · rcases hrow with h1 | h1
    · exact h.two j (h1 ▸ e)
    · rw [h1] at e
      cases e
      intro e2
      have := (h.own.lt _ e2).2
      omega
  · have h3 : (w7.setCell ⟨W.heap.size + 1, 2, none⟩ v').heap.size = w7.heap.size := by simp
    rw [h3]
    exact Nat.le_trans h.big hg.size
/-- Behind a value's append and its store. -/
theorem ObjQ.appM {T : List Nat} {W w6 w7 : World} {R : Nat} {ao : Option Addr} {cap p q : Nat} {K : List ByteArray} {kv : Value} {M : List JC} {Ts : List JT} {lv v' : Value} {x : JC} {Tr : JT} {d e b : Int} (h : ObjQ T W R ao cap p K kv M Ts lv q d e b w6) (hR : R < W.heap.size) (hTx : TxJ W R ao cap T) (ht : TIn w6 (fun k => W.heap.size + 2 ≤ k ∧ lv.ownBlock ≠ some k ∧ kv.ownBlock ≠ some k) x Tr) (hz : SzT T.length Tr) (hml : M.length < q)
    (ho : OwnQ (W.heap.size + 2) w7 v' (M ++ [x])) (hg : w6.grownBy w7 lv.ownBlock) (hrow : v'.ownBlock = lv.ownBlock ∨ v'.ownBlock = some w6.heap.size) : ObjQ T W R ao cap p K kv (M ++ [x]) (Ts ++ [Tr]) v' q d e b (w7.setCell ⟨W.heap.size + 1, 3, none⟩ v') := by
  have hb7 := BoxC.kept h.box hg (fun e => (h.own.off (show W.heap.size + 1 < W.heap.size + 2 by omega)) e.symm)
  have hr7 := BoxC.kept h.res hg (fun e => (h.own.off (show W.heap.size < W.heap.size + 2 by omega)) e.symm)
  have hq7 := QS.grownQ hR (by omega) hTx h.qs h.own hg
  have hk7 : OwnS (W.heap.size + 2) w7 kv K := h.keys.keep fun j e => hg.block j (h.keys.lt j e).2 (fun e2 => h.two j e e2.symm)
  have ht6 := h.trees.snoc ht hz
  have ht7 : TreesQ T (fun k => W.heap.size + 2 ≤ k ∧ v'.ownBlock ≠ some k ∧ kv.ownBlock ≠ some k) w7 (M ++ [x]) (Ts ++ [Tr]) := ht6.keep fun b hb hlt => by
    refine ⟨⟨hb.1, fun e => ?_, hb.2.2⟩, hg.block b hlt (fun e => hb.2.1 e.symm)⟩
    rcases hrow with h | h
    · exact hb.2.1 (h ▸ e)
    · rw [h] at e
      cases e
      omega
  refine ⟨hr7.other (by omega) 3 v', hb7.set 3 v', hk7.set (hk7.off (by omega)), ho.set (ho.off (by omega)), fun j e => ?_, ht7.keep fun b hb hlt => ⟨hb, heap_setCell_other _ ⟨W.heap.size + 1, 3, none⟩ b v' (by have := hb.1; show b ≠ W.heap.size + 1; omega)⟩, h.lenK, by simp; omega, h.far, QS.put hTx hq7 (by omega) (by omega) 3 v', ?_⟩
  · rcases hrow with h1 | h1
    · rw [h1]
      exact h.two j e
    · rw [h1]
      intro e2
      cases e2
      have := (h.keys.lt _ e).2
      omega
  · have h3 : (w7.setCell ⟨W.heap.size + 1, 3, none⟩ v').heap.size = w7.heap.size := by simp
    rw [h3]
    exact Nat.le_trans h.big hg.size

end Go.Proofs.YtbdpmpepmjpadaaGreatDoor

namespace Go.Proofs.YtbdpmpepmjpadaaGreatDoor
set_option linter.unusedVariables false
set_option linter.unusedSimpArgs false
set_option maxRecDepth 100000
open Go Go.RowKit Go.Shelf Go.Lib

/-- A tree stays behind a key's append and its store. -/
theorem appT {n : Nat} {w6 w7 : World} {kv lv v' : Value} {x : JC} {Tr : JT} (hg : w6.grownBy w7 kv.ownBlock) (hrow : v'.ownBlock = kv.ownBlock ∨ v'.ownBlock = some w6.heap.size) (ht : TIn w6 (fun k => n + 2 ≤ k ∧ lv.ownBlock ≠ some k ∧ kv.ownBlock ≠ some k) x Tr) : TIn (w7.setCell ⟨n + 1, 2, none⟩ v') (fun k => n + 2 ≤ k ∧ lv.ownBlock ≠ some k ∧ v'.ownBlock ≠ some k) x Tr := by
  refine ht.keep fun b hb hlt => ?_
  refine ⟨⟨hb.1, hb.2.1, fun e => ?_⟩, (heap_setCell_other _ ⟨n + 1, 2, none⟩ b v' (by have := hb.1; show b ≠ n + 1; omega)).trans (hg.block b hlt (fun e => hb.2.2 e.symm))⟩
  rcases hrow with h | h
  · exact hb.2.2 (h ▸ e)
  · rw [h] at e
    cases e
    omega
/-- What a walk over an object keeps, by its slot. -/
def ObjE (T : List Nat) (W : World) (R : Nat) (ao : Option Addr) (cap p : Nat) (mv : Value) (wr : World) : Prop :=
  ∃ (m : Bool) (K : List ByteArray) (kv : Value) (M : List JC) (Ts : List JT) (lv : Value) (q : Nat) (d e b : Int), mv = .bool m ∧ (m = true → K.length < q ∧ M.length < q) ∧ ObjQ T W R ao cap p K kv M Ts lv q d e b wr

set_option maxHeartbeats 16000000 in
theorem object_any (w W : World) (R p : Nat) (d b : Int) (ao : Option Addr) (cap : Nat) (T : List Nat) (h : QS T w W R ao cap p d 0 b) (hlt : p < T.length) (hV : ∀ (wx : World) (qx : Nat) (dx ex bx : Int), p < qx → QS T wx wx R ao cap qx dx ex bx → Calls Tryz.prog 33 #[.pointer (some ⟨R, 0, none⟩)] wx (QV T wx R ao cap qx ex wx.heap.size)) :
    Calls Tryz.prog 57 #[.pointer (some ⟨R, 0, none⟩)] W (QV T w R ao cap p 0 W.heap.size) := by
  have HL := hide h.tx.len
  have HTX := hide h.tx
  have HRW := hide h.rq.lt
  have HQE := hide h
  have hq2 := (h.self (Below.refl _ _)).below ((bel W (.cells #[.int .i64 0, .string ⟨#[]⟩, .slice none 0 0, .slice none 0 0] 36)).alloc (by simp) (.cells #[.int .i64 6, .string ⟨#[]⟩, .slice none 0 0, .slice none 0 0] 36))
  have hA := (BoxC.new W 36 #[.int .i64 0, .string ⟨#[]⟩, .slice none 0 0, .slice none 0 0]).alloc (.cells #[.int .i64 6, .string ⟨#[]⟩, .slice none 0 0, .slice none 0 0] 36)
  have hB := BoxC.new (W.alloc (.cells #[.int .i64 0, .string ⟨#[]⟩, .slice none 0 0, .slice none 0 0] 36)) 36 #[.int .i64 6, .string ⟨#[]⟩, .slice none 0 0, .slice none 0 0]
  rw [World.size_alloc] at hB
  have hsz : ((W.alloc (.cells #[.int .i64 0, .string ⟨#[]⟩, .slice none 0 0, .slice none 0 0] 36)).alloc (.cells #[.int .i64 6, .string ⟨#[]⟩, .slice none 0 0, .slice none 0 0] 36)).heap.size = W.heap.size + 2 := by simp
  obtain ⟨w2, hw2⟩ : ∃ w2, (W.alloc (.cells #[.int .i64 0, .string ⟨#[]⟩, .slice none 0 0, .slice none 0 0] 36)).alloc (.cells #[.int .i64 6, .string ⟨#[]⟩, .slice none 0 0, .slice none 0 0] 36) = w2 := ⟨_, rfl⟩
  rw [hw2] at hq2 hA hB hsz
  have HW2 := hide hw2
  have HQ2 := hide hq2
  have HA2 := hide hA
  have HB2 := hide hB
  have HSZ := hide hsz
  have HEN := hide (enter_any w2 w2 R p d b 125 (by omega) ao cap T (hq2.self (Below.refl _ _)) hlt)
  have HV := hide hV
  clear h hlt hq2 hA hB hsz hw2 hV
  go_enter Tryz.func57, Tryz.ntmps57
  go_upto_region 2 with fail
  show Code.wp _ _ _ _ ((W.alloc (.cells #[.int .i64 0, .string ⟨#[]⟩, .slice none 0 0, .slice none 0 0] 36)).alloc (.cells #[.int .i64 6, .string ⟨#[]⟩, .slice none 0 0, .slice none 0 0] 36))
  rw [HW2.out]
  clear HW2
  go_wp2_with fail
  refine HEN.out.mono ?_
  rintro r w3 ⟨m, q, d3, e3, b3, rfl, hpq, hq, hm⟩
  have HA3 := hide (HA2.out.fr hq.fr (by have := HRW.out; omega) (by simp))
  have HB3 := hide (HB2.out.fr hq.fr (by have := HRW.out; omega) (by simp))
  have HQ3 := hide (HQ2.out.go hq.rq hq.fr hq.le hq.db)
  have HS3 : Hid (W.heap.size + 2 ≤ w3.heap.size) := hide (by have := hq.fr.size; have := HSZ.out; omega)
  have HPQ := hide hpq
  have HM := hide hm
  clear hq hpq hm HEN HA2 HB2 HQ2
  have hAB : ¬ W.heap.size = W.heap.size + 1 := by omega
  have hBA : ¬ W.heap.size + 1 = W.heap.size := by omega
  cases m
  · have HI : Hid (ObjE T W R ao cap p (.bool true) w3) := ⟨true, [], .slice none 0 0, [], [], .slice none 0 0, q, d3, e3, b3, rfl, fun _ => by have := HM.out rfl; simp; omega, HA3.out, HB3.out, ownS_nil _ _, ownQ_nil _ _, fun j e => by simp [Value.ownBlock] at e, ⟨rfl, fun i x hx => by simp at hx⟩, by simp, by simp, HM.out rfl, HQ3.out, HS3.out⟩
    clear HA3 HB3 HQ3 HS3 HPQ HM
    go_wp2
    go_loopw [4] (fun mv wr => ObjE T W R ao cap p mv wr) (fun mv wr => 2 * (T.length - rdAt wr R) + bN mv)
    case atStart => exact HI.out
    case round =>
      obtain ⟨m, K, kv, M, Ts, lv, q, d0, e0, b0, rfl, hmm, hq⟩ := hrel
      obtain ⟨la, ln, lc, rfl⟩ := hq.own.slice
      obtain ⟨ka, kc, rfl, hkc⟩ := hq.keys.len
      have HS := hide hq
      have HMM := hide hmm
      have HAT := hide hq.qs.rq.at
      have c3 : wr.cell? ⟨R, 3, none⟩ = some (.int .i64 e0) := hq.qs.rq.cell 3
      have c1 : wr.cell? ⟨R, 1, none⟩ = some (.int .i64 (q : Int)) := hq.qs.rq.cell 1
      have lR : R < wr.heap.size := hq.qs.rq.lt
      clear HI hq hmm hkc
      cases m
      · go_upto_region 20 with fail
        obtain ⟨la2, lc2, elv, htin⟩ := tin_list 6 ⟨#[]⟩ (.slice ka K.length kc) K (HS.out.keys.strs (Nat.le_refl _)) HS.out.own (Nat.le_refl _) (HS.out.trees.keep (S' := fun k => W.heap.size + 2 ≤ k) fun b hb _ => ⟨hb.1, rfl⟩)
        have HT := hide htin
        have HSZL := hide (sz_list 6 K (by have := HS.out.lenK; have := HS.out.qs.le; omega) (by have := HS.out.lenM; have := HS.out.qs.le; omega) HS.out.trees)
        clear elv htin
        have x0 := HS.out.box.cell 0
        have x1 := HS.out.box.cell 1
        have x2 := HS.out.box.cell 2
        have x3 := HS.out.box.cell 3
        have lB := HS.out.box.lt
        have y0 := HS.out.res.frozen 0
        have y1 := HS.out.res.frozen 1
        have y2 := HS.out.res.frozen 2
        have y3 := HS.out.res.frozen 3
        have z0 := HS.out.res.cell 0
        have z1 := HS.out.res.cell 1
        have z2 := HS.out.res.cell 2
        have z3 := HS.out.res.cell 3
        have lA := HS.out.res.lt
        go_wp2
        have z := (((HS.out.res.set 0 (.int .i64 6)).set 1 (.string ⟨#[]⟩)).set 2 (.slice ka K.length kc)).set 3 (.slice la ln lc)
        refine bodyPost_ret (results_rv rfl rfl z) rfl ?_
        exact ⟨(6, ⟨#[]⟩, .slice ka K.length kc, .slice la ln lc), _, rfl, HT.out.keep (fun b hb hlt => ⟨by have := hb; omega, heap4 (by have := hb; omega) (.int .i64 6) (.string ⟨#[]⟩) (.slice ka K.length kc) (.slice la ln lc)⟩), HSZL.out, q, d0, e0, b0, Nat.le_of_lt HS.out.far, HQE.out.fin (Below.refl _ _) HS.out.qs (.int .i64 6) (.string ⟨#[]⟩) (.slice ka K.length kc) (.slice la ln lc), fun h => absurd rfl h⟩
      · by_cases hz : e0 = 0
        · subst hz
          go_wp2_with fail
          refine (text_any wr wr R q d0 0 b0 ao cap T (HS.out.qs.self (Below.refl _ _))).mono ?_
          rintro r w5 ⟨key, ⟨rfl, hks⟩, q5, d5, e5, b5, hq5, hs5, he5⟩
          have HR5 := hide (HS.out.read HRW.out hs5 hq5)
          have HQ5 := hide hq5
          clear hks hq5 hs5 he5
          have HKN : Hid (K.length ≤ 1000000) := hide (by have := HR5.out.lenK; have := HR5.out.qs.le; have := HL.out; omega)
          have HII : Hid (∃ (i : Nat) (e' b' : Int), Value.int .i64 0 = .int .i64 (i : Int) ∧ i ≤ K.length ∧ ObjQ T W R ao cap p K (.slice ka K.length kc) M Ts (.slice la ln lc) q5 d5 e' b' w5) := ⟨0, e5, b5, rfl, Nat.zero_le _, HR5.out⟩
          clear c3 c1 lR
          go_wp2
          go_loopw [7] (fun iv wx => ∃ (i : Nat) (e' b' : Int), iv = .int .i64 (i : Int) ∧ i ≤ K.length ∧ ObjQ T W R ao cap p K (.slice ka K.length kc) M Ts (.slice la ln lc) q5 d5 e' b' wx) (fun iv _ => K.length - (RowKit.intOf iv).toNat)
          case atStart => exact HII.out
          case round =>
            obtain ⟨i, e6, b6, rfl, hi, hq6⟩ := hrel
            have HR6 := hide hq6
            have x2 := hq6.box.cell 2
            have lB := hq6.box.lt
            have c3 : wr.cell? ⟨R, 3, none⟩ = some (.int .i64 e6) := hq6.qs.rq.cell 3
            clear HII hq6
            by_cases hlt : i < K.length
            · obtain ⟨g, rfl, cx⟩ := HR6.out.keys.cell (List.getElem?_eq_getElem hlt)
              obtain ⟨t, ht⟩ : ∃ t, K[i] = t := ⟨_, rfl⟩
              rw [ht] at cx
              obtain ⟨j1, hj1⟩ : ∃ j1, i + 1 = j1 := ⟨_, rfl⟩
              have ej : (i : Int) + 1 = (j1 : Int) := by omega
              have g1 : (j1 : Int) ≤ 1000000000 := by have := HKN.out; omega
              have dl : (i : Int) < (K.length : Int) := by omega
              have d0 : (0 : Int) ≤ (i : Int) := by omega
              have HJ := hide (And.intro hlt hj1)
              clear ht hlt hj1 hi
              by_cases tk : t = key
              · subst tk
                go_wp2_with fail
                refine (fail_q wr wr R q5 d5 e6 b6 23 _ ao cap T (HR6.out.qs.self (Below.refl _ _)) (by omega)).mono ?_
                rintro r w7 ⟨e7, b7, rfl, hq7, he7⟩
                have HREL : Hid (∃ (i : Nat) (e' b' : Int), Value.int .i64 (j1 : Int) = .int .i64 (i : Int) ∧ i ≤ K.length ∧ ObjQ T W R ao cap p K (.slice (some ⟨g, 0, none⟩) K.length kc) M Ts (.slice la ln lc) q5 d5 e' b' w7) := ⟨j1, e7, b7, rfl, by have := HJ.out; omega, HR6.out.read HRW.out hq7 (Nat.le_refl _)⟩
                clear hq7 he7
                go_wp2
                go_roundw
                case rel => exact HREL.out
                case measure => have := HJ.out; simp [RowKit.intOf]; omega
              · have dne : (t.toList == key.toList) = false := str_ne tk
                go_wp2
                go_roundw
                case rel => exact ⟨j1, e6, b6, by first | rfl | go_num, by have := HJ.out; omega, HR6.out⟩
                case measure => have := HJ.out; simp [RowKit.intOf]; omega
            · obtain rfl : i = K.length := by omega
              have dl : ¬ (K.length : Int) < (K.length : Int) := by omega
              clear hlt hi
              go_wp2_with fail
              refine (blank_q wr wr R q5 d5 e6 b6 ao cap T (HR6.out.qs.self (Below.refl _ _))).mono ?_
              rintro r w8 ⟨rfl, q8, hq8, hs8⟩
              have HR8 := hide (HR6.out.read HRW.out hs8 hq8)
              have HQ8 := hide hq8
              clear hq8 hs8 x2 lB c3 dl HR6
              go_wp2_with fail
              refine (must_any w8 w8 R q8 d5 e6 b6 58 ao cap T (HR8.out.qs.self (Below.refl _ _))).mono ?_
              rintro r w9 ⟨rfl, q9, d9, e9, b9, hq9, hs9, he9⟩
              have HR9 := hide (HR8.out.read HRW.out hs9 hq9)
              have HQ9 := hide hq9
              clear hq9 hs9 he9 HR8
              go_wp2_with fail
              refine (blank_q w9 w9 R q9 d9 e9 b9 ao cap T (HR9.out.qs.self (Below.refl _ _))).mono ?_
              rintro r w10 ⟨rfl, q10, hq10, hs10⟩
              have HR10 := hide (HR9.out.read HRW.out hs10 hq10)
              have HQ10 := hide hq10
              clear hq10 hs10 HR9
              go_wp2_with fail
              refine (HV.out w10 q10 d9 e9 b9 HR10.out.far (HR10.out.qs.self (Below.refl _ _))).mono ?_
              rintro r w11 ⟨x, Tr, rfl, ht, hsz, q11, d11, e11, b11, hq11, hs11, he11⟩
              obtain ⟨k, s, a1, n1, c1, a2, n2, c2, rfl⟩ := tin_form ht
              simp only [vagg]
              have HR11 := hide (HR10.out.read HRW.out hs11 hq11)
              have HT11 : Hid (TIn w11 (fun k => W.heap.size + 2 ≤ k ∧ (Value.slice la ln lc).ownBlock ≠ some k ∧ (Value.slice ka K.length kc).ownBlock ≠ some k) (k, s, .slice a1 n1 c1, .slice a2 n2 c2) Tr) := hide (ht.keep fun b hb hlt => ⟨⟨by have := HR10.out.big; omega, fun e => by have := (HR10.out.own.lt b e).2; omega, fun e => by have := (HR10.out.keys.lt b e).2; omega⟩, rfl⟩)
              have HZ11 := hide hsz
              have HKQ : Hid (K.length < q11 ∧ M.length < q11) := hide (by have := HMM.out (by first | rfl | trivial); have := HQ5.out; have := HQ8.out; have := HQ9.out; have := HQ10.out; omega)
              have HQQ : Hid (q ≤ q11) := hide (by have := HQ5.out; have := HQ8.out; have := HQ9.out; have := HQ10.out; omega)
              clear ht hsz hq11 hs11 he11 HR10 HQ5 HQ8 HQ9 HQ10
              have hb12 := bel w11 (.cells #[.int .i64 k, .string s, .slice a1 n1 c1, .slice a2 n2 c2] 36)
              have hC12 := BoxC.new w11 36 #[.int .i64 k, .string s, .slice a1 n1 c1, .slice a2 n2 c2]
              have HW12 : Hid (w11.alloc (.cells #[.int .i64 k, .string s, .slice a1 n1 c1, .slice a2 n2 c2] 36) = w11.alloc (.cells #[.int .i64 k, .string s, .slice a1 n1 c1, .slice a2 n2 c2] 36)) := rfl
              obtain ⟨w12, hw12⟩ : ∃ w12, w11.alloc (.cells #[.int .i64 k, .string s, .slice a1 n1 c1, .slice a2 n2 c2] 36) = w12 := ⟨_, rfl⟩
              rw [hw12] at hb12 hC12
              have HR12 := hide (HR11.out.below HRW.out hb12)
              have HT12 := hide (HT11.out.bel hb12)
              have hb13 := bel w12 (.cells #[.string key] 9)
              have HR13 := hide (HR12.out.below HRW.out hb13)
              have HT13 := hide (HT12.out.bel hb13)
              have HC13 := hide (hC12.alloc (.cells #[.string key] 9))
              have HD13 := hide (BoxC.new w12 9 #[.string key])
              have HCB : Hid (∀ j, (Value.slice ka K.length kc).ownBlock = some j → j < w11.heap.size) := hide (fun j e => (HR11.out.keys.lt j e).2)
              have HC0 : Hid (W.heap.size + 2 ≤ w11.heap.size) := hide HR11.out.big
              have x2 := HR12.out.box.cell 2
              have lB := HR12.out.box.lt
              have HW := hide hw12
              clear hb12 hC12 hw12 hb13 HR11 HT11 HW12
              go_upto_region 17 with fail
              show Code.wp _ _ _ _ (w11.alloc (.cells #[.int .i64 k, .string s, .slice a1 n1 c1, .slice a2 n2 c2] 36))
              rw [HW.out]
              clear HW
              go_upto_region 18 with (at_builtin; go_must (refine wpList_appS _ rfl (.tmp 53) (.tmp 55) rfl (W.heap.size + 2) (.slice ka K.length kc) K rfl HR13.out.keys w12.heap.size 1 key rfl HD13.out (by have := HKN.out; omega) (by have := HR13.out.big; simpa using this) ?_; intro v' w14 hown' hgrow hrow); have HR15 := hide (HR13.out.appK HRW.out HTX.out HKQ.out.1 hown' hgrow hrow); have HT15 := hide (appT hgrow hrow HT13.out); have hb14 := BoxC.kept HR13.out.box hgrow (fun e => (HR13.out.keys.off (show W.heap.size + 1 < W.heap.size + 2 by omega)) e.symm); have HC15 := hide ((BoxC.kept HC13.out hgrow (fun e => by have := HCB.out _ e.symm; omega)).other (show w11.heap.size ≠ W.heap.size + 1 by have := HC0.out; omega) 2 v'); obtain ⟨kb, kn2, kc2, hv7⟩ : ∃ a n c, v' = .slice a n c := (by obtain ⟨a, c, e, _⟩ := hown'.len; exact ⟨_, _, _, e⟩); subst hv7; have f7 := hb14.frozen 2; have c7 := hb14.cell 2; have l7 := hb14.lt; clear hown' hgrow hrow hb14)
              generalize hw15 : w14.setCell ⟨W.heap.size + 1, 2, none⟩ (.slice kb kn2 kc2) = w15 at *
              clear hw15 f7 c7 l7 x2 lB HR12 HR13 HT12 HT13 HC13 HD13 HCB HC0
              have hb16 := bel w15 (.cells #[.int .i64 k, .string s, .slice a1 n1 c1, .slice a2 n2 c2] 36)
              have HR16 := hide (HR15.out.below HRW.out hb16)
              have HT16 := hide (HT15.out.bel hb16)
              have HD16 := hide (BoxC.new w15 36 #[.int .i64 k, .string s, .slice a1 n1 c1, .slice a2 n2 c2])
              have x3 := HR15.out.box.cell 3
              have lB := HR15.out.box.lt
              have C0 := HC15.out.cell 0
              have C1 := HC15.out.cell 1
              have C2 := HC15.out.cell 2
              have C3 := HC15.out.cell 3
              have lC := HC15.out.lt
              clear hb16
              go_upto_region 19 with (at_builtin; go_must (refine wpList_appQ _ rfl (.tmp 59) (.tmp 61) rfl (W.heap.size + 2) (.slice la ln lc) M rfl HR16.out.own w15.heap.size 1 (k, s, .slice a1 n1 c1, .slice a2 n2 c2) rfl HD16.out ⟨rfl, rfl⟩ (by have := HR16.out.lenM; have := HR16.out.qs.le; have := HL.out; omega) (by have := HR16.out.big; simpa using this) ?_; intro v' w17 hown' hgrow hrow); have HR18 := hide (HR16.out.appM HRW.out HTX.out HT16.out HZ11.out HKQ.out.2 hown' hgrow hrow); have hb17 := BoxC.kept HR16.out.box hgrow (fun e => (HR16.out.own.off (show W.heap.size + 1 < W.heap.size + 2 by omega)) e.symm); obtain ⟨la7, ln7, lc7, hv7⟩ := hown'.slice; subst hv7; have f7 := hb17.frozen 3; have c7 := hb17.cell 3; have l7 := hb17.lt; clear hown' hgrow hrow hb17)
              clear HR15 HR16 HT15 HT16 HD16 HC15 x3 lB C0 C1 C2 C3 lC
              have HMO := hide (more_any _ _ R q11 d11 e11 b11 125 (by omega) ao cap T (HR18.out.qs.self (Below.refl _ _)))
              go_wp2_with fail
              refine HMO.out.mono ?_
              rintro r w20 ⟨m, q20, d20, e20, b20, rfl, hq20, hs20, he20, hm20⟩
              have HREL : Hid (ObjE T W R ao cap p (.bool m) w20) := hide ⟨m, _, _, _, _, _, q20, d20, e20, b20, rfl, fun h => ⟨Nat.lt_of_le_of_lt HR18.out.lenK (hm20 h), Nat.lt_of_le_of_lt HR18.out.lenM (hm20 h)⟩, HR18.out.read HRW.out hs20 hq20⟩
              have HMS : Hid (2 * (T.length - rdAt w20 R) + bN (.bool m) < 2 * (T.length - q) + 1) := hide (by
                rw [hs20.rq.at]
                have h1 := hs20.le
                have h2 := HQQ.out
                cases m
                · simp only [bN]
                  omega
                · have h3 := hm20 rfl
                  simp only [bN]
                  omega)
              clear hq20 hs20 he20 hm20
              go_wp2
              go_roundw
              case rel => exact HREL.out
              case measure =>
                rw [HAT.out]
                exact HMS.out
        · have dz : (e0 == 0) = false := by simpa using hz
          go_upto_region 20 with fail
          obtain ⟨la2, lc2, elv, htin⟩ := tin_list 6 ⟨#[]⟩ (.slice ka K.length kc) K (HS.out.keys.strs (Nat.le_refl _)) HS.out.own (Nat.le_refl _) (HS.out.trees.keep (S' := fun k => W.heap.size + 2 ≤ k) fun b hb _ => ⟨hb.1, rfl⟩)
          have HT := hide htin
          have HSZL := hide (sz_list 6 K (by have := HS.out.lenK; have := HS.out.qs.le; omega) (by have := HS.out.lenM; have := HS.out.qs.le; omega) HS.out.trees)
          clear elv htin
          have x0 := HS.out.box.cell 0
          have x1 := HS.out.box.cell 1
          have x2 := HS.out.box.cell 2
          have x3 := HS.out.box.cell 3
          have lB := HS.out.box.lt
          have y0 := HS.out.res.frozen 0
          have y1 := HS.out.res.frozen 1
          have y2 := HS.out.res.frozen 2
          have y3 := HS.out.res.frozen 3
          have z0 := HS.out.res.cell 0
          have z1 := HS.out.res.cell 1
          have z2 := HS.out.res.cell 2
          have z3 := HS.out.res.cell 3
          have lA := HS.out.res.lt
          go_wp2
          have z := (((HS.out.res.set 0 (.int .i64 6)).set 1 (.string ⟨#[]⟩)).set 2 (.slice ka K.length kc)).set 3 (.slice la ln lc)
          refine bodyPost_ret (results_rv rfl rfl z) rfl ?_
          exact ⟨(6, ⟨#[]⟩, .slice ka K.length kc, .slice la ln lc), _, rfl, HT.out.keep (fun b hb hlt => ⟨by have := hb; omega, heap4 (by have := hb; omega) (.int .i64 6) (.string ⟨#[]⟩) (.slice ka K.length kc) (.slice la ln lc)⟩), HSZL.out, q, d0, e0, b0, Nat.le_of_lt HS.out.far, HQE.out.fin (Below.refl _ _) HS.out.qs (.int .i64 6) (.string ⟨#[]⟩) (.slice ka K.length kc) (.slice la ln lc), fun h => absurd rfl h⟩
  · have x0 := HB3.out.cell 0
    have x1 := HB3.out.cell 1
    have x2 := HB3.out.cell 2
    have x3 := HB3.out.cell 3
    have lB := HB3.out.lt
    have y0 := HA3.out.frozen 0
    have y1 := HA3.out.frozen 1
    have y2 := HA3.out.frozen 2
    have y3 := HA3.out.frozen 3
    have z0 := HA3.out.cell 0
    have z1 := HA3.out.cell 1
    have z2 := HA3.out.cell 2
    have z3 := HA3.out.cell 3
    have lA := HA3.out.lt
    go_wp2
    have z := (((HA3.out.set 0 (.int .i64 6)).set 1 (.string ⟨#[]⟩)).set 2 (.slice none 0 0)).set 3 (.slice none 0 0)
    refine bodyPost_ret (results_rv rfl rfl z) rfl ?_
    exact ⟨(6, ⟨#[]⟩, .slice none 0 0, .slice none 0 0), _, rfl, tin_leaf _ _ _ _, sz_leaf _ _ _ (Nat.zero_le _), q, d3, e3, b3, HPQ.out, HQE.out.fin (Below.refl _ _) HQ3.out (.int .i64 6) (.string ⟨#[]⟩) (.slice none 0 0) (.slice none 0 0), fun h => absurd rfl h⟩

end Go.Proofs.YtbdpmpepmjpadaaGreatDoor

namespace Go.Proofs.YtbdpmpepmjpadaaGreatDoor
set_option linter.unusedVariables false
set_option linter.unusedSimpArgs false
set_option maxRecDepth 100000
open Go Go.RowKit Go.Shelf Go.Lib

set_option maxHeartbeats 16000000 in
theorem value_aux (R : Nat) (ao : Option Addr) (cap : Nat) (T : List Nat) : ∀ (n : Nat) (w W : World) (p : Nat) (d e b : Int), T.length - p < n → QS T w W R ao cap p d e b →
    Calls Tryz.prog 33 #[.pointer (some ⟨R, 0, none⟩)] W (QV T w R ao cap p e W.heap.size) := by
  intro n
  induction n with
  | zero => intro w W p d e b hn; omega
  | succ n ih =>
    intro w W p d e b hn h
    have HN := hide hn
    have HIH := hide ih
    have HL := hide h.tx.len
    have HRW := hide h.rq.lt
    have HQE := hide h
    have hb0 := bel W (.cells #[.int .i64 0, .string ⟨#[]⟩, .slice none 0 0, .slice none 0 0] 36)
    have hq0 := (h.self (Below.refl _ _)).below hb0
    have hx0 := BoxC.new W 36 #[.int .i64 0, .string ⟨#[]⟩, .slice none 0 0, .slice none 0 0]
    obtain ⟨w0, hw0⟩ : ∃ w0, W.alloc (.cells #[.int .i64 0, .string ⟨#[]⟩, .slice none 0 0, .slice none 0 0] 36) = w0 := ⟨_, rfl⟩
    rw [hw0] at hb0 hq0 hx0
    have HW0 := hide hw0
    have HQ0 := hide hq0
    have HX0 := hide hx0
    clear h hn ih hb0 hq0 hx0 hw0
    go_enter Tryz.func33, Tryz.ntmps33
    go_upto_region 1 with fail
    show Code.wp _ _ _ _ (W.alloc (.cells #[.int .i64 0, .string ⟨#[]⟩, .slice none 0 0, .slice none 0 0] 36))
    rw [HW0.out]
    clear HW0
    go_wp2_with fail
    refine (peek_q w0 w0 R p d e b ao cap T (HQ0.out.self (Below.refl _ _))).mono ?_
    rintro r w1 ⟨x, e1, b1, rfl, hq, h1, h2, hx⟩
    have HQ1 := hide (HQ0.out.go hq.rq hq.fr hq.le hq.db)
    have HX1 := hide (HX0.out.fr hq.fr (by have := HRW.out; omega) (by simp))
    have HX := hide hx
    have HAW : Hid (W.heap.size < w1.heap.size) := HX1.out.lt
    have c3 : w1.cell? ⟨R, 3, none⟩ = some (.int .i64 e1) := hq.rq.cell 3
    have lR : R < w1.heap.size := hq.rq.lt
    clear hq hx HQ0 HX0
    by_cases he : e1 = 0
    · subst he
      have LT : Hid (p < T.length) := by
        rcases HX.out with h | h
        · exact absurd rfl h.2
        · exact hide h.2.2.1
      have E0 : Hid (e = 0) := by
        rcases HX.out with h | h
        · exact absurd rfl h.2
        · exact hide h.2.1
      have HVX : Hid (∀ (wx : World) (qx : Nat) (dx ex bx : Int), p < qx → QS T wx wx R ao cap qx dx ex bx → Calls Tryz.prog 33 #[.pointer (some ⟨R, 0, none⟩)] wx (QV T wx R ao cap qx ex wx.heap.size)) := fun wx qx dx ex bx h1 h2 => HIH.out wx wx qx dx ex bx (by have := HN.out; have := LT.out; omega) h2
      clear HX HIH HN
      by_cases k123 : x = 123
      · subst k123
        go_wp2_with fail
        refine (object_any w1 w1 R p d b1 ao cap T (HQ1.out.self (Below.refl _ _)) LT.out HVX.out).mono ?_
        rintro r w2 ⟨x2, Tr, rfl, ht, hsz, q2, d2, e2, b2, hq2, hs2, he2⟩
        obtain ⟨k, s, a1, n1, c1, a2, n2, c2, rfl⟩ := tin_form ht
        simp only [vagg]
        have HX2 := hide (HX1.out.fr hs2.fr (by have := HRW.out; omega) (by simp))
        have HQ2 := hide (HQ1.out.go hs2.rq hs2.fr hs2.le hs2.db)
        have HT := hide ht
        have HZ := hide hsz
        have HP2 := hide hq2
        clear ht hsz hq2 hs2 he2 c3 lR
        have y0 := HX2.out.frozen 0
        have y1 := HX2.out.frozen 1
        have y2 := HX2.out.frozen 2
        have y3 := HX2.out.frozen 3
        have z0 := HX2.out.cell 0
        have z1 := HX2.out.cell 1
        have z2 := HX2.out.cell 2
        have z3 := HX2.out.cell 3
        have lA := HX2.out.lt
        go_wp2
        have z := (((HX2.out.set 0 (.int .i64 k)).set 1 (.string s)).set 2 (.slice a1 n1 c1)).set 3 (.slice a2 n2 c2)
        refine bodyPost_ret (results_rv rfl rfl z) rfl ?_
        exact ⟨(k, s, .slice a1 n1 c1, .slice a2 n2 c2), _, rfl, HT.out.keep (fun b hb hlt => ⟨by have := HAW.out; have := hb; show W.heap.size ≤ b; omega, heap4 (by have := HAW.out; have := hb; show b ≠ W.heap.size; omega) (.int .i64 k) (.string s) (.slice a1 n1 c1) (.slice a2 n2 c2)⟩), HZ.out, q2, d2, e2, b2, HP2.out, HQE.out.fin (Below.refl _ _) HQ2.out (.int .i64 k) (.string s) (.slice a1 n1 c1) (.slice a2 n2 c2), fun h => absurd E0.out h⟩
      have d123 : (x == 123) = false := by simpa using k123
      by_cases k91 : x = 91
      · subst k91
        go_wp2_with fail
        refine (array_any w1 w1 R p d b1 ao cap T (HQ1.out.self (Below.refl _ _)) LT.out HVX.out).mono ?_
        rintro r w2 ⟨x2, Tr, rfl, ht, hsz, q2, d2, e2, b2, hq2, hs2, he2⟩
        obtain ⟨k, s, a1, n1, c1, a2, n2, c2, rfl⟩ := tin_form ht
        simp only [vagg]
        have HX2 := hide (HX1.out.fr hs2.fr (by have := HRW.out; omega) (by simp))
        have HQ2 := hide (HQ1.out.go hs2.rq hs2.fr hs2.le hs2.db)
        have HT := hide ht
        have HZ := hide hsz
        have HP2 := hide hq2
        clear ht hsz hq2 hs2 he2 c3 lR
        have y0 := HX2.out.frozen 0
        have y1 := HX2.out.frozen 1
        have y2 := HX2.out.frozen 2
        have y3 := HX2.out.frozen 3
        have z0 := HX2.out.cell 0
        have z1 := HX2.out.cell 1
        have z2 := HX2.out.cell 2
        have z3 := HX2.out.cell 3
        have lA := HX2.out.lt
        go_wp2
        have z := (((HX2.out.set 0 (.int .i64 k)).set 1 (.string s)).set 2 (.slice a1 n1 c1)).set 3 (.slice a2 n2 c2)
        refine bodyPost_ret (results_rv rfl rfl z) rfl ?_
        exact ⟨(k, s, .slice a1 n1 c1, .slice a2 n2 c2), _, rfl, HT.out.keep (fun b hb hlt => ⟨by have := HAW.out; have := hb; show W.heap.size ≤ b; omega, heap4 (by have := HAW.out; have := hb; show b ≠ W.heap.size; omega) (.int .i64 k) (.string s) (.slice a1 n1 c1) (.slice a2 n2 c2)⟩), HZ.out, q2, d2, e2, b2, HP2.out, HQE.out.fin (Below.refl _ _) HQ2.out (.int .i64 k) (.string s) (.slice a1 n1 c1) (.slice a2 n2 c2), fun h => absurd E0.out h⟩
      have d91 : (x == 91) = false := by simpa using k91
      by_cases k34 : x = 34
      · subst k34
        go_wp2_with fail
        refine (text_any w1 w1 R p d 0 b1 ao cap T (HQ1.out.self (Below.refl _ _))).mono ?_
        rintro r w2 ⟨s, ⟨rfl, hss⟩, q2, d2, e2, b2, hq2, hs2, he2⟩
        have HX2 := hide (HX1.out.fr hs2.fr (by have := HRW.out; omega) (by simp))
        have HQ2 := hide (HQ1.out.go hs2.rq hs2.fr hs2.le hs2.db)
        have HSS := hide hss
        have HP2 := hide hq2
        clear hss hq2 hs2 he2 c3 lR
        have y0 := HX2.out.frozen 0
        have y1 := HX2.out.frozen 1
        have y2 := HX2.out.frozen 2
        have y3 := HX2.out.frozen 3
        have z0 := HX2.out.cell 0
        have z1 := HX2.out.cell 1
        have z2 := HX2.out.cell 2
        have z3 := HX2.out.cell 3
        have lA := HX2.out.lt
        go_wp2
        have z := (((HX2.out.set 0 (.int .i64 4)).set 1 (.string s)).set 2 (.slice none 0 0)).set 3 (.slice none 0 0)
        refine bodyPost_ret (results_rv rfl rfl z) rfl ?_
        exact ⟨(4, s, .slice none 0 0, .slice none 0 0), _, rfl, tin_leaf _ _ _ _, sz_leaf _ _ _ HSS.out, q2, d2, e2, b2, HP2.out, HQE.out.fin (Below.refl _ _) HQ2.out (.int .i64 4) (.string s) (.slice none 0 0) (.slice none 0 0), fun h => absurd E0.out h⟩
      have d34 : (x == 34) = false := by simpa using k34
      by_cases k116 : x = 116
      · subst k116
        go_wp2_with fail
        refine (word_true w1 w1 R p d 0 b1 ao cap T (HQ1.out.self (Below.refl _ _))).mono ?_
        rintro r w2 ⟨x2, Tr, rfl, ht, hsz, q2, d2, e2, b2, hq2, hs2, he2⟩
        obtain ⟨k, s, a1, n1, c1, a2, n2, c2, rfl⟩ := tin_form ht
        simp only [vagg]
        have HX2 := hide (HX1.out.fr hs2.fr (by have := HRW.out; omega) (by simp))
        have HQ2 := hide (HQ1.out.go hs2.rq hs2.fr hs2.le hs2.db)
        have HT := hide ht
        have HZ := hide hsz
        have HP2 := hide hq2
        clear ht hsz hq2 hs2 he2 c3 lR
        have y0 := HX2.out.frozen 0
        have y1 := HX2.out.frozen 1
        have y2 := HX2.out.frozen 2
        have y3 := HX2.out.frozen 3
        have z0 := HX2.out.cell 0
        have z1 := HX2.out.cell 1
        have z2 := HX2.out.cell 2
        have z3 := HX2.out.cell 3
        have lA := HX2.out.lt
        go_wp2
        have z := (((HX2.out.set 0 (.int .i64 k)).set 1 (.string s)).set 2 (.slice a1 n1 c1)).set 3 (.slice a2 n2 c2)
        refine bodyPost_ret (results_rv rfl rfl z) rfl ?_
        exact ⟨(k, s, .slice a1 n1 c1, .slice a2 n2 c2), _, rfl, HT.out.keep (fun b hb hlt => ⟨by have := HAW.out; have := hb; show W.heap.size ≤ b; omega, heap4 (by have := HAW.out; have := hb; show b ≠ W.heap.size; omega) (.int .i64 k) (.string s) (.slice a1 n1 c1) (.slice a2 n2 c2)⟩), HZ.out, q2, d2, e2, b2, HP2.out, HQE.out.fin (Below.refl _ _) HQ2.out (.int .i64 k) (.string s) (.slice a1 n1 c1) (.slice a2 n2 c2), fun h => absurd E0.out h⟩
      have d116 : (x == 116) = false := by simpa using k116
      by_cases k102 : x = 102
      · subst k102
        go_wp2_with fail
        refine (word_false w1 w1 R p d 0 b1 ao cap T (HQ1.out.self (Below.refl _ _))).mono ?_
        rintro r w2 ⟨x2, Tr, rfl, ht, hsz, q2, d2, e2, b2, hq2, hs2, he2⟩
        obtain ⟨k, s, a1, n1, c1, a2, n2, c2, rfl⟩ := tin_form ht
        simp only [vagg]
        have HX2 := hide (HX1.out.fr hs2.fr (by have := HRW.out; omega) (by simp))
        have HQ2 := hide (HQ1.out.go hs2.rq hs2.fr hs2.le hs2.db)
        have HT := hide ht
        have HZ := hide hsz
        have HP2 := hide hq2
        clear ht hsz hq2 hs2 he2 c3 lR
        have y0 := HX2.out.frozen 0
        have y1 := HX2.out.frozen 1
        have y2 := HX2.out.frozen 2
        have y3 := HX2.out.frozen 3
        have z0 := HX2.out.cell 0
        have z1 := HX2.out.cell 1
        have z2 := HX2.out.cell 2
        have z3 := HX2.out.cell 3
        have lA := HX2.out.lt
        go_wp2
        have z := (((HX2.out.set 0 (.int .i64 k)).set 1 (.string s)).set 2 (.slice a1 n1 c1)).set 3 (.slice a2 n2 c2)
        refine bodyPost_ret (results_rv rfl rfl z) rfl ?_
        exact ⟨(k, s, .slice a1 n1 c1, .slice a2 n2 c2), _, rfl, HT.out.keep (fun b hb hlt => ⟨by have := HAW.out; have := hb; show W.heap.size ≤ b; omega, heap4 (by have := HAW.out; have := hb; show b ≠ W.heap.size; omega) (.int .i64 k) (.string s) (.slice a1 n1 c1) (.slice a2 n2 c2)⟩), HZ.out, q2, d2, e2, b2, HP2.out, HQE.out.fin (Below.refl _ _) HQ2.out (.int .i64 k) (.string s) (.slice a1 n1 c1) (.slice a2 n2 c2), fun h => absurd E0.out h⟩
      have d102 : (x == 102) = false := by simpa using k102
      by_cases k110 : x = 110
      · subst k110
        go_wp2_with fail
        refine (word_null w1 w1 R p d 0 b1 ao cap T (HQ1.out.self (Below.refl _ _))).mono ?_
        rintro r w2 ⟨x2, Tr, rfl, ht, hsz, q2, d2, e2, b2, hq2, hs2, he2⟩
        obtain ⟨k, s, a1, n1, c1, a2, n2, c2, rfl⟩ := tin_form ht
        simp only [vagg]
        have HX2 := hide (HX1.out.fr hs2.fr (by have := HRW.out; omega) (by simp))
        have HQ2 := hide (HQ1.out.go hs2.rq hs2.fr hs2.le hs2.db)
        have HT := hide ht
        have HZ := hide hsz
        have HP2 := hide hq2
        clear ht hsz hq2 hs2 he2 c3 lR
        have y0 := HX2.out.frozen 0
        have y1 := HX2.out.frozen 1
        have y2 := HX2.out.frozen 2
        have y3 := HX2.out.frozen 3
        have z0 := HX2.out.cell 0
        have z1 := HX2.out.cell 1
        have z2 := HX2.out.cell 2
        have z3 := HX2.out.cell 3
        have lA := HX2.out.lt
        go_wp2
        have z := (((HX2.out.set 0 (.int .i64 k)).set 1 (.string s)).set 2 (.slice a1 n1 c1)).set 3 (.slice a2 n2 c2)
        refine bodyPost_ret (results_rv rfl rfl z) rfl ?_
        exact ⟨(k, s, .slice a1 n1 c1, .slice a2 n2 c2), _, rfl, HT.out.keep (fun b hb hlt => ⟨by have := HAW.out; have := hb; show W.heap.size ≤ b; omega, heap4 (by have := HAW.out; have := hb; show b ≠ W.heap.size; omega) (.int .i64 k) (.string s) (.slice a1 n1 c1) (.slice a2 n2 c2)⟩), HZ.out, q2, d2, e2, b2, HP2.out, HQE.out.fin (Below.refl _ _) HQ2.out (.int .i64 k) (.string s) (.slice a1 n1 c1) (.slice a2 n2 c2), fun h => absurd E0.out h⟩
      have d110 : (x == 110) = false := by simpa using k110
      go_wp2_with fail
      refine (number_any w1 w1 R p d 0 b1 ao cap T (HQ1.out.self (Below.refl _ _))).mono ?_
      rintro r w2 ⟨x2, Tr, rfl, ht, hsz, q2, d2, e2, b2, hq2, hs2, he2⟩
      obtain ⟨k, s, a1, n1, c1, a2, n2, c2, rfl⟩ := tin_form ht
      simp only [vagg]
      have HX2 := hide (HX1.out.fr hs2.fr (by have := HRW.out; omega) (by simp))
      have HQ2 := hide (HQ1.out.go hs2.rq hs2.fr hs2.le hs2.db)
      have HT := hide ht
      have HZ := hide hsz
      have HP2 := hide hq2
      clear ht hsz hq2 hs2 he2 c3 lR
      have y0 := HX2.out.frozen 0
      have y1 := HX2.out.frozen 1
      have y2 := HX2.out.frozen 2
      have y3 := HX2.out.frozen 3
      have z0 := HX2.out.cell 0
      have z1 := HX2.out.cell 1
      have z2 := HX2.out.cell 2
      have z3 := HX2.out.cell 3
      have lA := HX2.out.lt
      go_wp2
      have z := (((HX2.out.set 0 (.int .i64 k)).set 1 (.string s)).set 2 (.slice a1 n1 c1)).set 3 (.slice a2 n2 c2)
      refine bodyPost_ret (results_rv rfl rfl z) rfl ?_
      exact ⟨(k, s, .slice a1 n1 c1, .slice a2 n2 c2), _, rfl, HT.out.keep (fun b hb hlt => ⟨by have := HAW.out; have := hb; show W.heap.size ≤ b; omega, heap4 (by have := HAW.out; have := hb; show b ≠ W.heap.size; omega) (.int .i64 k) (.string s) (.slice a1 n1 c1) (.slice a2 n2 c2)⟩), HZ.out, q2, d2, e2, b2, HP2.out, HQE.out.fin (Below.refl _ _) HQ2.out (.int .i64 k) (.string s) (.slice a1 n1 c1) (.slice a2 n2 c2), fun h => absurd E0.out h⟩
    · have dz : (e1 != 0) = true := by simpa using he
      have HZ := hide he
      clear he HX
      have y0 := HX1.out.frozen 0
      have y1 := HX1.out.frozen 1
      have y2 := HX1.out.frozen 2
      have y3 := HX1.out.frozen 3
      have z0 := HX1.out.cell 0
      have z1 := HX1.out.cell 1
      have z2 := HX1.out.cell 2
      have z3 := HX1.out.cell 3
      have lA := HX1.out.lt
      go_wp2
      have z := (((HX1.out.set 0 (.int .i64 0)).set 1 (.string ⟨#[]⟩)).set 2 (.slice none 0 0)).set 3 (.slice none 0 0)
      refine bodyPost_ret (results_rv rfl rfl z) rfl ?_
      exact ⟨(0, ⟨#[]⟩, .slice none 0 0, .slice none 0 0), _, rfl, tin_leaf _ _ _ _, sz_leaf _ _ _ (Nat.zero_le _), p, d, e1, b1, Nat.le_refl _, HQE.out.fin (Below.refl _ _) HQ1.out (.int .i64 0) (.string ⟨#[]⟩) (.slice none 0 0) (.slice none 0 0), fun _ => HZ.out⟩

theorem value_any (w W : World) (R p : Nat) (d e b : Int) (ao : Option Addr) (cap : Nat) (T : List Nat) (h : QS T w W R ao cap p d e b) :
    Calls Tryz.prog 33 #[.pointer (some ⟨R, 0, none⟩)] W (QV T w R ao cap p e W.heap.size) := value_aux R ao cap T (T.length - p + 1) w W p d e b (by omega) h

end Go.Proofs.YtbdpmpepmjpadaaGreatDoor

namespace Go.Proofs.YtbdpmpepmjpadaaGreatDoor
set_option linter.unusedVariables false
set_option linter.unusedSimpArgs false
set_option maxRecDepth 100000
open Go Go.RowKit Go.Shelf Go.Lib

theorem results_rv3 {fn : Func} {i k j : Tmp} (h : fn.results = #[.cell i 36, .tmp k, .tmp j]) {tmps : Array Value} {W : World} {b : Nat} {x y z u : Value} {t : TypeId} {ev fv : Value} (hp : tmps.getD i undef = .pointer (some ⟨b, 0, none⟩)) (he : tmps.getD k undef = ev) (hf : tmps.getD j undef = fv) (T : BoxC W b t #[x, y, z, u]) :
    (results fn tmps).run Tryz.prog W = .ok (.tuple #[.agg #[x, y, z, u], ev, fv]) W := by
  have c0 : W.cell? ⟨b, 0, none⟩ = some x := T.cell 0
  have c1 : W.cell? ⟨b, 1, none⟩ = some y := T.cell 1
  have c2 : W.cell? ⟨b, 2, none⟩ = some z := T.cell 2
  have c3 : W.cell? ⟨b, 3, none⟩ = some u := T.cell 3
  have hp' : tmps[i]?.getD undef = .pointer (some ⟨b, 0, none⟩) := by simpa using hp
  have he' : tmps[k]?.getD undef = ev := by simpa using he
  have hf' : tmps[j]?.getD undef = fv := by simpa using hf
  simp [results, h, hp', he', hf', go_sem, c0, c1, c2, c3]
/-- What Parse answers, whatever its text: some tree, and two numbers. -/
def RParR (T : List Nat) (w : World) (r : Ending) (w' : World) : Prop :=
  ∃ (x : JC) (Tr : JT) (a e : Int), r = .returned (.tuple #[vagg x, .int .i64 a, .int .i64 e]) ∧ TIn w' (fun b => w.heap.size ≤ b) x Tr ∧ SzT T.length Tr ∧ Below w.heap.size w w'

set_option maxHeartbeats 16000000 in
theorem rparse_any (w : World) (ao : Option Addr) (cap : Nat) (T : List Nat) (hby : Byts w (.slice ao T.length cap) T) (hlen : T.length ≤ 1000000) (hcap : T.length ≤ cap) (hao : ∀ a, ao = some a → a.block < w.heap.size)
    (hval : ∀ W, Below w.heap.size w W → Calls Tryz.prog 31 #[.slice ao T.length cap] W fun r w' => ∃ a er : Int, r = .returned (.tuple #[.int .i64 a, .int .i64 er]) ∧ Below W.heap.size W w') :
    Calls Tryz.prog 11 #[.slice ao T.length cap] w (RParR T w) := by
  have hb0 := bel w (.cells #[.int .i64 0, .string ⟨#[]⟩, .slice none 0 0, .slice none 0 0] 36)
  have hx0 := BoxC.new w 36 #[.int .i64 0, .string ⟨#[]⟩, .slice none 0 0, .slice none 0 0]
  obtain ⟨w0, hw0⟩ : ∃ w0, w.alloc (.cells #[.int .i64 0, .string ⟨#[]⟩, .slice none 0 0, .slice none 0 0] 36) = w0 := ⟨_, rfl⟩
  rw [hw0] at hb0 hx0
  have HW0 := hide hw0
  have HB0 := hide hb0
  have HX0 := hide hx0
  have HV := hide (hval w0 hb0)
  have HBY := hide hby
  have HL := hide hlen
  have HC := hide hcap
  have HAO := hide hao
  clear hb0 hx0 hw0 hval hby hlen hcap hao
  go_enter Tryz.func11, Tryz.ntmps11
  go_upto_region 1 with fail
  show Code.wp _ _ _ _ (w.alloc (.cells #[.int .i64 0, .string ⟨#[]⟩, .slice none 0 0, .slice none 0 0] 36))
  rw [HW0.out]
  clear HW0
  go_wp2_with fail
  refine HV.out.mono ?_
  rintro r w1 ⟨a, er, rfl, hb1⟩
  have HB1 := hide (HB0.out.trans (hb1.mono HB0.out.size))
  have HX1 := hide (HX0.out.below hb1)
  clear hb1 HB0 HX0 HV
  by_cases he : er = 0
  · subst he
    have hb2 := bel w1 (.cells #[.slice ao T.length cap, .int .i64 0, .int .i64 0, .int .i64 0, .int .i64 0] 80)
    have hr2 := BoxC.new w1 80 #[.slice ao T.length cap, .int .i64 0, .int .i64 0, .int .i64 0, .int .i64 0]
    obtain ⟨w2, hw2⟩ : ∃ w2, w1.alloc (.cells #[.slice ao T.length cap, .int .i64 0, .int .i64 0, .int .i64 0, .int .i64 0] 80) = w2 := ⟨_, rfl⟩
    rw [hw2] at hb2 hr2
    have HR2 := hide hr2
    have HX2 := hide (HX1.out.below hb2)
    have HB2 := hide (HB1.out.trans (hb2.mono HB1.out.size))
    have HQ2 : Hid (QS T w2 w2 w1.heap.size ao cap 0 0 0 0) := hide ⟨hr2, ⟨HBY.out.below HB2.out, fun a ha => by have := HAO.out a ha; have := HB1.out.size; omega, HL.out, HC.out⟩, Fr.refl _ _ _, Nat.zero_le _, by refine ⟨?_, ?_, fun _ => ⟨?_, ?_⟩⟩ <;> omega⟩
    have HW2 := hide hw2
    have hRA : ¬ w1.heap.size = w.heap.size := by have := HX1.out.lt; omega
    have hRB : ¬ w.heap.size = w1.heap.size := by have := HX1.out.lt; omega
    have HR9 : Hid (w1.heap.size < w2.heap.size) := hide hr2.lt
    clear hb2 hr2 hw2
    go_upto_region 5 with fail
    show Code.wp _ _ _ _ (w1.alloc (.cells #[.slice ao T.length cap, .int .i64 0, .int .i64 0, .int .i64 0, .int .i64 0] 80))
    rw [HW2.out]
    clear HW2
    go_wp2_with fail
    refine (blank_q w2 w2 w1.heap.size 0 0 0 0 ao cap T HQ2.out).mono ?_
    rintro r w3 ⟨rfl, q3, hq3, hs3⟩
    have HQ3 := hide hs3
    clear hq3 hs3 HQ2 HR2
    go_wp2_with fail
    refine (value_any w3 w3 w1.heap.size q3 0 0 0 ao cap T (HQ3.out.self (Below.refl _ _))).mono ?_
    rintro r w4 ⟨x, Tr, rfl, ht, hz, q4, d4, e4, b4, hq4, hs4, he4⟩
    obtain ⟨k, s, a1, n1, c1, a2, n2, c2, rfl⟩ := tin_form ht
    simp only [vagg]
    have HQ4 := hide (HQ3.out.go hs4.rq hs4.fr hs4.le hs4.db)
    have HT4 : Hid (TIn w4 (fun b => w2.heap.size ≤ b) (k, s, .slice a1 n1 c1, .slice a2 n2 c2) Tr) := hide (ht.keep fun b hb hlt => ⟨Nat.le_trans HQ3.out.fr.size hb, rfl⟩)
    have HZ4 := hide hz
    clear ht hz hq4 hs4 he4 HQ3
    have hb5 := bel w4 (.cells #[.int .i64 k, .string s, .slice a1 n1 c1, .slice a2 n2 c2] 36)
    have hd5 := BoxC.new w4 36 #[.int .i64 k, .string s, .slice a1 n1 c1, .slice a2 n2 c2]
    obtain ⟨w5, hw5⟩ : ∃ w5, w4.alloc (.cells #[.int .i64 k, .string s, .slice a1 n1 c1, .slice a2 n2 c2] 36) = w5 := ⟨_, rfl⟩
    rw [hw5] at hb5 hd5
    have HW5 := hide hw5
    have HQ5 := hide (HQ4.out.below hb5)
    have HT5 := hide (HT4.out.bel hb5)
    have HD5 := hide hd5
    have HRD : Hid (w1.heap.size < w2.heap.size ∧ w2.heap.size ≤ w4.heap.size) := hide ⟨by have := HR9.out; omega, HQ4.out.fr.size⟩
    clear hb5 hd5 hw5 HQ4 HT4
    go_upto_region 7 with fail
    show Code.wp _ _ _ _ (w4.alloc (.cells #[.int .i64 k, .string s, .slice a1 n1 c1, .slice a2 n2 c2] 36))
    rw [HW5.out]
    clear HW5
    go_wp2_with fail
    refine (blank_q w5 w5 w1.heap.size q4 d4 e4 b4 ao cap T (HQ5.out.self (Below.refl _ _))).mono ?_
    rintro r w6 ⟨rfl, q6, hq6, hs6⟩
    have HQ6 := hide (HQ5.out.go hs6.rq hs6.fr hs6.le hs6.db)
    have HT6 := hide (HT5.out.keep (S' := fun b => w2.heap.size ≤ b) fun b hb hlt => ⟨hb, hs6.fr.block hlt (by have := HRD.out; have := hb; omega) (by simp)⟩)
    have HD6 := hide (HD5.out.fr hs6.fr (by have := HRD.out; omega) (by simp))
    clear hq6 hs6 HQ5 HT5 HD5
    have c3 : w6.cell? ⟨w1.heap.size, 3, none⟩ = some (.int .i64 e4) := HQ6.out.rq.cell 3
    have c1_ : w6.cell? ⟨w1.heap.size, 1, none⟩ = some (.int .i64 (q6 : Int)) := HQ6.out.rq.cell 1
    have lR6 := HQ6.out.rq.lt
    by_cases hz : e4 = 0
    · subst hz
      by_cases hlt : (q6 : Int) < (T.length : Int)
      · go_wp2_with fail
        refine (fail_q w2 w6 w1.heap.size q6 d4 0 b4 12 _ ao cap T HQ6.out (by omega)).mono ?_
        rintro r w7 ⟨e7, b7, rfl, hq7, he7⟩
        have HQ7 := hide hq7
        have dm : (e7 != 0) = true := by simpa using he7
        clear hq7 he7 c3 c1_ lR6 HD6 HT6
        have HXE := hide (HX2.out.fr HQ7.out.fr hRB (by simp))
        have y0 := HXE.out.frozen 0
        have y1 := HXE.out.frozen 1
        have y2 := HXE.out.frozen 2
        have y3 := HXE.out.frozen 3
        have z0 := HXE.out.cell 0
        have z1 := HXE.out.cell 1
        have z2 := HXE.out.cell 2
        have z3 := HXE.out.cell 3
        have lA := HXE.out.lt
        have k3 : w7.cell? ⟨w1.heap.size, 3, none⟩ = some (.int .i64 e7) := HQ7.out.rq.cell 3
        have k4 : w7.cell? ⟨w1.heap.size, 4, none⟩ = some (.int .i64 b7) := HQ7.out.rq.cell 4
        have lR := HQ7.out.rq.lt
        have HBE : Hid (Below w.heap.size w w7) := hide (HB2.out.trans (HQ7.out.fr.below HB1.out.size (by simp) HB2.out.size))
        go_upto_region 11 with fail
        go_region_with (fail)
        all_goals
          go_wp2
          have z := ((((HXE.out.set 0 (.int .i64 0)).set 1 (.string ⟨#[]⟩)).set 2 (.slice none 0 0)).set 3 (.slice none 0 0)).below (Below.refl _ _).drew
          refine bodyPost_ret (results_rv3 rfl rfl rfl rfl z) rfl ?_
          exact ⟨(0, ⟨#[]⟩, .slice none 0 0, .slice none 0 0), _, _, _, rfl, tin_leaf _ _ _ _, sz_leaf _ _ _ (Nat.zero_le _), (below4 HBE.out (Nat.le_refl _) (.int .i64 0) (.string ⟨#[]⟩) (.slice none 0 0) (.slice none 0 0)).drew⟩
      · have HXE := hide (HX2.out.fr HQ6.out.fr hRB (by simp))
        have y0 := HXE.out.frozen 0
        have y1 := HXE.out.frozen 1
        have y2 := HXE.out.frozen 2
        have y3 := HXE.out.frozen 3
        have z0 := HXE.out.cell 0
        have z1 := HXE.out.cell 1
        have z2 := HXE.out.cell 2
        have z3 := HXE.out.cell 3
        have lA := HXE.out.lt
        have u0_ := HD6.out.cell 0
        have u1_ := HD6.out.cell 1
        have u2_ := HD6.out.cell 2
        have u3_ := HD6.out.cell 3
        have lD := HD6.out.lt
        have HBE : Hid (Below w.heap.size w w6) := hide (HB2.out.trans (HQ6.out.fr.below HB1.out.size (by simp) HB2.out.size))
        go_wp2
        have z := (((HXE.out.set 0 (.int .i64 k)).set 1 (.string s)).set 2 (.slice a1 n1 c1)).set 3 (.slice a2 n2 c2)
        refine bodyPost_ret (results_rv3 rfl rfl rfl rfl z) rfl ?_
        exact ⟨(k, s, .slice a1 n1 c1, .slice a2 n2 c2), _, _, _, rfl, HT6.out.keep (fun b hb hlt => ⟨by have := HB2.out.size; have := hb; show w.heap.size ≤ b; omega, heap4 (by have := HRD.out; have := HB1.out.size; have := hb; show b ≠ w.heap.size; omega) (.int .i64 k) (.string s) (.slice a1 n1 c1) (.slice a2 n2 c2)⟩), HZ4.out, below4 HBE.out (Nat.le_refl _) (.int .i64 k) (.string s) (.slice a1 n1 c1) (.slice a2 n2 c2)⟩
    · have dq : (e4 == 0) = false := by simpa using hz
      have dm : (e4 != 0) = true := by simpa using hz
      clear hz c3 c1_ lR6 HD6 HT6
      have c3 : w6.cell? ⟨w1.heap.size, 3, none⟩ = some (.int .i64 e4) := HQ6.out.rq.cell 3
      have HXE := hide (HX2.out.fr HQ6.out.fr hRB (by simp))
      have y0 := HXE.out.frozen 0
      have y1 := HXE.out.frozen 1
      have y2 := HXE.out.frozen 2
      have y3 := HXE.out.frozen 3
      have z0 := HXE.out.cell 0
      have z1 := HXE.out.cell 1
      have z2 := HXE.out.cell 2
      have z3 := HXE.out.cell 3
      have lA := HXE.out.lt
      have k3 : w6.cell? ⟨w1.heap.size, 3, none⟩ = some (.int .i64 e4) := HQ6.out.rq.cell 3
      have k4 : w6.cell? ⟨w1.heap.size, 4, none⟩ = some (.int .i64 b4) := HQ6.out.rq.cell 4
      have lR := HQ6.out.rq.lt
      have HBE : Hid (Below w.heap.size w w6) := hide (HB2.out.trans (HQ6.out.fr.below HB1.out.size (by simp) HB2.out.size))
      go_upto_region 11 with fail
      go_region_with (fail)
      all_goals
        go_wp2
        have z := ((((HXE.out.set 0 (.int .i64 0)).set 1 (.string ⟨#[]⟩)).set 2 (.slice none 0 0)).set 3 (.slice none 0 0)).below (Below.refl _ _).drew
        refine bodyPost_ret (results_rv3 rfl rfl rfl rfl z) rfl ?_
        exact ⟨(0, ⟨#[]⟩, .slice none 0 0, .slice none 0 0), _, _, _, rfl, tin_leaf _ _ _ _, sz_leaf _ _ _ (Nat.zero_le _), (below4 HBE.out (Nat.le_refl _) (.int .i64 0) (.string ⟨#[]⟩) (.slice none 0 0) (.slice none 0 0)).drew⟩
  · have dz : (er != 0) = true := by simpa using he
    clear he
    have y0 := HX1.out.frozen 0
    have y1 := HX1.out.frozen 1
    have y2 := HX1.out.frozen 2
    have y3 := HX1.out.frozen 3
    have z0 := HX1.out.cell 0
    have z1 := HX1.out.cell 1
    have z2 := HX1.out.cell 2
    have z3 := HX1.out.cell 3
    have lA := HX1.out.lt
    go_wp2
    have z := (((HX1.out.set 0 (.int .i64 0)).set 1 (.string ⟨#[]⟩)).set 2 (.slice none 0 0)).set 3 (.slice none 0 0)
    refine bodyPost_ret (results_rv3 rfl rfl rfl rfl z) rfl ?_
    exact ⟨(0, ⟨#[]⟩, .slice none 0 0, .slice none 0 0), _, _, _, rfl, tin_leaf _ _ _ _, sz_leaf _ _ _ (Nat.zero_le _), below4 HB1.out (Nat.le_refl _) (.int .i64 0) (.string ⟨#[]⟩) (.slice none 0 0) (.slice none 0 0)⟩

end Go.Proofs.YtbdpmpepmjpadaaGreatDoor

namespace Go.Proofs.YtbdpmpepmjpadaaGreatDoor
set_option linter.unusedVariables false
set_option linter.unusedSimpArgs false
open Go Go.RowKit Go.Shelf Go.Lib

end Go.Proofs.YtbdpmpepmjpadaaGreatDoor

namespace Go.Proofs.YtbdpmpepmjpadaaGreatDoor
set_option linter.unusedVariables false
set_option linter.unusedSimpArgs false
open Go Go.RowKit Go.Shelf Go.Lib

end Go.Proofs.YtbdpmpepmjpadaaGreatDoor

namespace Go.Proofs.YtbdpmpepmjpadaaGreatDoor
set_option linter.unusedVariables false
set_option linter.unusedSimpArgs false
open Go Go.RowKit Go.Shelf Go.Lib

theorem ownsRow_keep {W W' : World} {base : Nat} {e : TypeId} {size : Nat} {v : Value} {n : Nat} {xs : List Value} (h : W.ownsRow base e size v n xs) (hb : Below W.heap.size W W') : W'.ownsRow base e size v n xs := by
  refine ⟨h.1, ?_⟩
  rcases h.2 with hn | ⟨g2, cap, cur, hv, h1, h2, h3⟩
  · exact .inl hn
  · exact .inr ⟨g2, cap, cur, hv, h1, (hb.block g2 (Array.getElem?_eq_some_iff.1 h2).1).trans h2, h3⟩
def nthI (L : List Int) (i : Nat) : Int := L[i]?.getD 0
def icells (L : List Int) : List Value := L.map (fun z : Int => Value.int .i64 z)
/-- A slice of ints: it holds these. -/
def IntsIn (W : World) (v : Value) (L : List Int) : Prop := ∃ ao cap, v = .slice ao L.length cap ∧ ∀ j, j < L.length → ∃ b off, ao = some ⟨b, off, none⟩ ∧ W.cell? ⟨b, off + j, none⟩ = some (.int .i64 (nthI L j))
theorem IntsIn.below {W W' : World} {v : Value} {L : List Int} (h : IntsIn W v L) (hb : Below W.heap.size W W') : IntsIn W' v L := by
  obtain ⟨ao, cap, h1, h3⟩ := h
  refine ⟨ao, cap, h1, fun j hj => ?_⟩
  obtain ⟨b, off, h4, h5⟩ := h3 j hj
  exact ⟨b, off, h4, (hb.cell (p := ⟨b, off + j, none⟩) (block_lt h5)).trans h5⟩

/-- Ints that the call has gathered in memory of its own. -/
def OwnI (n₀ : Nat) (W : World) (v : Value) (L : List Int) : Prop := W.ownsRow n₀ 3 1 v L.length (icells L)
theorem OwnI.keep {n₀ : Nat} {W W' : World} {v : Value} {L : List Int} (h : OwnI n₀ W v L) (hb : Below W.heap.size W W') : OwnI n₀ W' v L := ownsRow_keep h hb
theorem OwnI.pushed {n₀ : Nat} {w wr w1 : World} {v v' : Value} {L : List Int} {o : Obj} {d : Int} (h : OwnI n₀ wr v L) (hB : Below w.heap.size w wr) (hn : w.heap.size ≤ n₀) (hn2 : n₀ ≤ wr.heap.size)
    (hown : w1.ownsRow n₀ 3 1 v' (L.length + 1) (icells L ++ [.int .i64 d])) (hg : (wr.alloc o).grownBy w1 v.ownBlock) :
    OwnI n₀ w1 v' (L ++ [d]) ∧ Below w.heap.size w w1 := by
  refine ⟨?_, ?_⟩
  · unfold OwnI
    have e1 : (L ++ [d]).length = L.length + 1 := by simp
    have e2 : icells (L ++ [d]) = icells L ++ [.int .i64 d] := by simp [icells]
    rw [e1, e2]
    exact hown
  · exact (hB.alloc hB.size o).grown hg (by simp; have := hB.size; omega) (fun j hj => by have := (h.lt j hj).1; omega)

end Go.Proofs.YtbdpmpepmjpadaaGreatDoor

namespace Go.Proofs.YtbdpmpepmjpadaaGreatDoor
set_option linter.unusedVariables false
set_option linter.unusedSimpArgs false
open Go Go.RowKit Go.Shelf Go.Lib

theorem infoLet : (Tryz.prog.info? 110).map (fun i => (i.zero, i.size, i.bytes)) = some (some (.agg #[.int .i64 0, .int .i64 0, .int .i64 0]), 3, 24) := by kernel_rfl
theorem three_cells {k : IntKind} {x y z : Int} : ∀ u ∈ [Value.int k x, Value.int k y, Value.int k z], u.oneCell' = true := fun u hu => by
  simp at hu
  rcases hu with rfl | rfl | rfl <;> rfl

/-- The first k letters, as cells. -/
def ltcells (T : List Nat) : Nat → List Value
  | 0 => []
  | k + 1 => ltcells T k ++ [.int .i64 ((posL T k : Nat) : Int), .int .i64 (runeAt T (posL T k)), .int .i64 ((sizeAt T (posL T k) : Nat) : Int)]
theorem ltcells_length (T : List Nat) (k : Nat) : (ltcells T k).length = k * 3 := by
  induction k with
  | zero => rfl
  | succ k ih => unfold ltcells; rw [List.length_append, ih]; simp; omega
theorem ltcells_get (T : List Nat) (k : Nat) : ∀ j, j < k → (ltcells T k)[3 * j]? = some (.int .i64 ((posL T j : Nat) : Int)) ∧ (ltcells T k)[3 * j + 1]? = some (.int .i64 (runeAt T (posL T j))) ∧ (ltcells T k)[3 * j + 2]? = some (.int .i64 ((sizeAt T (posL T j) : Nat) : Int)) := by
  induction k with
  | zero => intro j hj; omega
  | succ k ih =>
    intro j hj
    have hl := ltcells_length T k
    unfold ltcells
    rcases Nat.lt_succ_iff_lt_or_eq.1 hj with h | h
    · obtain ⟨h1, h2, h3⟩ := ih j h
      rw [List.getElem?_append_left (by omega), List.getElem?_append_left (by omega), List.getElem?_append_left (by omega)]
      exact ⟨h1, h2, h3⟩
    · subst h
      rw [List.getElem?_append_right (by omega), List.getElem?_append_right (by omega), List.getElem?_append_right (by omega), hl]
      rw [show 3 * j - j * 3 = 0 by omega, show 3 * j + 1 - j * 3 = 1 by omega, show 3 * j + 2 - j * 3 = 2 by omega]
      exact ⟨rfl, rfl, rfl⟩

/-- A list of letters in memory. -/
def LetsIn (W : World) (v : Value) (T : List Nat) (N : Nat) : Prop := ∃ ao cap, v = .slice ao N cap ∧ ∀ j, j < N → ∃ b, ao = some ⟨b, 0, none⟩ ∧ W.cell? ⟨b, 3 * j, none⟩ = some (.int .i64 ((posL T j : Nat) : Int)) ∧ W.cell? ⟨b, 3 * j + 1, none⟩ = some (.int .i64 (runeAt T (posL T j))) ∧ W.cell? ⟨b, 3 * j + 2, none⟩ = some (.int .i64 ((sizeAt T (posL T j) : Nat) : Int))
theorem LetsIn.below {W W' : World} {v : Value} {T : List Nat} {N : Nat} (h : LetsIn W v T N) (hb : Below W.heap.size W W') : LetsIn W' v T N := by
  obtain ⟨ao, cap, h1, h3⟩ := h
  refine ⟨ao, cap, h1, fun j hj => ?_⟩
  obtain ⟨b, h4, h5, h6, h7⟩ := h3 j hj
  exact ⟨b, h4, (hb.cell (p := ⟨b, 3 * j, none⟩) (block_lt h5)).trans h5, (hb.cell (p := ⟨b, 3 * j + 1, none⟩) (block_lt h6)).trans h6, (hb.cell (p := ⟨b, 3 * j + 2, none⟩) (block_lt h7)).trans h7⟩
def OwnL (n₀ : Nat) (W : World) (v : Value) (T : List Nat) (k : Nat) : Prop := W.ownsRow n₀ 110 3 v k (ltcells T k)
theorem OwnL.lets {n₀ : Nat} {W : World} {v : Value} {T : List Nat} {k : Nat} (h : OwnL n₀ W v T k) : LetsIn W v T k := by
  rcases h.2 with ⟨rfl, h0⟩ | ⟨g, cap, cur, rfl, hg, hh, hn, hm, hc, ht⟩
  · exact ⟨none, 0, by rw [h0], fun j hj => by omega⟩
  · refine ⟨some ⟨g, 0, none⟩, cap, rfl, fun j hj => ⟨g, rfl, ?_⟩⟩
    have hca := World.ownsRow.cellAt (show W.ownsRow n₀ 110 3 (.slice (some ⟨g, 0, none⟩) k cap) k (ltcells T k) from h)
    obtain ⟨h1, h2, h3⟩ := ltcells_get T k j hj
    exact ⟨(hca (3 * j) (by omega)).trans h1, (hca (3 * j + 1) (by omega)).trans h2, (hca (3 * j + 2) (by omega)).trans h3⟩
theorem OwnL.keep {n₀ : Nat} {W W' : World} {v : Value} {T : List Nat} {k : Nat} (h : OwnL n₀ W v T k) (hb : Below W.heap.size W W') : OwnL n₀ W' v T k := ownsRow_keep h hb
theorem OwnL.pushed {n₀ : Nat} {w wr w1 : World} {v v' : Value} {T : List Nat} {k : Nat} {o : Obj} {a r s : Int} (h : OwnL n₀ wr v T k) (hB : Below w.heap.size w wr) (hn : w.heap.size ≤ n₀) (hn2 : n₀ ≤ wr.heap.size)
    (hown : w1.ownsRow n₀ 110 3 v' (k + 1) (ltcells T k ++ [.int .i64 a, .int .i64 r, .int .i64 s])) (hg : (wr.alloc o).grownBy w1 v.ownBlock) (ha : a = ((posL T k : Nat) : Int)) (hr : r = runeAt T (posL T k)) (hs : s = ((sizeAt T (posL T k) : Nat) : Int)) :
    OwnL n₀ w1 v' T (k + 1) ∧ Below w.heap.size w w1 := by
  refine ⟨?_, ?_⟩
  · subst ha hr hs
    exact hown
  · exact (hB.alloc hB.size o).grown hg (by simp; have := hB.size; omega) (fun j hj => by have := (h.lt j hj).1; omega)

theorem rune_none {T : List Nat} {p : Nat} (h : runeAt T p = -1) : sizeAt T p = 1 := by
  unfold runeAt at h
  split at h
  · rename_i hh; exact hh.2
  · omega

set_option maxRecDepth 100000 in
set_option maxHeartbeats 4000000 in
theorem rletters_calls (w : World) (ao : Option Addr) (cap : Nat) (T : List Nat) (N : Nat) (h : Byts w (.slice ao T.length cap) T) (hcap : T.length ≤ cap) (h1 : ∀ k, k < N → posL T k < T.length) (h2 : posL T N = T.length) (hlen : T.length ≤ 1000000000) :
    Calls Tryz.prog 54 #[.slice ao T.length cap] w fun e w' => ∃ rv, e = .returned rv ∧ LetsIn w' rv T N ∧ Below w.heap.size w w' := by
  obtain ⟨i0, hi, hz0, hz1, hz2⟩ := info_parts infoLet
  have H := hide h
  have hsm := h.small
  have hN : N ≤ T.length := by have := posL_ge hsm h1 N (Nat.le_refl _); omega
  clear h
  go_enter Tryz.func54, Tryz.ntmps54
  go_wp2
  go_loopw [3, 4] (fun l i wr => ∃ k : Nat, k ≤ N ∧ i = .int .i64 ((posL T k : Nat) : Int) ∧ OwnL w.heap.size wr l T k ∧ Below w.heap.size w wr) (fun _ i _ => T.length - (RowKit.intOf i).toNat)
  case atStart => exact ⟨0, Nat.zero_le _, rfl, World.ownsRow_nil _ _ _ _, Below.refl _ _⟩
  case round =>
    obtain ⟨k, hk, rfl, hown, hB⟩ := hrel
    by_cases hlt : k < N
    · have hp := h1 k hlt
      have hps : posL T (k + 1) = posL T k + sizeAt T (posL T k) := rfl
      obtain ⟨s1, s2, s3⟩ := size_bounds hsm hp
      obtain ⟨b, off, rfl, _⟩ : ∃ b off, ao = some ⟨b, off, none⟩ ∧ True := by
        obtain ⟨_, _, e, _, hc⟩ := H.out
        cases e
        obtain ⟨b, off, e, _⟩ := hc 0 (by omega)
        exact ⟨b, off, e, trivial⟩
      have HO := hide (rone_calls wr b off cap T (posL T k) (H.out.below hB) hcap hp hlen)
      have Hown := hide hown
      have HB := hide hB
      have Hps := hide hps
      have H1 := hide h1
      have hkN : k ≤ 1000000000 := by omega
      have H2 := hide h2
      have Hsm := hide hsm
      generalize hP : posL T k = P at *
      generalize hS : sizeAt T P = S at *
      generalize hR : runeAt T P = R at *
      have HPP := hide hP
      have HSS := hide hS
      have HRR := hide hR
      clear hown hB hps h1 h2 hsm hP hS
      have dlt : (P : Int) < (T.length : Int) := by omega
      go_wp2_with fail
      refine HO.out.mono ?_
      rintro e W2 ⟨r, s, rfl, hcase, hb2⟩
      have HB2 := hide (bafter HB.out hb2 (Nat.le_refl _))
      have Hown2 := hide (Hown.out.keep hb2)
      have hwr : w.heap.size ≤ W2.heap.size := HB2.out.size
      clear hb2 HO Hown HB
      rcases hcase with ⟨hr, rfl, rfl⟩ | ⟨hr, rfl, rfl⟩
      · have hS1 : S = 1 := by rw [← HSS.out]; exact rune_none (by rw [HRR.out]; exact hr)
        have HSS1 := hide hS1
        have HR := hide hr
        clear hr hR hS1
        go_wp2_with (at_builtin; go_must (refine wpList_append_own _ rfl (.tmp 19) (.tmp 22) 107 rfl w.heap.size 110 i0 (.agg #[.int .i64 0, .int .i64 0, .int .i64 0]) 3 24 Tryz.underlying107 hi hz0 hz1 hz2 rfl (by decide) _ k (ltcells T k) rfl (by exact World.ownsRow.alloc Hown2.out _) ⟨W2.heap.size, 0, none⟩ 1 1 [.int .i64 (P : Int), .int .i64 (-1), .int .i64 1] rfl rfl (by exact World.news_of_block (World.alloc_heap_new _ _)) three_cells (by unfold maxLen; omega) (by omega) (by simp; omega) ?_; intro v' w1 hown' hgrow hnil))
        have hp2 := OwnL.pushed Hown2.out HB2.out (Nat.le_refl _) HB2.out.size hown' hgrow (by rw [HPP.out]) (by rw [HPP.out, HRR.out, HR.out]) (by rw [HPP.out, HSS.out, HSS1.out]; rfl)
        go_roundw
        case rel => exact ⟨k + 1, by omega, by rw [Hps.out, HSS1.out]; go_num, hp2.1, hp2.2⟩
        case measure => simp [RowKit.intOf]; omega
      · have HR := hide hr
        have hS0 : ((S : Int) == 0) = false := beq_eq_false_iff_ne.2 (by omega)
        obtain ⟨Z, hZ⟩ : ∃ Z, P + S = Z := ⟨_, rfl⟩
        have hZ' : (P : Int) + (S : Int) = (Z : Int) := by omega
        have HZ := hide hZ
        clear hr hR hZ
        go_wp2_with (at_builtin; go_must (refine wpList_append_own _ rfl (.tmp 26) (.tmp 31) 107 rfl w.heap.size 110 i0 (.agg #[.int .i64 0, .int .i64 0, .int .i64 0]) 3 24 Tryz.underlying107 hi hz0 hz1 hz2 rfl (by decide) _ k (ltcells T k) rfl (by exact World.ownsRow.alloc Hown2.out _) ⟨W2.heap.size, 0, none⟩ 1 1 [.int .i64 (P : Int), .int .i64 r, .int .i64 (S : Int)] rfl rfl (by exact World.news_of_block (World.alloc_heap_new _ _)) three_cells (by unfold maxLen; omega) (by omega) (by simp; omega) ?_; intro v' w1 hown' hgrow hnil))
        have hp2 := OwnL.pushed Hown2.out HB2.out (Nat.le_refl _) HB2.out.size hown' hgrow (by rw [HPP.out]) (by rw [HPP.out, HRR.out]) (by rw [HPP.out, HSS.out])
        go_roundw
        case rel => exact ⟨k + 1, by omega, by rw [Hps.out, HZ.out], hp2.1, hp2.2⟩
        case measure => (have := HZ.out; simp [RowKit.intOf]; omega)
    · obtain rfl : k = N := by omega
      have d1 : ¬ ((posL T k : Nat) : Int) < (T.length : Int) := by omega
      have Hown := hide hown
      have HB := hide hB
      clear hown hB h1
      go_wp2
      go_ret
      exact ⟨_, rfl, Hown.out.lets, HB.out⟩

end Go.Proofs.YtbdpmpepmjpadaaGreatDoor

namespace Go.Proofs.YtbdpmpepmjpadaaGreatDoor
set_option linter.unusedVariables false
set_option linter.unusedSimpArgs false
open Go Go.RowKit Go.Shelf Go.Lib

theorem rune_sign (T : List Nat) (p : Nat) : runeAt T p = -1 ∨ 0 ≤ runeAt T p := by
  unfold runeAt
  split
  · exact .inl rfl
  · exact .inr (by omega)
set_option maxRecDepth 100000 in
set_option maxHeartbeats 4000000 in
theorem rvalid_calls (w : World) (ao : Option Addr) (cap : Nat) (T : List Nat) (N : Nat) (h : Byts w (.slice ao T.length cap) T) (hcap : T.length ≤ cap) (h1 : ∀ k, k < N → posL T k < T.length) (h2 : posL T N = T.length) (hlen : T.length ≤ 1000000000) :
    Calls Tryz.prog 31 #[.slice ao T.length cap] w fun e w' => ∃ (a : Nat) (er : Int), e = .returned (.tuple #[.int .i64 (a : Int), .int .i64 er]) ∧ Told T N a er ∧ Below w.heap.size w w' := by
  have hN : N ≤ T.length := by have := posL_ge h.small h1 N (Nat.le_refl _); omega
  have HL := hide (rletters_calls w ao cap T N h hcap h1 h2 hlen)
  clear h h1 h2
  go_enter Tryz.func31, Tryz.ntmps31
  go_wp2_with (go_at_call 54; refine HL.out.mono ?_; rintro e W1 ⟨rv, rfl, hl, hb⟩)
  obtain ⟨lo, lc, rfl, hc⟩ := hl
  have HC := hide hc
  have HB := hide hb
  clear hc hb HL
  go_loopw [5] (fun i wr => ∃ k : Nat, k ≤ N ∧ i = .int .i64 (k : Int) ∧ (∀ j, j < k → runeAt T (posL T j) ≠ -1) ∧ wr = W1) (fun i _ => N - (RowKit.intOf i).toNat)
  case atStart => exact ⟨0, Nat.zero_le _, rfl, fun j hj => by omega, rfl⟩
  case round =>
    obtain ⟨k, hk, rfl, hno, rfl⟩ := hrel
    have HN := hide hno
    clear hno
    by_cases hlt : k < N
    · obtain ⟨b, rfl, c0, c1, c2⟩ := HC.out k hlt
      have hs := rune_sign T (posL T k)
      have d1 : (k : Int) < (N : Int) := by omega
      have d0 : (0 : Int) ≤ (k : Int) := by omega
      have hkm : k * 3 = 3 * k := by omega
      generalize hP : posL T k = P at *
      generalize hR : runeAt T P = R at *
      have HP := hide hP
      have HR := hide hR
      clear hP hR
      by_cases hneg : R < 0
      · have hR1 : R = -1 := by omega
        have HR1 := hide hR1
        clear hR1 hs
        go_wp2
        go_ret2
        exact ⟨P, 10, rfl, .inl ⟨k, hlt, HN.out, by rw [HP.out, HR.out, HR1.out], by rw [HP.out], rfl⟩, HB.out⟩
      · clear hs
        go_wp2
        go_roundw
        case rel =>
          refine ⟨k + 1, by omega, by go_num, fun j hj => ?_, trivial⟩
          rcases Nat.lt_succ_iff_lt_or_eq.1 hj with g | g
          · exact HN.out j g
          · rw [g, HP.out, HR.out]; omega
        case measure => simp [RowKit.intOf]; omega
    · obtain rfl : k = N := by omega
      have d1 : ¬ (k : Int) < (k : Int) := by omega
      go_wp2
      go_ret2
      exact ⟨0, 0, rfl, .inr ⟨HN.out, rfl, rfl⟩, HB.out⟩


end Go.Proofs.YtbdpmpepmjpadaaGreatDoor

namespace Go.Proofs.YtbdpmpepmjpadaaGreatDoor
set_option linter.unusedVariables false
set_option linter.unusedSimpArgs false
set_option maxRecDepth 100000
open Go Go.RowKit Go.Shelf Go.Lib

theorem sz_lt {N : Nat} (hN : N ≤ 20000) {T : JT} (h : SzT N T) : LtT T := by
  induction h with
  | mk k s K L hK hL hs ht ih => exact .mk k s K L (by omega) (by omega) (fun _ => by omega) ih
/-- The reference's Parse, of any text that is short enough: it ends with some tree. -/
theorem rparse_all (w : World) (ao : Option Addr) (cap : Nat) (T : List Nat) (hby : Byts w (.slice ao T.length cap) T) (hlen : T.length ≤ 1000000) (hcap : T.length ≤ cap) (hao : ∀ a, ao = some a → a.block < w.heap.size) :
    Calls Tryz.prog 11 #[.slice ao T.length cap] w (RParR T w) := by
  refine rparse_any w ao cap T hby hlen hcap hao fun W hW => ?_
  have hb := hby.below hW
  obtain ⟨N, h1, h2⟩ := letters_count hby.small
  refine (rvalid_calls W ao cap T N hb hcap h1 h2 (by omega)).mono ?_
  rintro e w' ⟨a, er, rfl, _, h3⟩
  exact ⟨_, _, rfl, h3⟩

end Go.Proofs.YtbdpmpepmjpadaaGreatDoor

namespace Go.Proofs.YtbdpmpepmjpadaaGreatDoor
set_option linter.unusedVariables false
set_option linter.unusedSimpArgs false
set_option maxRecDepth 100000
open Go Go.RowKit Go.Shelf Go.Lib

/-- Behind Result: its answer lies in a box. -/
def AnsC (w4 : World) (T : JT) (s13 : Value) (wx : World) : Prop := ∃ (B : Nat) (y : JC), s13 = .pointer (some ⟨B, 0, none⟩) ∧ BoxC wx B 27 #[.int .i64 y.1, .string y.2.1, y.2.2.1, y.2.2.2] ∧ TIn wx (fun _ => True) y T ∧ Below w4.heap.size w4 wx
theorem msg_eq {k1 k2 : ByteArray} {A A' C C' : JT} (h1 : eqJ A A' = true) (h2 : eqJ C C' = true) : eqJ (msgT k1 k2 A C) (msgT k1 k2 A' C') = true := by
  unfold msgT
  rw [eqJ]
  simp [eqJs, h1, h2, eqJ_refl]

set_option maxHeartbeats 32000000 in
theorem makes_any {w : World} (hU : Utf8Tabs 0 1 w) (hE : ErrS w) (hP : Pow w) (ao bo : Option Addr) (cap dap : Nat) (T U : List Nat) (hby : Byts w (.slice ao T.length cap) T) (hcap : T.length ≤ cap) (hao : ∀ a, ao = some a → a.block < w.heap.size) (hby2 : Byts w (.slice bo U.length dap) U) (hcap2 : U.length ≤ dap) (hbo : ∀ a, bo = some a → a.block < w.heap.size) (ms : ByteArray) (code : Int) (h1 : -9223372036854775808 ≤ code) (h2 : code ≤ 9223372036854775807) :
    Calls Tryz.prog 4 #[.agg #[.slice ao T.length cap, .slice bo U.length dap, .string ms, .int .i64 code]] w fun e w' => e = .returned (.bool true) ∧ Below w.heap.size w w' := by
  have HPA := hide (fun W (hW : Below w.heap.size w W) (h : T.length ≤ 1000000) => rparse_all W ao cap T (hby.below hW) h hcap (fun a e => Nat.lt_of_lt_of_le (hao a e) hW.size))
  have HPB := hide (fun W (hW : Below w.heap.size w W) (h : U.length ≤ 1000000) => rparse_all W bo dap U (hby2.below hW) h hcap2 (fun a e => Nat.lt_of_lt_of_le (hbo a e) hW.size))
  have HCA := hide (fun W (hW : Below w.heap.size w W) => called_calls W (Utf8Tabs_below hU hW) (hE.below hW))
  have HPW := hide hP
  have HC64 := hide (And.intro h1 h2)
  unfold RParR at HPA HPB
  obtain ⟨n, hn⟩ : ∃ n, T.length = n := ⟨_, rfl⟩
  obtain ⟨m, hm⟩ : ∃ m, U.length = m := ⟨_, rfl⟩
  rw [hn] at HPA ⊢
  rw [hm] at HPB ⊢
  clear hn hm hU hE hP hby hcap hao hby2 hcap2 hbo h1 h2
  have hb0 := bel w (.cells #[.slice ao n cap, .slice bo m dap, .string ms, .int .i64 code] 47)
  have hx0 := BoxC.new w 47 #[.slice ao n cap, .slice bo m dap, .string ms, .int .i64 code]
  generalize hw0 : w.alloc (.cells #[.slice ao n cap, .slice bo m dap, .string ms, .int .i64 code] 47) = w0 at *
  have HW0 := hide hw0
  have HB := hide hb0
  have HX := hide hx0
  clear hw0 hb0 hx0
  go_enter Tryz.func4, Tryz.ntmps4
  go_upto_region 1 with fail
  rw [HW0.out]
  clear HW0
  have v0 := HX.out.cell 0
  have v1 := HX.out.cell 1
  have v2 := HX.out.cell 2
  have v3 := HX.out.cell 3
  simp only [List.getElem?_toArray, List.getElem?_cons_zero, List.getElem?_cons_succ] at v0 v1 v2 v3
  go_quiet (fail)
  have HB9 : Hid (Below w.heap.size w (w0.drewN nq)) := HB.out.trans ⟨rfl, rfl, rfl, Nat.le_refl _, fun _ _ => rfl⟩
  clear HB HX v0 v1 v2 v3
  have HB := HB9
  clear HB9
  generalize w0.drewN nq = w1 at *
  by_cases hlen : (n : Int) > 500
  · go_wp2_with fail
    refine (HCA.out w1 HB.out).mono ?_
    rintro e wz ⟨rfl, hb9⟩
    have HB9 := hide (HB.out.trans (hb9.mono HB.out.size))
    clear hb9
    go_wp2
    go_ret
    exact ⟨rfl, HB9.out⟩
  by_cases hlen2 : (m : Int) > 500
  · go_wp2_with fail
    refine (HCA.out w1 HB.out).mono ?_
    rintro e wz ⟨rfl, hb9⟩
    have HB9 := hide (HB.out.trans (hb9.mono HB.out.size))
    clear hb9
    go_wp2
    go_ret
    exact ⟨rfl, HB9.out⟩
  have HNx : Hid (n ≤ 500) := by show n ≤ 500; omega
  have HNy : Hid (m ≤ 500) := by show m ≤ 500; omega
  have HPA2 := hide (fun W hW => HPA.out W hW (by have := HNx.out; omega))
  have HPB2 := hide (fun W hW => HPB.out W hW (by have := HNy.out; omega))
  clear HPA HPB
  go_wp2_with fail
  refine (HPA2.out w1 HB.out).mono ?_
  rintro e w2 ⟨⟨xk, xs, xK, xL⟩, A, x1, x2, rfl, hT, hsz, hb9⟩
  have HA := hide (sz_lt (Nat.le_trans HNx.out (by decide)) hsz)
  obtain ⟨h4, h5⟩ := hT.sl
  simp only at h4 h5
  obtain ⟨xa, xn, xc, rfl⟩ := h4
  obtain ⟨xd, xe, xf, rfl⟩ := h5
  simp only [vagg]
  have HTx := hide hT
  clear hT hsz
  have HB9 := hide (HB.out.trans (hb9.mono HB.out.size))
  clear HB
  have HB := HB9
  clear HB9
  clear hb9
  have hb9 := bel w2 (.cells #[.int .i64 xk, .string xs, .slice xa xn xc, .slice xd xe xf] 36)
  have HBXx := hide (BoxC.new w2 36 #[.int .i64 xk, .string xs, .slice xa xn xc, .slice xd xe xf])
  have HB9 := hide (HB.out.trans (hb9.mono HB.out.size))
  clear HB
  have HB := HB9
  clear HB9
  have HTx9 := hide (HTx.out.bel hb9)
  clear HTx
  have HTx := HTx9
  clear HTx9
  clear hb9
  go_upto_region 5 with fail
  generalize w2.heap.size = Bx at *
  generalize w2.alloc (.cells #[.int .i64 xk, .string xs, .slice xa xn xc, .slice xd xe xf] 36) = w3 at *
  go_wp2_with fail
  refine (HPB2.out w3 HB.out).mono ?_
  rintro e w5 ⟨⟨yk, ys, yK, yL⟩, C, y1, y2, rfl, hT, hsz, hb9⟩
  have HC := hide (sz_lt (Nat.le_trans HNy.out (by decide)) hsz)
  obtain ⟨h4, h5⟩ := hT.sl
  simp only at h4 h5
  obtain ⟨ya, yn, yc, rfl⟩ := h4
  obtain ⟨yd, ye, yf, rfl⟩ := h5
  simp only [vagg]
  have HTy := hide hT
  clear hT hsz
  have HB9 := hide (HB.out.trans (hb9.mono HB.out.size))
  clear HB
  have HB := HB9
  clear HB9
  have HTx9 := hide (HTx.out.bel hb9)
  clear HTx
  have HTx := HTx9
  clear HTx9
  have HBXx9 := hide (HBXx.out.below hb9)
  clear HBXx
  have HBXx := HBXx9
  clear HBXx9
  clear hb9
  have hb9 := bel w5 (.cells #[.int .i64 yk, .string ys, .slice ya yn yc, .slice yd ye yf] 36)
  have HBXy := hide (BoxC.new w5 36 #[.int .i64 yk, .string ys, .slice ya yn yc, .slice yd ye yf])
  have HB9 := hide (HB.out.trans (hb9.mono HB.out.size))
  clear HB
  have HB := HB9
  clear HB9
  have HTx9 := hide (HTx.out.bel hb9)
  clear HTx
  have HTx := HTx9
  clear HTx9
  have HBXx9 := hide (HBXx.out.below hb9)
  clear HBXx
  have HBXx := HBXx9
  clear HBXx9
  have HTy9 := hide (HTy.out.bel hb9)
  clear HTy
  have HTy := HTy9
  clear HTy9
  clear hb9
  go_upto_region 6 with fail
  generalize w5.heap.size = By at *
  generalize w5.alloc (.cells #[.int .i64 yk, .string ys, .slice ya yn yc, .slice yd ye yf] 36) = w4 at *
  clear HPA2 HPB2
  by_cases hex : x2 = 0
  rotate_left
  · have de : (x2 != 0) = true := by simpa using hex
    clear hex
    go_wp2_with fail
    refine (HCA.out w4 HB.out).mono ?_
    rintro e wz ⟨rfl, hb9⟩
    have HB9 := hide (HB.out.trans (hb9.mono HB.out.size))
    clear hb9
    go_wp2
    go_ret
    exact ⟨rfl, HB9.out⟩
  by_cases hey : y2 = 0
  rotate_left
  · have de : (y2 != 0) = true := by simpa using hey
    clear hey
    go_wp2_with fail
    refine (HCA.out w4 HB.out).mono ?_
    rintro e wz ⟨rfl, hb9⟩
    have HB9 := hide (HB.out.trans (hb9.mono HB.out.size))
    clear hb9
    go_wp2
    go_ret
    exact ⟨rfl, HB9.out⟩
  subst hex hey
  have HB4 := HB
  clear HB
  have HB : Hid (Below w4.heap.size w4 w4) := Below.refl _ _
  have HX0 := hide (HTx.out.keep (S' := fun _ => True) (fun b _ _ => ⟨trivial, rfl⟩))
  have HY0 := hide (HTy.out.keep (S' := fun _ => True) (fun b _ _ => ⟨trivial, rfl⟩))
  clear HTx HTy
  have HTX : Hid (∀ W, Below w4.heap.size w4 W → Calls Tryz.prog 13 #[vagg (xk, xs, .slice xa xn xc, .slice xd xe xf)] W (OfRV W.heap.size W A)) := fun W hW => to_any (HX0.out.bel hW) HA.out W (Below.refl _ _)
  have HTY : Hid (∀ W, Below w4.heap.size w4 W → Calls Tryz.prog 13 #[vagg (yk, ys, .slice ya yn yc, .slice yd ye yf)] W (OfRV W.heap.size W C)) := fun W hW => to_any (HY0.out.bel hW) HC.out W (Below.refl _ _)
  have HRE : Hid (∀ (W : World) {S1 S2 : Nat → Prop} {p q : JC}, TIn W S1 p A → TIn W S2 q C → Calls Tryz.prog 12 #[vagg p, vagg q] W (NewT (msgT qId qRes (clJ A) (clJ C)) W)) := fun W S1 S2 p q h3 h4 => result_any W (S := fun _ => True) (h3.keep fun b _ _ => ⟨trivial, rfl⟩) (h4.keep fun b _ _ => ⟨trivial, rfl⟩) HA.out HC.out
  have HER : Hid (∀ (W : World) {S1 : Nat → Prop} {p : JC}, Below w4.heap.size w4 W → TIn W S1 p A → Calls Tryz.prog 14 #[.agg #[.int .i64 code, .int .i64 p.1, .string p.2.1, p.2.2.1, p.2.2.2]] W (NewT (msgT qId qErr (clJ A) (errT code)) W)) := fun W S1 p hW h3 => error_any W code HC64.out.1 HC64.out.2 h3 HA.out (HPW.out.below (HB4.out.trans (hW.mono HB4.out.size)))
  have HNO : Hid (∀ (W : World) {S1 : Nat → Prop} {p : JC}, TIn W S1 p C → Calls Tryz.prog 15 #[.string ms, vagg p] W (NewT (msgT qMeth qPar (textT ms) (clJ C)) W)) := fun W S1 p h3 => notify_any W ms h3 HC.out
  unfold OfRV at HTX HTY
  have HS : Hid (∀ X0 : World, Below w4.heap.size w4 X0 → (X0.cell? ⟨Bx, 0, none⟩ = some (.int .i64 xk) ∧ X0.cell? ⟨Bx, 1, none⟩ = some (.string xs) ∧ X0.cell? ⟨Bx, 2, none⟩ = some (.slice xa xn xc) ∧ X0.cell? ⟨Bx, 3, none⟩ = some (.slice xd xe xf) ∧ X0.cell? ⟨By, 0, none⟩ = some (.int .i64 yk) ∧ X0.cell? ⟨By, 1, none⟩ = some (.string ys) ∧ X0.cell? ⟨By, 2, none⟩ = some (.slice ya yn yc) ∧ X0.cell? ⟨By, 3, none⟩ = some (.slice yd ye yf))) := fun X0 h => ⟨(HBXx.out.below h).cell 0, (HBXx.out.below h).cell 1, (HBXx.out.below h).cell 2, (HBXx.out.below h).cell 3, (HBXy.out.below h).cell 0, (HBXy.out.below h).cell 1, (HBXy.out.below h).cell 2, (HBXy.out.below h).cell 3⟩
  go_upto_region 8 with fail
  go_cut [13] from 52 to 91 (fun s13 wx => AnsC w4 (msgT qId qRes (clJ A) (clJ C)) s13 wx)
  case first =>
    refine wp_region_held_drew (S := fun X0 : World => X0.cell? ⟨Bx, 0, none⟩ = some (.int .i64 xk) ∧ X0.cell? ⟨Bx, 1, none⟩ = some (.string xs) ∧ X0.cell? ⟨Bx, 2, none⟩ = some (.slice xa xn xc) ∧ X0.cell? ⟨Bx, 3, none⟩ = some (.slice xd xe xf) ∧ X0.cell? ⟨By, 0, none⟩ = some (.int .i64 yk) ∧ X0.cell? ⟨By, 1, none⟩ = some (.string ys) ∧ X0.cell? ⟨By, 2, none⟩ = some (.slice ya yn yc) ∧ X0.cell? ⟨By, 3, none⟩ = some (.slice yd ye yf)) (by kernel_rfl) (HS.out _ (Below.refl _ _).drew) (fun hHeld => ?_)
    have HB : Hid (Below w4.heap.size w4 w4.drew) := (Below.refl _ _).drew
    generalize w4.drew = wd at *
    refine takeD (i := 0) (v := ?v8) (some 52) rfl (by kernel_rfl) (by kernel_rfl) (by kernel_rfl) (fun _ _ _ h => h) (Or.inl ⟨by rfl, ?hy8⟩) (HS.out _ HB.out) (by rfl) ?rest8
    case hy8 => first | (intro w hSw; (try dsimp only at hSw); obtain ⟨s0, s1, s2, s3, s4, s5, s6, s7⟩ := hSw; go_simp; done) | (intro w hSw; (try dsimp only at hSw); obtain ⟨s0, s1, s2, s3, s4, s5, s6, s7⟩ := hSw; go_simp; with_reducible rfl)
    try simp only [Act.put, List.setIfInBounds_toArray, List.set_cons_zero, List.set_cons_succ, vagg]
    refine takeD (i := 2) (v := ?v9) (some 54) rfl (by kernel_rfl) (by kernel_rfl) (by kernel_rfl) (fun _ _ _ h => h) (Or.inl ⟨by rfl, ?hy9⟩) (HS.out _ HB.out) (by rfl) ?rest9
    case hy9 => first | (intro w hSw; (try dsimp only at hSw); obtain ⟨s0, s1, s2, s3, s4, s5, s6, s7⟩ := hSw; go_simp; done) | (intro w hSw; (try dsimp only at hSw); obtain ⟨s0, s1, s2, s3, s4, s5, s6, s7⟩ := hSw; go_simp; with_reducible rfl)
    try simp only [Act.put, List.setIfInBounds_toArray, List.set_cons_zero, List.set_cons_succ, vagg]
    refine wpAnyH_ready (rs := [1, 5]) (by kernel_rfl) (by simp) ?_
    refine AllReadyH.cons rfl (fun K9 hK => ?_) (AllReadyH.cons rfl (fun K9 hK => ?_) AllReadyH.nil)
    · go_simp
      have hcall := HTX.out wd HB.out
      try unfold vagg at hcall
      try simp only at hcall
      refine hcall.mono ?_
      rintro e wf1 ⟨⟨pk, ps, pK, pL⟩, rfl, hb9, hT, hs9⟩
      obtain ⟨h4, h5⟩ := hs9
      simp only at h4 h5
      obtain ⟨pa, pn, pc, rfl⟩ := h4
      obtain ⟨pd, pe, pf, rfl⟩ := h5
      have HTp := hide hT
      clear hT
      have HB9 := hide (HB.out.trans (hb9.mono HB.out.size))
      clear hcall
      clear HB
      have HB := HB9
      clear HB9
      refine hK.out _ _ (HS.out _ HB.out) (fun _ => ?_)
      clear hK K9 hb9
      try simp only [Act.put, List.setIfInBounds_toArray, List.set_cons_zero, List.set_cons_succ, vagg]
      refine wpAnyH_ready (rs := [3, 5]) (by kernel_rfl) (by simp) ?_
      refine AllReadyH.cons rfl (fun K9 hK => ?_) (AllReadyH.cons rfl (fun K9 hK => ?_) AllReadyH.nil)
      · go_simp
        have hcall := HTY.out wf1 HB.out
        try unfold vagg at hcall
        try simp only at hcall
        refine hcall.mono ?_
        rintro e wf2 ⟨⟨qk, qs, qK, qL⟩, rfl, hb9, hT, hs9⟩
        obtain ⟨h4, h5⟩ := hs9
        simp only at h4 h5
        obtain ⟨qa, qn, qc, rfl⟩ := h4
        obtain ⟨qd, qe, qf, rfl⟩ := h5
        have HTq := hide hT
        clear hT
        have HB9 := hide (HB.out.trans (hb9.mono HB.out.size))
        have HTp9 := hide (HTp.out.bel hb9)
        clear hcall
        clear HB HTp
        have HB := HB9
        clear HB9
        have HTp := HTp9
        clear HTp9
        refine hK.out _ _ (HS.out _ HB.out) (fun _ => ?_)
        clear hK K9 hb9
        try simp only [Act.put, List.setIfInBounds_toArray, List.set_cons_zero, List.set_cons_succ, vagg]
        refine wpAnyH_ready (rs := [4, 5]) (by kernel_rfl) (by simp) ?_
        refine AllReadyH.cons rfl (fun K9 hK => ?_) (AllReadyH.cons rfl (fun K9 hK => ?_) AllReadyH.nil)
        · go_simp
          have hcall := HRE.out wf2 HTp.out HTq.out
          try unfold vagg at hcall
          try simp only at hcall
          refine hcall.mono ?_
          rintro e wf3 ⟨⟨rk, rs, rK, rL⟩, rfl, hb9, hT⟩
          obtain ⟨h4, h5⟩ := hT.sl
          simp only at h4 h5
          obtain ⟨ra, rn, rc, rfl⟩ := h4
          obtain ⟨rd, re, rf, rfl⟩ := h5
          have HTr := hide hT
          clear hT
          have HB9 := hide (HB.out.trans (hb9.mono HB.out.size))
          clear hcall
          clear HB
          have HB := HB9
          clear HB9
          refine hK.out _ _ (HS.out _ HB.out) (fun _ => ?_)
          clear hK K9 hb9
          try simp only [Act.put, List.setIfInBounds_toArray, List.set_cons_zero, List.set_cons_succ, vagg]
          refine wpAnyH_ready (rs := [5]) (by kernel_rfl) (by simp) ?_
          refine AllReadyH.cons rfl (fun K9 hK => ?_) AllReadyH.nil
          go_simp
          have hb9 := bel wf3 (.cells #[.int .i64 0, .string ⟨#[]⟩, .slice none 0 0, .slice none 0 0] 27)
          have hbz := BoxC.new wf3 27 #[.int .i64 0, .string ⟨#[]⟩, .slice none 0 0, .slice none 0 0]
          have HN9 := hide (HB.out.size)
          have HTr9 := hide (HTr.out.keep (W' := wf3.alloc (.cells #[.int .i64 0, .string ⟨#[]⟩, .slice none 0 0, .slice none 0 0] 27)) (S' := fun b => b < wf3.heap.size) (fun b _ hlt => ⟨hlt, hb9.block b hlt⟩))
          clear HTr
          have HTr := HTr9
          clear HTr9
          have HB9 := hide (HB.out.trans (hb9.mono HB.out.size))
          clear HB
          have HB := HB9
          clear HB9
          refine hK.out _ _ (HS.out _ HB.out) (fun _ => ?_)
          clear hK K9 hb9
          try simp only [Act.put, List.setIfInBounds_toArray, List.set_cons_zero, List.set_cons_succ, vagg]
          generalize wf3.heap.size = Z5 at *
          generalize wf3.alloc (.cells #[.int .i64 0, .string ⟨#[]⟩, .slice none 0 0, .slice none 0 0] 27) = wf4 at *
          have HZ := hide hbz
          clear hbz
          have z0 := HZ.out.cell 0
          have z1 := HZ.out.cell 1
          have z2 := HZ.out.cell 2
          have z3 := HZ.out.cell 3
          simp only [List.getElem?_toArray, List.getElem?_cons_zero, List.getElem?_cons_succ] at z0 z1 z2 z3
          have y0 := HZ.out.frozen 0
          have y1 := HZ.out.frozen 1
          have y2 := HZ.out.frozen 2
          have y3 := HZ.out.frozen 3
          have lX := HZ.out.lt
          have HZF := hide (resJ_v HZ.out (.int .i64 rk) (.string rs) (.slice ra rn rc) (.slice rd re rf))
          have HBF : Hid (Below w4.heap.size w4 ((((wf4.setCell ⟨Z5, 0, none⟩ (.int .i64 rk)).setCell ⟨Z5, 1, none⟩ (.string rs)).setCell ⟨Z5, 2, none⟩ (.slice ra rn rc)).setCell ⟨Z5, 3, none⟩ (.slice rd re rf))) := below4 HB.out HN9.out (.int .i64 rk) (.string rs) (.slice ra rn rc) (.slice rd re rf)
          have HTF : Hid (TIn ((((wf4.setCell ⟨Z5, 0, none⟩ (.int .i64 rk)).setCell ⟨Z5, 1, none⟩ (.string rs)).setCell ⟨Z5, 2, none⟩ (.slice ra rn rc)).setCell ⟨Z5, 3, none⟩ (.slice rd re rf)) (fun _ => True) (rk, rs, .slice ra rn rc, .slice rd re rf) (msgT qId qRes (clJ A) (clJ C))) := hide (HTr.out.keep fun b hs hlt => by
            have hne : b ≠ Z5 := by first | (have hq := HL.out; have hs' : _ ≤ b := hs; omega) | (have hs' : b < Z5 := hs; omega)
            refine ⟨trivial, ?_⟩
            rw [Below.heap_setCell _ ⟨Z5, 3, none⟩ _ b hne, Below.heap_setCell _ ⟨Z5, 2, none⟩ _ b hne, Below.heap_setCell _ ⟨Z5, 1, none⟩ _ b hne, Below.heap_setCell _ ⟨Z5, 0, none⟩ _ b hne])
          clear HTr HB
          refine wpAnyH_ready (rs := [6]) (by kernel_rfl) (by simp) ?_
          refine AllReadyH.cons rfl (fun K9 hK => ?_) AllReadyH.nil
          go_simp
          refine hK.out _ _ (HS.out _ HBF.out) (fun _ => ?_)
          clear hK K9 z0 z1 z2 z3 y0 y1 y2 y3 lX HZ
          try simp only [Act.put, List.setIfInBounds_toArray, List.set_cons_zero, List.set_cons_succ, vagg]
          refine wpAnyH_done (by kernel_rfl) ?_ _
          go_wp2
          go_meet
          exact ⟨Z5, (rk, rs, .slice ra rn rc, .slice rd re rf), rfl, HZF.out, HTF.out, HBF.out⟩
        · go_simp
          have hb9 := bel wf2 (.cells #[.int .i64 0, .string ⟨#[]⟩, .slice none 0 0, .slice none 0 0] 27)
          have hbz := BoxC.new wf2 27 #[.int .i64 0, .string ⟨#[]⟩, .slice none 0 0, .slice none 0 0]
          have HN9 := hide (HB.out.size)
          have HB9 := hide (HB.out.trans (hb9.mono HB.out.size))
          have HTp9 := hide (HTp.out.bel hb9)
          have HTq9 := hide (HTq.out.bel hb9)
          clear HB HTp HTq
          have HB := HB9
          clear HB9
          have HTp := HTp9
          clear HTp9
          have HTq := HTq9
          clear HTq9
          refine hK.out _ _ (HS.out _ HB.out) (fun _ => ?_)
          clear hK K9 hb9
          try simp only [Act.put, List.setIfInBounds_toArray, List.set_cons_zero, List.set_cons_succ, vagg]
          generalize wf2.heap.size = Z7 at *
          generalize wf2.alloc (.cells #[.int .i64 0, .string ⟨#[]⟩, .slice none 0 0, .slice none 0 0] 27) = wf6 at *
          have HZ := hide hbz
          clear hbz
          refine wpAnyH_ready (rs := [4]) (by kernel_rfl) (by simp) ?_
          refine AllReadyH.cons rfl (fun K9 hK => ?_) AllReadyH.nil
          go_simp
          have hcall := HRE.out wf6 HTp.out HTq.out
          try unfold vagg at hcall
          try simp only at hcall
          refine hcall.mono ?_
          rintro e wf8 ⟨⟨rk, rs, rK, rL⟩, rfl, hb9, hT⟩
          obtain ⟨h4, h5⟩ := hT.sl
          simp only at h4 h5
          obtain ⟨ra, rn, rc, rfl⟩ := h4
          obtain ⟨rd, re, rf, rfl⟩ := h5
          have HTr := hide hT
          clear hT
          have HL := hide (show Z7 < wf6.heap.size from HZ.out.lt)
          have HB9 := hide (HB.out.trans (hb9.mono HB.out.size))
          have HZ9 := hide (HZ.out.below hb9)
          clear hcall
          clear HB HZ
          have HB := HB9
          clear HB9
          have HZ := HZ9
          clear HZ9
          refine hK.out _ _ (HS.out _ HB.out) (fun _ => ?_)
          clear hK K9 hb9
          try simp only [Act.put, List.setIfInBounds_toArray, List.set_cons_zero, List.set_cons_succ, vagg]
          have z0 := HZ.out.cell 0
          have z1 := HZ.out.cell 1
          have z2 := HZ.out.cell 2
          have z3 := HZ.out.cell 3
          simp only [List.getElem?_toArray, List.getElem?_cons_zero, List.getElem?_cons_succ] at z0 z1 z2 z3
          have y0 := HZ.out.frozen 0
          have y1 := HZ.out.frozen 1
          have y2 := HZ.out.frozen 2
          have y3 := HZ.out.frozen 3
          have lX := HZ.out.lt
          have HZF := hide (resJ_v HZ.out (.int .i64 rk) (.string rs) (.slice ra rn rc) (.slice rd re rf))
          have HBF : Hid (Below w4.heap.size w4 ((((wf8.setCell ⟨Z7, 0, none⟩ (.int .i64 rk)).setCell ⟨Z7, 1, none⟩ (.string rs)).setCell ⟨Z7, 2, none⟩ (.slice ra rn rc)).setCell ⟨Z7, 3, none⟩ (.slice rd re rf))) := below4 HB.out HN9.out (.int .i64 rk) (.string rs) (.slice ra rn rc) (.slice rd re rf)
          have HTF : Hid (TIn ((((wf8.setCell ⟨Z7, 0, none⟩ (.int .i64 rk)).setCell ⟨Z7, 1, none⟩ (.string rs)).setCell ⟨Z7, 2, none⟩ (.slice ra rn rc)).setCell ⟨Z7, 3, none⟩ (.slice rd re rf)) (fun _ => True) (rk, rs, .slice ra rn rc, .slice rd re rf) (msgT qId qRes (clJ A) (clJ C))) := hide (HTr.out.keep fun b hs hlt => by
            have hne : b ≠ Z7 := by first | (have hq := HL.out; have hs' : _ ≤ b := hs; omega) | (have hs' : b < Z7 := hs; omega)
            refine ⟨trivial, ?_⟩
            rw [Below.heap_setCell _ ⟨Z7, 3, none⟩ _ b hne, Below.heap_setCell _ ⟨Z7, 2, none⟩ _ b hne, Below.heap_setCell _ ⟨Z7, 1, none⟩ _ b hne, Below.heap_setCell _ ⟨Z7, 0, none⟩ _ b hne])
          clear HTr HB
          refine wpAnyH_ready (rs := [6]) (by kernel_rfl) (by simp) ?_
          refine AllReadyH.cons rfl (fun K9 hK => ?_) AllReadyH.nil
          go_simp
          refine hK.out _ _ (HS.out _ HBF.out) (fun _ => ?_)
          clear hK K9 z0 z1 z2 z3 y0 y1 y2 y3 lX HZ
          try simp only [Act.put, List.setIfInBounds_toArray, List.set_cons_zero, List.set_cons_succ, vagg]
          refine wpAnyH_done (by kernel_rfl) ?_ _
          go_wp2
          go_meet
          exact ⟨Z7, (rk, rs, .slice ra rn rc, .slice rd re rf), rfl, HZF.out, HTF.out, HBF.out⟩
      · go_simp
        have hb9 := bel wf1 (.cells #[.int .i64 0, .string ⟨#[]⟩, .slice none 0 0, .slice none 0 0] 27)
        have hbz := BoxC.new wf1 27 #[.int .i64 0, .string ⟨#[]⟩, .slice none 0 0, .slice none 0 0]
        have HN9 := hide (HB.out.size)
        have HB9 := hide (HB.out.trans (hb9.mono HB.out.size))
        have HTp9 := hide (HTp.out.bel hb9)
        clear HB HTp
        have HB := HB9
        clear HB9
        have HTp := HTp9
        clear HTp9
        refine hK.out _ _ (HS.out _ HB.out) (fun _ => ?_)
        clear hK K9 hb9
        try simp only [Act.put, List.setIfInBounds_toArray, List.set_cons_zero, List.set_cons_succ, vagg]
        generalize wf1.heap.size = Z10 at *
        generalize wf1.alloc (.cells #[.int .i64 0, .string ⟨#[]⟩, .slice none 0 0, .slice none 0 0] 27) = wf9 at *
        have HZ := hide hbz
        clear hbz
        refine wpAnyH_ready (rs := [3]) (by kernel_rfl) (by simp) ?_
        refine AllReadyH.cons rfl (fun K9 hK => ?_) AllReadyH.nil
        go_simp
        have hcall := HTY.out wf9 HB.out
        try unfold vagg at hcall
        try simp only at hcall
        refine hcall.mono ?_
        rintro e wf11 ⟨⟨qk, qs, qK, qL⟩, rfl, hb9, hT, hs9⟩
        obtain ⟨h4, h5⟩ := hs9
        simp only at h4 h5
        obtain ⟨qa, qn, qc, rfl⟩ := h4
        obtain ⟨qd, qe, qf, rfl⟩ := h5
        have HTq := hide hT
        clear hT
        have HB9 := hide (HB.out.trans (hb9.mono HB.out.size))
        have HTp9 := hide (HTp.out.bel hb9)
        have HZ9 := hide (HZ.out.below hb9)
        clear hcall
        clear HB HTp HZ
        have HB := HB9
        clear HB9
        have HTp := HTp9
        clear HTp9
        have HZ := HZ9
        clear HZ9
        refine hK.out _ _ (HS.out _ HB.out) (fun _ => ?_)
        clear hK K9 hb9
        try simp only [Act.put, List.setIfInBounds_toArray, List.set_cons_zero, List.set_cons_succ, vagg]
        refine wpAnyH_ready (rs := [4]) (by kernel_rfl) (by simp) ?_
        refine AllReadyH.cons rfl (fun K9 hK => ?_) AllReadyH.nil
        go_simp
        have hcall := HRE.out wf11 HTp.out HTq.out
        try unfold vagg at hcall
        try simp only at hcall
        refine hcall.mono ?_
        rintro e wf12 ⟨⟨rk, rs, rK, rL⟩, rfl, hb9, hT⟩
        obtain ⟨h4, h5⟩ := hT.sl
        simp only at h4 h5
        obtain ⟨ra, rn, rc, rfl⟩ := h4
        obtain ⟨rd, re, rf, rfl⟩ := h5
        have HTr := hide hT
        clear hT
        have HL := hide (show Z10 < wf11.heap.size from HZ.out.lt)
        have HB9 := hide (HB.out.trans (hb9.mono HB.out.size))
        have HZ9 := hide (HZ.out.below hb9)
        clear hcall
        clear HB HZ
        have HB := HB9
        clear HB9
        have HZ := HZ9
        clear HZ9
        refine hK.out _ _ (HS.out _ HB.out) (fun _ => ?_)
        clear hK K9 hb9
        try simp only [Act.put, List.setIfInBounds_toArray, List.set_cons_zero, List.set_cons_succ, vagg]
        have z0 := HZ.out.cell 0
        have z1 := HZ.out.cell 1
        have z2 := HZ.out.cell 2
        have z3 := HZ.out.cell 3
        simp only [List.getElem?_toArray, List.getElem?_cons_zero, List.getElem?_cons_succ] at z0 z1 z2 z3
        have y0 := HZ.out.frozen 0
        have y1 := HZ.out.frozen 1
        have y2 := HZ.out.frozen 2
        have y3 := HZ.out.frozen 3
        have lX := HZ.out.lt
        have HZF := hide (resJ_v HZ.out (.int .i64 rk) (.string rs) (.slice ra rn rc) (.slice rd re rf))
        have HBF : Hid (Below w4.heap.size w4 ((((wf12.setCell ⟨Z10, 0, none⟩ (.int .i64 rk)).setCell ⟨Z10, 1, none⟩ (.string rs)).setCell ⟨Z10, 2, none⟩ (.slice ra rn rc)).setCell ⟨Z10, 3, none⟩ (.slice rd re rf))) := below4 HB.out HN9.out (.int .i64 rk) (.string rs) (.slice ra rn rc) (.slice rd re rf)
        have HTF : Hid (TIn ((((wf12.setCell ⟨Z10, 0, none⟩ (.int .i64 rk)).setCell ⟨Z10, 1, none⟩ (.string rs)).setCell ⟨Z10, 2, none⟩ (.slice ra rn rc)).setCell ⟨Z10, 3, none⟩ (.slice rd re rf)) (fun _ => True) (rk, rs, .slice ra rn rc, .slice rd re rf) (msgT qId qRes (clJ A) (clJ C))) := hide (HTr.out.keep fun b hs hlt => by
          have hne : b ≠ Z10 := by first | (have hq := HL.out; have hs' : _ ≤ b := hs; omega) | (have hs' : b < Z10 := hs; omega)
          refine ⟨trivial, ?_⟩
          rw [Below.heap_setCell _ ⟨Z10, 3, none⟩ _ b hne, Below.heap_setCell _ ⟨Z10, 2, none⟩ _ b hne, Below.heap_setCell _ ⟨Z10, 1, none⟩ _ b hne, Below.heap_setCell _ ⟨Z10, 0, none⟩ _ b hne])
        clear HTr HB
        refine wpAnyH_ready (rs := [6]) (by kernel_rfl) (by simp) ?_
        refine AllReadyH.cons rfl (fun K9 hK => ?_) AllReadyH.nil
        go_simp
        refine hK.out _ _ (HS.out _ HBF.out) (fun _ => ?_)
        clear hK K9 z0 z1 z2 z3 y0 y1 y2 y3 lX HZ
        try simp only [Act.put, List.setIfInBounds_toArray, List.set_cons_zero, List.set_cons_succ, vagg]
        refine wpAnyH_done (by kernel_rfl) ?_ _
        go_wp2
        go_meet
        exact ⟨Z10, (rk, rs, .slice ra rn rc, .slice rd re rf), rfl, HZF.out, HTF.out, HBF.out⟩
    · go_simp
      have hb9 := bel wd (.cells #[.int .i64 0, .string ⟨#[]⟩, .slice none 0 0, .slice none 0 0] 27)
      have hbz := BoxC.new wd 27 #[.int .i64 0, .string ⟨#[]⟩, .slice none 0 0, .slice none 0 0]
      have HN9 := hide (HB.out.size)
      have HB9 := hide (HB.out.trans (hb9.mono HB.out.size))
      clear HB
      have HB := HB9
      clear HB9
      refine hK.out _ _ (HS.out _ HB.out) (fun _ => ?_)
      clear hK K9 hb9
      try simp only [Act.put, List.setIfInBounds_toArray, List.set_cons_zero, List.set_cons_succ, vagg]
      generalize wd.heap.size = Z14 at *
      generalize wd.alloc (.cells #[.int .i64 0, .string ⟨#[]⟩, .slice none 0 0, .slice none 0 0] 27) = wf13 at *
      have HZ := hide hbz
      clear hbz
      refine wpAnyH_ready (rs := [1]) (by kernel_rfl) (by simp) ?_
      refine AllReadyH.cons rfl (fun K9 hK => ?_) AllReadyH.nil
      go_simp
      have hcall := HTX.out wf13 HB.out
      try unfold vagg at hcall
      try simp only at hcall
      refine hcall.mono ?_
      rintro e wf15 ⟨⟨pk, ps, pK, pL⟩, rfl, hb9, hT, hs9⟩
      obtain ⟨h4, h5⟩ := hs9
      simp only at h4 h5
      obtain ⟨pa, pn, pc, rfl⟩ := h4
      obtain ⟨pd, pe, pf, rfl⟩ := h5
      have HTp := hide hT
      clear hT
      have HB9 := hide (HB.out.trans (hb9.mono HB.out.size))
      have HZ9 := hide (HZ.out.below hb9)
      clear hcall
      clear HB HZ
      have HB := HB9
      clear HB9
      have HZ := HZ9
      clear HZ9
      refine hK.out _ _ (HS.out _ HB.out) (fun _ => ?_)
      clear hK K9 hb9
      try simp only [Act.put, List.setIfInBounds_toArray, List.set_cons_zero, List.set_cons_succ, vagg]
      refine wpAnyH_ready (rs := [3]) (by kernel_rfl) (by simp) ?_
      refine AllReadyH.cons rfl (fun K9 hK => ?_) AllReadyH.nil
      go_simp
      have hcall := HTY.out wf15 HB.out
      try unfold vagg at hcall
      try simp only at hcall
      refine hcall.mono ?_
      rintro e wf16 ⟨⟨qk, qs, qK, qL⟩, rfl, hb9, hT, hs9⟩
      obtain ⟨h4, h5⟩ := hs9
      simp only at h4 h5
      obtain ⟨qa, qn, qc, rfl⟩ := h4
      obtain ⟨qd, qe, qf, rfl⟩ := h5
      have HTq := hide hT
      clear hT
      have HB9 := hide (HB.out.trans (hb9.mono HB.out.size))
      have HZ9 := hide (HZ.out.below hb9)
      have HTp9 := hide (HTp.out.bel hb9)
      clear hcall
      clear HB HZ HTp
      have HB := HB9
      clear HB9
      have HZ := HZ9
      clear HZ9
      have HTp := HTp9
      clear HTp9
      refine hK.out _ _ (HS.out _ HB.out) (fun _ => ?_)
      clear hK K9 hb9
      try simp only [Act.put, List.setIfInBounds_toArray, List.set_cons_zero, List.set_cons_succ, vagg]
      refine wpAnyH_ready (rs := [4]) (by kernel_rfl) (by simp) ?_
      refine AllReadyH.cons rfl (fun K9 hK => ?_) AllReadyH.nil
      go_simp
      have hcall := HRE.out wf16 HTp.out HTq.out
      try unfold vagg at hcall
      try simp only at hcall
      refine hcall.mono ?_
      rintro e wf17 ⟨⟨rk, rs, rK, rL⟩, rfl, hb9, hT⟩
      obtain ⟨h4, h5⟩ := hT.sl
      simp only at h4 h5
      obtain ⟨ra, rn, rc, rfl⟩ := h4
      obtain ⟨rd, re, rf, rfl⟩ := h5
      have HTr := hide hT
      clear hT
      have HL := hide (show Z14 < wf16.heap.size from HZ.out.lt)
      have HB9 := hide (HB.out.trans (hb9.mono HB.out.size))
      have HZ9 := hide (HZ.out.below hb9)
      clear hcall
      clear HB HZ
      have HB := HB9
      clear HB9
      have HZ := HZ9
      clear HZ9
      refine hK.out _ _ (HS.out _ HB.out) (fun _ => ?_)
      clear hK K9 hb9
      try simp only [Act.put, List.setIfInBounds_toArray, List.set_cons_zero, List.set_cons_succ, vagg]
      have z0 := HZ.out.cell 0
      have z1 := HZ.out.cell 1
      have z2 := HZ.out.cell 2
      have z3 := HZ.out.cell 3
      simp only [List.getElem?_toArray, List.getElem?_cons_zero, List.getElem?_cons_succ] at z0 z1 z2 z3
      have y0 := HZ.out.frozen 0
      have y1 := HZ.out.frozen 1
      have y2 := HZ.out.frozen 2
      have y3 := HZ.out.frozen 3
      have lX := HZ.out.lt
      have HZF := hide (resJ_v HZ.out (.int .i64 rk) (.string rs) (.slice ra rn rc) (.slice rd re rf))
      have HBF : Hid (Below w4.heap.size w4 ((((wf17.setCell ⟨Z14, 0, none⟩ (.int .i64 rk)).setCell ⟨Z14, 1, none⟩ (.string rs)).setCell ⟨Z14, 2, none⟩ (.slice ra rn rc)).setCell ⟨Z14, 3, none⟩ (.slice rd re rf))) := below4 HB.out HN9.out (.int .i64 rk) (.string rs) (.slice ra rn rc) (.slice rd re rf)
      have HTF : Hid (TIn ((((wf17.setCell ⟨Z14, 0, none⟩ (.int .i64 rk)).setCell ⟨Z14, 1, none⟩ (.string rs)).setCell ⟨Z14, 2, none⟩ (.slice ra rn rc)).setCell ⟨Z14, 3, none⟩ (.slice rd re rf)) (fun _ => True) (rk, rs, .slice ra rn rc, .slice rd re rf) (msgT qId qRes (clJ A) (clJ C))) := hide (HTr.out.keep fun b hs hlt => by
        have hne : b ≠ Z14 := by first | (have hq := HL.out; have hs' : _ ≤ b := hs; omega) | (have hs' : b < Z14 := hs; omega)
        refine ⟨trivial, ?_⟩
        rw [Below.heap_setCell _ ⟨Z14, 3, none⟩ _ b hne, Below.heap_setCell _ ⟨Z14, 2, none⟩ _ b hne, Below.heap_setCell _ ⟨Z14, 1, none⟩ _ b hne, Below.heap_setCell _ ⟨Z14, 0, none⟩ _ b hne])
      clear HTr HB
      refine wpAnyH_ready (rs := [6]) (by kernel_rfl) (by simp) ?_
      refine AllReadyH.cons rfl (fun K9 hK => ?_) AllReadyH.nil
      go_simp
      refine hK.out _ _ (HS.out _ HBF.out) (fun _ => ?_)
      clear hK K9 z0 z1 z2 z3 y0 y1 y2 y3 lX HZ
      try simp only [Act.put, List.setIfInBounds_toArray, List.set_cons_zero, List.set_cons_succ, vagg]
      refine wpAnyH_done (by kernel_rfl) ?_ _
      go_wp2
      go_meet
      exact ⟨Z14, (rk, rs, .slice ra rn rc, .slice rd re rf), rfl, HZF.out, HTF.out, HBF.out⟩
  
  case rest =>
    obtain ⟨BA, ⟨gk, gs, gK, gL⟩, rfl, tA, hTg, hbc⟩ := hcut
    obtain ⟨h4, h5⟩ := hTg.sl
    simp only at h4 h5 tA
    obtain ⟨ga, gn, gc, rfl⟩ := h4
    obtain ⟨gd, ge, gf, rfl⟩ := h5
    clear HB
    have HB := hide hbc
    have HBA := hide tA
    have HTg := hide hTg
    clear hbc tA hTg HRE
    obtain ⟨v0, v1, v2, v3, u0, u1, u2, u3⟩ := HS.out _ HB.out
    go_wp2_with fail
    refine (HTX.out wc HB.out).mono ?_
    rintro e w6 ⟨⟨pk, ps, pK, pL⟩, rfl, hb9, hT, hs9⟩
    obtain ⟨h4, h5⟩ := hs9
    simp only at h4 h5
    obtain ⟨pa, pn, pc, rfl⟩ := h4
    obtain ⟨pd, pe, pf, rfl⟩ := h5
    have HTp := hide hT
    clear hT
    simp only [vagg]
    clear v0 v1 v2 v3 u0 u1 u2 u3
    have HB9 := hide (HB.out.trans (hb9.mono HB.out.size))
    clear HB
    have HB := HB9
    clear HB9
    have HBA9 := hide (HBA.out.below hb9)
    clear HBA
    have HBA := HBA9
    clear HBA9
    have HTg9 := hide (HTg.out.bel hb9)
    clear HTg
    have HTg := HTg9
    clear HTg9
    clear hb9
    go_wp2_with fail
    refine (HER.out w6 HB.out HTp.out).mono ?_
    rintro e w7 ⟨⟨hk, hs, hK, hL⟩, rfl, hb9, hT⟩
    obtain ⟨h4, h5⟩ := hT.sl
    simp only at h4 h5
    obtain ⟨ha, hn, hc, rfl⟩ := h4
    obtain ⟨hd, he, hf, rfl⟩ := h5
    simp only [vagg]
    have HTh := hide (hT.keep (W' := w7) (S' := fun _ => True) fun b _ _ => ⟨trivial, rfl⟩)
    clear hT
    have HB9 := hide (HB.out.trans (hb9.mono HB.out.size))
    clear HB
    have HB := HB9
    clear HB9
    have HBA9 := hide (HBA.out.below hb9)
    clear HBA
    have HBA := HBA9
    clear HBA9
    have HTg9 := hide (HTg.out.bel hb9)
    clear HTg
    have HTg := HTg9
    clear HTg9
    clear hb9
    have hb9 := bel w7 (.cells #[.int .i64 hk, .string hs, .slice ha hn hc, .slice hd he hf] 27)
    have HBBb := hide (BoxC.new w7 27 #[.int .i64 hk, .string hs, .slice ha hn hc, .slice hd he hf])
    have HB9 := hide (HB.out.trans (hb9.mono HB.out.size))
    clear HB
    have HB := HB9
    clear HB9
    have HBA9 := hide (HBA.out.below hb9)
    clear HBA
    have HBA := HBA9
    clear HBA9
    have HTg9 := hide (HTg.out.bel hb9)
    clear HTg
    have HTg := HTg9
    clear HTg9
    have HTh9 := hide (HTh.out.bel hb9)
    clear HTh
    have HTh := HTh9
    clear HTh9
    clear hb9
    go_upto_region 10 with fail
    generalize w7.heap.size = BBb at *
    generalize w7.alloc (.cells #[.int .i64 hk, .string hs, .slice ha hn hc, .slice hd he hf] 27) = w8 at *
    obtain ⟨v0, v1, v2, v3, u0, u1, u2, u3⟩ := HS.out _ HB.out
    go_wp2_with fail
    refine (HTY.out w8 HB.out).mono ?_
    rintro e w9 ⟨⟨qk, qs, qK, qL⟩, rfl, hb9, hT, hs9⟩
    obtain ⟨h4, h5⟩ := hs9
    simp only at h4 h5
    obtain ⟨qa, qn, qc, rfl⟩ := h4
    obtain ⟨qd, qe, qf, rfl⟩ := h5
    have HTq := hide hT
    clear hT
    simp only [vagg]
    clear v0 v1 v2 v3 u0 u1 u2 u3
    have HB9 := hide (HB.out.trans (hb9.mono HB.out.size))
    clear HB
    have HB := HB9
    clear HB9
    have HBA9 := hide (HBA.out.below hb9)
    clear HBA
    have HBA := HBA9
    clear HBA9
    have HTg9 := hide (HTg.out.bel hb9)
    clear HTg
    have HTg := HTg9
    clear HTg9
    have HBBb9 := hide (HBBb.out.below hb9)
    clear HBBb
    have HBBb := HBBb9
    clear HBBb9
    have HTh9 := hide (HTh.out.bel hb9)
    clear HTh
    have HTh := HTh9
    clear HTh9
    clear hb9
    go_wp2_with fail
    refine (HNO.out w9 HTq.out).mono ?_
    rintro e wa ⟨⟨bk, bs, bK, bL⟩, rfl, hb9, hT⟩
    obtain ⟨h4, h5⟩ := hT.sl
    simp only at h4 h5
    obtain ⟨ba, bn, bc, rfl⟩ := h4
    obtain ⟨bd, be, bf, rfl⟩ := h5
    simp only [vagg]
    have HTb := hide (hT.keep (W' := wa) (S' := fun _ => True) fun b _ _ => ⟨trivial, rfl⟩)
    clear hT
    have HB9 := hide (HB.out.trans (hb9.mono HB.out.size))
    clear HB
    have HB := HB9
    clear HB9
    have HBA9 := hide (HBA.out.below hb9)
    clear HBA
    have HBA := HBA9
    clear HBA9
    have HTg9 := hide (HTg.out.bel hb9)
    clear HTg
    have HTg := HTg9
    clear HTg9
    have HBBb9 := hide (HBBb.out.below hb9)
    clear HBBb
    have HBBb := HBBb9
    clear HBBb9
    have HTh9 := hide (HTh.out.bel hb9)
    clear HTh
    have HTh := HTh9
    clear HTh9
    clear hb9
    have hb9 := bel wa (.cells #[.int .i64 bk, .string bs, .slice ba bn bc, .slice bd be bf] 27)
    have HBCc := hide (BoxC.new wa 27 #[.int .i64 bk, .string bs, .slice ba bn bc, .slice bd be bf])
    have HB9 := hide (HB.out.trans (hb9.mono HB.out.size))
    clear HB
    have HB := HB9
    clear HB9
    have HBA9 := hide (HBA.out.below hb9)
    clear HBA
    have HBA := HBA9
    clear HBA9
    have HTg9 := hide (HTg.out.bel hb9)
    clear HTg
    have HTg := HTg9
    clear HTg9
    have HBBb9 := hide (HBBb.out.below hb9)
    clear HBBb
    have HBBb := HBBb9
    clear HBBb9
    have HTh9 := hide (HTh.out.bel hb9)
    clear HTh
    have HTh := HTh9
    clear HTh9
    have HTb9 := hide (HTb.out.bel hb9)
    clear HTb
    have HTb := HTb9
    clear HTb9
    clear hb9
    go_upto_region 11 with fail
    generalize wa.heap.size = BCc at *
    generalize wa.alloc (.cells #[.int .i64 bk, .string bs, .slice ba bn bc, .slice bd be bf] 27) = wb at *
    clear HTp HTq
    have HXN := hide ((HX0.out.bel HB.out).keep (S' := fun b => some b ≠ none) (fun b _ _ => ⟨(fun e => by cases e), rfl⟩))
    have HYN := hide ((HY0.out.bel HB.out).keep (S' := fun b => some b ≠ none) (fun b _ _ => ⟨(fun e => by cases e), rfl⟩))
    have HB5 := hide (HB4.out.trans (HB.out.mono HB4.out.size))
    have HSO := hide (HS.out _ HB.out)
    have HSN : Hid (∀ X0 : World, Below wb.heap.size wb X0 → (X0.cell? ⟨Bx, 0, none⟩ = some (.int .i64 xk) ∧ X0.cell? ⟨Bx, 1, none⟩ = some (.string xs) ∧ X0.cell? ⟨Bx, 2, none⟩ = some (.slice xa xn xc) ∧ X0.cell? ⟨Bx, 3, none⟩ = some (.slice xd xe xf) ∧ X0.cell? ⟨By, 0, none⟩ = some (.int .i64 yk) ∧ X0.cell? ⟨By, 1, none⟩ = some (.string ys) ∧ X0.cell? ⟨By, 2, none⟩ = some (.slice ya yn yc) ∧ X0.cell? ⟨By, 3, none⟩ = some (.slice yd ye yf) ∧ X0.cell? ⟨BA, 0, none⟩ = some (.int .i64 gk) ∧ X0.cell? ⟨BA, 1, none⟩ = some (.string gs) ∧ X0.cell? ⟨BA, 2, none⟩ = some (.slice ga gn gc) ∧ X0.cell? ⟨BA, 3, none⟩ = some (.slice gd ge gf) ∧ X0.cell? ⟨BBb, 0, none⟩ = some (.int .i64 hk) ∧ X0.cell? ⟨BBb, 1, none⟩ = some (.string hs) ∧ X0.cell? ⟨BBb, 2, none⟩ = some (.slice ha hn hc) ∧ X0.cell? ⟨BBb, 3, none⟩ = some (.slice hd he hf) ∧ X0.cell? ⟨BCc, 0, none⟩ = some (.int .i64 bk) ∧ X0.cell? ⟨BCc, 1, none⟩ = some (.string bs) ∧ X0.cell? ⟨BCc, 2, none⟩ = some (.slice ba bn bc) ∧ X0.cell? ⟨BCc, 3, none⟩ = some (.slice bd be bf))) := fun X0 h => by
      obtain ⟨q0, q1, q2, q3, q4, q5, q6, q7⟩ := HS.out _ (HB.out.trans (h.mono HB.out.size))
      exact ⟨q0, q1, q2, q3, q4, q5, q6, q7, (HBA.out.below h).cell 0, (HBA.out.below h).cell 1, (HBA.out.below h).cell 2, (HBA.out.below h).cell 3, (HBBb.out.below h).cell 0, (HBBb.out.below h).cell 1, (HBBb.out.below h).cell 2, (HBBb.out.below h).cell 3, (HBCc.out.below h).cell 0, (HBCc.out.below h).cell 1, (HBCc.out.below h).cell 2, (HBCc.out.below h).cell 3⟩
    have HOA : Hid (∀ W : World, Below wb.heap.size wb W → Calls Tryz.prog 10 #[vagg (gk, gs, .slice ga gn gc, .slice gd ge gf)] W (OfRQ W.heap.size W (msgT qId qRes (clJ A) (clJ C)))) := fun W hW => of_any (HTg.out.bel hW) (msg_lt HA.out.clone HC.out.clone) W (Below.refl _ _)
    have HOB : Hid (∀ W : World, Below wb.heap.size wb W → Calls Tryz.prog 10 #[vagg (hk, hs, .slice ha hn hc, .slice hd he hf)] W (OfRQ W.heap.size W (msgT qId qErr (clJ A) (errT code)))) := fun W hW => of_any (HTh.out.bel hW) (msg_lt HA.out.clone (errT_lt HC64.out.1 HC64.out.2)) W (Below.refl _ _)
    have HOC : Hid (∀ W : World, Below wb.heap.size wb W → Calls Tryz.prog 10 #[vagg (bk, bs, .slice ba bn bc, .slice bd be bf)] W (OfRQ W.heap.size W (msgT qMeth qPar (textT ms) (clJ C)))) := fun W hW => of_any (HTb.out.bel hW) (msg_lt (text_lt ms) HC.out.clone) W (Below.refl _ _)
    have HRA : Hid (∀ W : World, Below wb.heap.size wb W → Calls Tryz.prog 16 #[vagg (xk, xs, .slice xa xn xc, .slice xd xe xf), .string qRes, vagg (yk, ys, .slice ya yn yc, .slice yd ye yf)] W (RNewN none (msgT qId qRes A C) W)) := fun W hW => reply_any W none (fun n e => by cases e) qRes (HXN.out.bel hW) (HYN.out.bel hW)
    have HRB : Hid (∀ W : World, Below wb.heap.size wb W → Calls Tryz.prog 17 #[.agg #[.int .i64 code, .int .i64 xk, .string xs, .slice xa xn xc, .slice xd xe xf]] W (RNewT (msgT qId qErr A (errT code)) W)) := fun W hW => rerror_any W (x := (xk, xs, .slice xa xn xc, .slice xd xe xf)) code HC64.out.1 HC64.out.2 (HXN.out.bel hW)
    have HRC : Hid (∀ W : World, Below wb.heap.size wb W → Calls Tryz.prog 18 #[.string ms, vagg (yk, ys, .slice ya yn yc, .slice yd ye yf)] W (RNewT (msgT qMeth qPar (textT ms) C) W)) := fun W hW => rnotify_any W ms (HYN.out.bel hW)
    have HQA : Hid (∀ (W : World) {S1 S2 : Nat → Prop} {p q : JC}, TIn W S1 p (msgT qId qRes (clJ A) (clJ C)) → TIn W S2 q (msgT qId qRes A C) → Calls Tryz.prog 9 #[vagg p, vagg q] W fun e w' => e = .returned (.bool true) ∧ Below W.heap.size W w') := fun W S1 S2 p q h3 h4 => by
      have h := requal_any h3 (msg_lt HA.out.clone HC.out.clone) h4 (msg_lt HA.out HC.out) W (Below.refl _ _)
      unfold REqR at h
      rw [msg_eq (eqJ_clone _) (eqJ_clone _)] at h
      exact h
    have HQB : Hid (∀ (W : World) {S1 S2 : Nat → Prop} {p q : JC}, TIn W S1 p (msgT qId qErr (clJ A) (errT code)) → TIn W S2 q (msgT qId qErr A (errT code)) → Calls Tryz.prog 9 #[vagg p, vagg q] W fun e w' => e = .returned (.bool true) ∧ Below W.heap.size W w') := fun W S1 S2 p q h3 h4 => by
      have h := requal_any h3 (msg_lt HA.out.clone (errT_lt HC64.out.1 HC64.out.2)) h4 (msg_lt HA.out (errT_lt HC64.out.1 HC64.out.2)) W (Below.refl _ _)
      unfold REqR at h
      rw [msg_eq (eqJ_clone _) (eqJ_refl _)] at h
      exact h
    have HQC : Hid (∀ (W : World) {S1 S2 : Nat → Prop} {p q : JC}, TIn W S1 p (msgT qMeth qPar (textT ms) (clJ C)) → TIn W S2 q (msgT qMeth qPar (textT ms) C) → Calls Tryz.prog 9 #[vagg p, vagg q] W fun e w' => e = .returned (.bool true) ∧ Below W.heap.size W w') := fun W S1 S2 p q h3 h4 => by
      have h := requal_any h3 (msg_lt (text_lt ms) HC.out.clone) h4 (msg_lt (text_lt ms) HC.out) W (Below.refl _ _)
      unfold REqR at h
      rw [msg_eq (eqJ_refl _) (eqJ_clone _)] at h
      exact h
    unfold OfRQ at HOA HOB HOC
    unfold RNewN qRes at HRA
    unfold RNewT at HRB HRC
    clear HS HSO HB
    have HS := HSN
    clear HSN
    refine wp_region_held_drew (S := fun X0 : World => X0.cell? ⟨Bx, 0, none⟩ = some (.int .i64 xk) ∧ X0.cell? ⟨Bx, 1, none⟩ = some (.string xs) ∧ X0.cell? ⟨Bx, 2, none⟩ = some (.slice xa xn xc) ∧ X0.cell? ⟨Bx, 3, none⟩ = some (.slice xd xe xf) ∧ X0.cell? ⟨By, 0, none⟩ = some (.int .i64 yk) ∧ X0.cell? ⟨By, 1, none⟩ = some (.string ys) ∧ X0.cell? ⟨By, 2, none⟩ = some (.slice ya yn yc) ∧ X0.cell? ⟨By, 3, none⟩ = some (.slice yd ye yf) ∧ X0.cell? ⟨BA, 0, none⟩ = some (.int .i64 gk) ∧ X0.cell? ⟨BA, 1, none⟩ = some (.string gs) ∧ X0.cell? ⟨BA, 2, none⟩ = some (.slice ga gn gc) ∧ X0.cell? ⟨BA, 3, none⟩ = some (.slice gd ge gf) ∧ X0.cell? ⟨BBb, 0, none⟩ = some (.int .i64 hk) ∧ X0.cell? ⟨BBb, 1, none⟩ = some (.string hs) ∧ X0.cell? ⟨BBb, 2, none⟩ = some (.slice ha hn hc) ∧ X0.cell? ⟨BBb, 3, none⟩ = some (.slice hd he hf) ∧ X0.cell? ⟨BCc, 0, none⟩ = some (.int .i64 bk) ∧ X0.cell? ⟨BCc, 1, none⟩ = some (.string bs) ∧ X0.cell? ⟨BCc, 2, none⟩ = some (.slice ba bn bc) ∧ X0.cell? ⟨BCc, 3, none⟩ = some (.slice bd be bf)) (by kernel_rfl) (HS.out _ (Below.refl _ _).drew) (fun hHeld => ?_)
    have HB : Hid (Below wb.heap.size wb wb.drew) := (Below.refl _ _).drew
    generalize wb.drew = we at *
    refine wpAnyH_ready (rs := [0]) (by kernel_rfl) (by simp) ?_
    refine AllReadyH.cons rfl (fun K9 hK => ?_) AllReadyH.nil
    go_simp
    have hcall := HCA.out we (HB5.out.trans (HB.out.mono HB5.out.size))
    try unfold vagg at hcall
    try simp only at hcall
    refine hcall.mono ?_
    rintro e x1 ⟨rfl, hb9⟩
    have HB9 := hide (HB.out.trans (hb9.mono HB.out.size))
    clear hcall
    clear HB
    have HB := HB9
    clear HB9
    refine hK.out _ _ (HS.out _ HB.out) (fun _ => ?_)
    clear hK K9 hb9
    try simp only [Act.put, List.setIfInBounds_toArray, List.set_cons_zero, List.set_cons_succ, vagg]
    refine takeD (i := 1) (v := ?v10) (some 67) rfl (by kernel_rfl) (by kernel_rfl) (by kernel_rfl) (fun _ _ _ h => h) (Or.inl ⟨by rfl, ?hy10⟩) (HS.out _ HB.out) (by rfl) ?rest10
    case hy10 => first | (intro w hSw; (try dsimp only at hSw); obtain ⟨s0, s1, s2, s3, s4, s5, s6, s7, s8, s9, s10, s11, s12, s13, s14, s15, s16, s17, s18, s19⟩ := hSw; go_simp; done) | (intro w hSw; (try dsimp only at hSw); obtain ⟨s0, s1, s2, s3, s4, s5, s6, s7, s8, s9, s10, s11, s12, s13, s14, s15, s16, s17, s18, s19⟩ := hSw; go_simp; with_reducible rfl)
    try simp only [Act.put, List.setIfInBounds_toArray, List.set_cons_zero, List.set_cons_succ, vagg]
    refine takeD (i := 2) (v := ?v11) (some 68) rfl (by kernel_rfl) (by kernel_rfl) (by kernel_rfl) (fun _ _ _ h => h) (Or.inl ⟨by rfl, ?hy11⟩) (HS.out _ HB.out) (by rfl) ?rest11
    case hy11 => first | (intro w hSw; (try dsimp only at hSw); obtain ⟨s0, s1, s2, s3, s4, s5, s6, s7, s8, s9, s10, s11, s12, s13, s14, s15, s16, s17, s18, s19⟩ := hSw; go_simp; done) | (intro w hSw; (try dsimp only at hSw); obtain ⟨s0, s1, s2, s3, s4, s5, s6, s7, s8, s9, s10, s11, s12, s13, s14, s15, s16, s17, s18, s19⟩ := hSw; go_simp; with_reducible rfl)
    try simp only [Act.put, List.setIfInBounds_toArray, List.set_cons_zero, List.set_cons_succ, vagg]
    refine takeD (i := 4) (v := ?v12) (some 70) rfl (by kernel_rfl) (by kernel_rfl) (by kernel_rfl) (fun _ _ _ h => h) (Or.inl ⟨by rfl, ?hy12⟩) (HS.out _ HB.out) (by rfl) ?rest12
    case hy12 => first | (intro w hSw; (try dsimp only at hSw); obtain ⟨s0, s1, s2, s3, s4, s5, s6, s7, s8, s9, s10, s11, s12, s13, s14, s15, s16, s17, s18, s19⟩ := hSw; go_simp; done) | (intro w hSw; (try dsimp only at hSw); obtain ⟨s0, s1, s2, s3, s4, s5, s6, s7, s8, s9, s10, s11, s12, s13, s14, s15, s16, s17, s18, s19⟩ := hSw; go_simp; with_reducible rfl)
    try simp only [Act.put, List.setIfInBounds_toArray, List.set_cons_zero, List.set_cons_succ, vagg]
    refine takeD (i := 5) (v := ?v13) (some 71) rfl (by kernel_rfl) (by kernel_rfl) (by kernel_rfl) (fun _ _ _ h => h) (Or.inl ⟨by rfl, ?hy13⟩) (HS.out _ HB.out) (by rfl) ?rest13
    case hy13 => first | (intro w hSw; (try dsimp only at hSw); obtain ⟨s0, s1, s2, s3, s4, s5, s6, s7, s8, s9, s10, s11, s12, s13, s14, s15, s16, s17, s18, s19⟩ := hSw; go_simp; done) | (intro w hSw; (try dsimp only at hSw); obtain ⟨s0, s1, s2, s3, s4, s5, s6, s7, s8, s9, s10, s11, s12, s13, s14, s15, s16, s17, s18, s19⟩ := hSw; go_simp; with_reducible rfl)
    try simp only [Act.put, List.setIfInBounds_toArray, List.set_cons_zero, List.set_cons_succ, vagg]
    refine wpAnyH_ready (rs := [3]) (by kernel_rfl) (by simp) ?_
    refine AllReadyH.cons rfl (fun K9 hK => ?_) AllReadyH.nil
    go_simp
    have hcall := HOA.out x1 HB.out
    try unfold vagg at hcall
    try simp only at hcall
    refine hcall.mono ?_
    rintro e x2 ⟨⟨pk, ps, pK, pL⟩, rfl, hb9, hT, hs9⟩
    obtain ⟨h4, h5⟩ := hs9
    simp only at h4 h5
    obtain ⟨pa, pn, pc, rfl⟩ := h4
    obtain ⟨pd, pe, pf, rfl⟩ := h5
    have HOp := hide (hT.keep (S' := fun _ => True) fun b _ _ => ⟨trivial, rfl⟩)
    clear hT
    have HB9 := hide (HB.out.trans (hb9.mono HB.out.size))
    clear hcall
    clear HB
    have HB := HB9
    clear HB9
    refine hK.out _ _ (HS.out _ HB.out) (fun _ => ?_)
    clear hK K9 hb9
    try simp only [Act.put, List.setIfInBounds_toArray, List.set_cons_zero, List.set_cons_succ, vagg]
    refine wpAnyH_ready (rs := [6]) (by kernel_rfl) (by simp) ?_
    refine AllReadyH.cons rfl (fun K9 hK => ?_) AllReadyH.nil
    go_simp
    have hcall := HRA.out x2 HB.out
    try unfold vagg at hcall
    try simp only at hcall
    refine hcall.mono ?_
    rintro e x3 ⟨⟨qk, qs, qK, qL⟩, rfl, hb9, hT⟩
    obtain ⟨h4, h5⟩ := hT.sl
    simp only at h4 h5
    obtain ⟨qa, qn, qc, rfl⟩ := h4
    obtain ⟨qd, qe, qf, rfl⟩ := h5
    have HOq := hide (hT.keep (S' := fun _ => True) fun b _ _ => ⟨trivial, rfl⟩)
    clear hT
    have HB9 := hide (HB.out.trans (hb9.mono HB.out.size))
    have HOp9 := hide (HOp.out.bel hb9)
    clear hcall
    clear HB HOp
    have HB := HB9
    clear HB9
    have HOp := HOp9
    clear HOp9
    refine hK.out _ _ (HS.out _ HB.out) (fun _ => ?_)
    clear hK K9 hb9
    try simp only [Act.put, List.setIfInBounds_toArray, List.set_cons_zero, List.set_cons_succ, vagg]
    refine wpAnyH_ready (rs := [7]) (by kernel_rfl) (by simp) ?_
    refine AllReadyH.cons rfl (fun K9 hK => ?_) AllReadyH.nil
    go_simp
    have hcall := HQA.out x3 HOp.out HOq.out
    try unfold vagg at hcall
    try simp only at hcall
    refine hcall.mono ?_
    rintro e x4 ⟨rfl, hb9⟩
    have HB9 := hide (HB.out.trans (hb9.mono HB.out.size))
    clear hcall
    clear HB
    have HB := HB9
    clear HB9
    refine hK.out _ _ (HS.out _ HB.out) (fun _ => ?_)
    clear hK K9 hb9
    try simp only [Act.put, List.setIfInBounds_toArray, List.set_cons_zero, List.set_cons_succ, vagg]
    refine takeD (i := 8) (v := ?v14) (some 74) rfl (by kernel_rfl) (by kernel_rfl) (by kernel_rfl) (fun _ _ _ h => h) (Or.inl ⟨by rfl, ?hy14⟩) (HS.out _ HB.out) (by rfl) ?rest14
    case hy14 => first | (intro w hSw; (try dsimp only at hSw); obtain ⟨s0, s1, s2, s3, s4, s5, s6, s7, s8, s9, s10, s11, s12, s13, s14, s15, s16, s17, s18, s19⟩ := hSw; go_simp; done) | (intro w hSw; (try dsimp only at hSw); obtain ⟨s0, s1, s2, s3, s4, s5, s6, s7, s8, s9, s10, s11, s12, s13, s14, s15, s16, s17, s18, s19⟩ := hSw; go_simp; with_reducible rfl)
    try simp only [Act.put, List.setIfInBounds_toArray, List.set_cons_zero, List.set_cons_succ, vagg]
    refine takeD (i := 9) (v := ?v15) (some 75) rfl (by kernel_rfl) (by kernel_rfl) (by kernel_rfl) (fun _ _ _ h => h) (Or.inl ⟨by rfl, ?hy15⟩) (HS.out _ HB.out) (by rfl) ?rest15
    case hy15 => first | (intro w hSw; (try dsimp only at hSw); obtain ⟨s0, s1, s2, s3, s4, s5, s6, s7, s8, s9, s10, s11, s12, s13, s14, s15, s16, s17, s18, s19⟩ := hSw; go_simp; done) | (intro w hSw; (try dsimp only at hSw); obtain ⟨s0, s1, s2, s3, s4, s5, s6, s7, s8, s9, s10, s11, s12, s13, s14, s15, s16, s17, s18, s19⟩ := hSw; go_simp; with_reducible rfl)
    try simp only [Act.put, List.setIfInBounds_toArray, List.set_cons_zero, List.set_cons_succ, vagg]
    refine takeD (i := 10) (v := ?v16) (some 76) rfl (by kernel_rfl) (by kernel_rfl) (by kernel_rfl) (fun _ _ _ h => h) (Or.inl ⟨by rfl, ?hy16⟩) (HS.out _ HB.out) (by rfl) ?rest16
    case hy16 => first | (intro w hSw; (try dsimp only at hSw); obtain ⟨s0, s1, s2, s3, s4, s5, s6, s7, s8, s9, s10, s11, s12, s13, s14, s15, s16, s17, s18, s19⟩ := hSw; go_simp; done) | (intro w hSw; (try dsimp only at hSw); obtain ⟨s0, s1, s2, s3, s4, s5, s6, s7, s8, s9, s10, s11, s12, s13, s14, s15, s16, s17, s18, s19⟩ := hSw; go_simp; with_reducible rfl)
    try simp only [Act.put, List.setIfInBounds_toArray, List.set_cons_zero, List.set_cons_succ, vagg]
    refine takeD (i := 12) (v := ?v17) (some 78) rfl (by kernel_rfl) (by kernel_rfl) (by kernel_rfl) (fun _ _ _ h => h) (Or.inl ⟨by rfl, ?hy17⟩) (HS.out _ HB.out) (by rfl) ?rest17
    case hy17 => first | (intro w hSw; (try dsimp only at hSw); obtain ⟨s0, s1, s2, s3, s4, s5, s6, s7, s8, s9, s10, s11, s12, s13, s14, s15, s16, s17, s18, s19⟩ := hSw; go_simp; done) | (intro w hSw; (try dsimp only at hSw); obtain ⟨s0, s1, s2, s3, s4, s5, s6, s7, s8, s9, s10, s11, s12, s13, s14, s15, s16, s17, s18, s19⟩ := hSw; go_simp; with_reducible rfl)
    try simp only [Act.put, List.setIfInBounds_toArray, List.set_cons_zero, List.set_cons_succ, vagg]
    refine takeD (i := 13) (v := ?v18) (some 79) rfl (by kernel_rfl) (by kernel_rfl) (by kernel_rfl) (fun _ _ _ h => h) (Or.inl ⟨by rfl, ?hy18⟩) (HS.out _ HB.out) (by rfl) ?rest18
    case hy18 => first | (intro w hSw; (try dsimp only at hSw); obtain ⟨s0, s1, s2, s3, s4, s5, s6, s7, s8, s9, s10, s11, s12, s13, s14, s15, s16, s17, s18, s19⟩ := hSw; go_simp; done) | (intro w hSw; (try dsimp only at hSw); obtain ⟨s0, s1, s2, s3, s4, s5, s6, s7, s8, s9, s10, s11, s12, s13, s14, s15, s16, s17, s18, s19⟩ := hSw; go_simp; with_reducible rfl)
    try simp only [Act.put, List.setIfInBounds_toArray, List.set_cons_zero, List.set_cons_succ, vagg]
    refine takeD (i := 14) (v := ?v19) (some 80) rfl (by kernel_rfl) (by kernel_rfl) (by kernel_rfl) (fun _ _ _ h => h) (Or.inl ⟨by rfl, ?hy19⟩) (HS.out _ HB.out) (by rfl) ?rest19
    case hy19 => first | (intro w hSw; (try dsimp only at hSw); obtain ⟨s0, s1, s2, s3, s4, s5, s6, s7, s8, s9, s10, s11, s12, s13, s14, s15, s16, s17, s18, s19⟩ := hSw; go_simp; done) | (intro w hSw; (try dsimp only at hSw); obtain ⟨s0, s1, s2, s3, s4, s5, s6, s7, s8, s9, s10, s11, s12, s13, s14, s15, s16, s17, s18, s19⟩ := hSw; go_simp; with_reducible rfl)
    try simp only [Act.put, List.setIfInBounds_toArray, List.set_cons_zero, List.set_cons_succ, vagg]
    refine wpAnyH_ready (rs := [11]) (by kernel_rfl) (by simp) ?_
    refine AllReadyH.cons rfl (fun K9 hK => ?_) AllReadyH.nil
    go_simp
    have hcall := HOB.out x4 HB.out
    try unfold vagg at hcall
    try simp only at hcall
    refine hcall.mono ?_
    rintro e x5 ⟨⟨rk, rs, rK, rL⟩, rfl, hb9, hT, hs9⟩
    obtain ⟨h4, h5⟩ := hs9
    simp only at h4 h5
    obtain ⟨ra, rn, rc, rfl⟩ := h4
    obtain ⟨rd, re, rf, rfl⟩ := h5
    have HOr := hide (hT.keep (S' := fun _ => True) fun b _ _ => ⟨trivial, rfl⟩)
    clear hT
    have HB9 := hide (HB.out.trans (hb9.mono HB.out.size))
    clear hcall
    clear HB
    have HB := HB9
    clear HB9
    refine hK.out _ _ (HS.out _ HB.out) (fun _ => ?_)
    clear hK K9 hb9
    try simp only [Act.put, List.setIfInBounds_toArray, List.set_cons_zero, List.set_cons_succ, vagg]
    refine wpAnyH_ready (rs := [15]) (by kernel_rfl) (by simp) ?_
    refine AllReadyH.cons rfl (fun K9 hK => ?_) AllReadyH.nil
    go_simp
    have hcall := HRB.out x5 HB.out
    try unfold vagg at hcall
    try simp only at hcall
    refine hcall.mono ?_
    rintro e x6 ⟨⟨tk, ts, tK, tL⟩, rfl, hb9, hT⟩
    obtain ⟨h4, h5⟩ := hT.sl
    simp only at h4 h5
    obtain ⟨ta, tn, tc, rfl⟩ := h4
    obtain ⟨td, te, tf, rfl⟩ := h5
    have HOt := hide (hT.keep (S' := fun _ => True) fun b _ _ => ⟨trivial, rfl⟩)
    clear hT
    have HB9 := hide (HB.out.trans (hb9.mono HB.out.size))
    have HOr9 := hide (HOr.out.bel hb9)
    clear hcall
    clear HB HOr
    have HB := HB9
    clear HB9
    have HOr := HOr9
    clear HOr9
    refine hK.out _ _ (HS.out _ HB.out) (fun _ => ?_)
    clear hK K9 hb9
    try simp only [Act.put, List.setIfInBounds_toArray, List.set_cons_zero, List.set_cons_succ, vagg]
    refine wpAnyH_ready (rs := [16]) (by kernel_rfl) (by simp) ?_
    refine AllReadyH.cons rfl (fun K9 hK => ?_) AllReadyH.nil
    go_simp
    have hcall := HQB.out x6 HOr.out HOt.out
    try unfold vagg at hcall
    try simp only at hcall
    refine hcall.mono ?_
    rintro e x7 ⟨rfl, hb9⟩
    have HB9 := hide (HB.out.trans (hb9.mono HB.out.size))
    clear hcall
    clear HB
    have HB := HB9
    clear HB9
    refine hK.out _ _ (HS.out _ HB.out) (fun _ => ?_)
    clear hK K9 hb9
    try simp only [Act.put, List.setIfInBounds_toArray, List.set_cons_zero, List.set_cons_succ, vagg]
    refine takeD (i := 17) (v := ?v20) (some 83) rfl (by kernel_rfl) (by kernel_rfl) (by kernel_rfl) (fun _ _ _ h => h) (Or.inl ⟨by rfl, ?hy20⟩) (HS.out _ HB.out) (by rfl) ?rest20
    case hy20 => first | (intro w hSw; (try dsimp only at hSw); obtain ⟨s0, s1, s2, s3, s4, s5, s6, s7, s8, s9, s10, s11, s12, s13, s14, s15, s16, s17, s18, s19⟩ := hSw; go_simp; done) | (intro w hSw; (try dsimp only at hSw); obtain ⟨s0, s1, s2, s3, s4, s5, s6, s7, s8, s9, s10, s11, s12, s13, s14, s15, s16, s17, s18, s19⟩ := hSw; go_simp; with_reducible rfl)
    try simp only [Act.put, List.setIfInBounds_toArray, List.set_cons_zero, List.set_cons_succ, vagg]
    refine takeD (i := 18) (v := ?v21) (some 84) rfl (by kernel_rfl) (by kernel_rfl) (by kernel_rfl) (fun _ _ _ h => h) (Or.inl ⟨by rfl, ?hy21⟩) (HS.out _ HB.out) (by rfl) ?rest21
    case hy21 => first | (intro w hSw; (try dsimp only at hSw); obtain ⟨s0, s1, s2, s3, s4, s5, s6, s7, s8, s9, s10, s11, s12, s13, s14, s15, s16, s17, s18, s19⟩ := hSw; go_simp; done) | (intro w hSw; (try dsimp only at hSw); obtain ⟨s0, s1, s2, s3, s4, s5, s6, s7, s8, s9, s10, s11, s12, s13, s14, s15, s16, s17, s18, s19⟩ := hSw; go_simp; with_reducible rfl)
    try simp only [Act.put, List.setIfInBounds_toArray, List.set_cons_zero, List.set_cons_succ, vagg]
    refine takeD (i := 19) (v := ?v22) (some 85) rfl (by kernel_rfl) (by kernel_rfl) (by kernel_rfl) (fun _ _ _ h => h) (Or.inl ⟨by rfl, ?hy22⟩) (HS.out _ HB.out) (by rfl) ?rest22
    case hy22 => first | (intro w hSw; (try dsimp only at hSw); obtain ⟨s0, s1, s2, s3, s4, s5, s6, s7, s8, s9, s10, s11, s12, s13, s14, s15, s16, s17, s18, s19⟩ := hSw; go_simp; done) | (intro w hSw; (try dsimp only at hSw); obtain ⟨s0, s1, s2, s3, s4, s5, s6, s7, s8, s9, s10, s11, s12, s13, s14, s15, s16, s17, s18, s19⟩ := hSw; go_simp; with_reducible rfl)
    try simp only [Act.put, List.setIfInBounds_toArray, List.set_cons_zero, List.set_cons_succ, vagg]
    refine takeD (i := 21) (v := ?v23) (some 87) rfl (by kernel_rfl) (by kernel_rfl) (by kernel_rfl) (fun _ _ _ h => h) (Or.inl ⟨by rfl, ?hy23⟩) (HS.out _ HB.out) (by rfl) ?rest23
    case hy23 => first | (intro w hSw; (try dsimp only at hSw); obtain ⟨s0, s1, s2, s3, s4, s5, s6, s7, s8, s9, s10, s11, s12, s13, s14, s15, s16, s17, s18, s19⟩ := hSw; go_simp; done) | (intro w hSw; (try dsimp only at hSw); obtain ⟨s0, s1, s2, s3, s4, s5, s6, s7, s8, s9, s10, s11, s12, s13, s14, s15, s16, s17, s18, s19⟩ := hSw; go_simp; with_reducible rfl)
    try simp only [Act.put, List.setIfInBounds_toArray, List.set_cons_zero, List.set_cons_succ, vagg]
    refine takeD (i := 22) (v := ?v24) (some 88) rfl (by kernel_rfl) (by kernel_rfl) (by kernel_rfl) (fun _ _ _ h => h) (Or.inl ⟨by rfl, ?hy24⟩) (HS.out _ HB.out) (by rfl) ?rest24
    case hy24 => first | (intro w hSw; (try dsimp only at hSw); obtain ⟨s0, s1, s2, s3, s4, s5, s6, s7, s8, s9, s10, s11, s12, s13, s14, s15, s16, s17, s18, s19⟩ := hSw; go_simp; done) | (intro w hSw; (try dsimp only at hSw); obtain ⟨s0, s1, s2, s3, s4, s5, s6, s7, s8, s9, s10, s11, s12, s13, s14, s15, s16, s17, s18, s19⟩ := hSw; go_simp; with_reducible rfl)
    try simp only [Act.put, List.setIfInBounds_toArray, List.set_cons_zero, List.set_cons_succ, vagg]
    refine wpAnyH_ready (rs := [20]) (by kernel_rfl) (by simp) ?_
    refine AllReadyH.cons rfl (fun K9 hK => ?_) AllReadyH.nil
    go_simp
    have hcall := HOC.out x7 HB.out
    try unfold vagg at hcall
    try simp only at hcall
    refine hcall.mono ?_
    rintro e x8 ⟨⟨jk, js, jK, jL⟩, rfl, hb9, hT, hs9⟩
    obtain ⟨h4, h5⟩ := hs9
    simp only at h4 h5
    obtain ⟨ja, jn, jc, rfl⟩ := h4
    obtain ⟨jd, je, jf, rfl⟩ := h5
    have HOj := hide (hT.keep (S' := fun _ => True) fun b _ _ => ⟨trivial, rfl⟩)
    clear hT
    have HB9 := hide (HB.out.trans (hb9.mono HB.out.size))
    clear hcall
    clear HB
    have HB := HB9
    clear HB9
    refine hK.out _ _ (HS.out _ HB.out) (fun _ => ?_)
    clear hK K9 hb9
    try simp only [Act.put, List.setIfInBounds_toArray, List.set_cons_zero, List.set_cons_succ, vagg]
    refine wpAnyH_ready (rs := [23]) (by kernel_rfl) (by simp) ?_
    refine AllReadyH.cons rfl (fun K9 hK => ?_) AllReadyH.nil
    go_simp
    have hcall := HRC.out x8 HB.out
    try unfold vagg at hcall
    try simp only at hcall
    refine hcall.mono ?_
    rintro e x9 ⟨⟨lk, ls, lK, lL⟩, rfl, hb9, hT⟩
    obtain ⟨h4, h5⟩ := hT.sl
    simp only at h4 h5
    obtain ⟨la, ln, lc, rfl⟩ := h4
    obtain ⟨ld, le, lf, rfl⟩ := h5
    have HOl := hide (hT.keep (S' := fun _ => True) fun b _ _ => ⟨trivial, rfl⟩)
    clear hT
    have HB9 := hide (HB.out.trans (hb9.mono HB.out.size))
    have HOj9 := hide (HOj.out.bel hb9)
    clear hcall
    clear HB HOj
    have HB := HB9
    clear HB9
    have HOj := HOj9
    clear HOj9
    refine hK.out _ _ (HS.out _ HB.out) (fun _ => ?_)
    clear hK K9 hb9
    try simp only [Act.put, List.setIfInBounds_toArray, List.set_cons_zero, List.set_cons_succ, vagg]
    refine wpAnyH_ready (rs := [24]) (by kernel_rfl) (by simp) ?_
    refine AllReadyH.cons rfl (fun K9 hK => ?_) AllReadyH.nil
    go_simp
    have hcall := HQC.out x9 HOj.out HOl.out
    try unfold vagg at hcall
    try simp only at hcall
    refine hcall.mono ?_
    rintro e xa ⟨rfl, hb9⟩
    have HB9 := hide (HB.out.trans (hb9.mono HB.out.size))
    clear hcall
    clear HB
    have HB := HB9
    clear HB9
    refine hK.out _ _ (HS.out _ HB.out) (fun _ => ?_)
    clear hK K9 hb9
    try simp only [Act.put, List.setIfInBounds_toArray, List.set_cons_zero, List.set_cons_succ, vagg]
    refine takeD (i := 25) (v := ?v25) (some 91) rfl (by kernel_rfl) (by kernel_rfl) (by kernel_rfl) (fun _ _ _ h => h) (Or.inl ⟨by rfl, ?hy25⟩) (HS.out _ HB.out) (by rfl) ?rest25
    case hy25 => first | (intro w hSw; (try dsimp only at hSw); obtain ⟨s0, s1, s2, s3, s4, s5, s6, s7, s8, s9, s10, s11, s12, s13, s14, s15, s16, s17, s18, s19⟩ := hSw; go_simp; done) | (intro w hSw; (try dsimp only at hSw); obtain ⟨s0, s1, s2, s3, s4, s5, s6, s7, s8, s9, s10, s11, s12, s13, s14, s15, s16, s17, s18, s19⟩ := hSw; go_simp; with_reducible rfl)
    try simp only [Act.put, List.setIfInBounds_toArray, List.set_cons_zero, List.set_cons_succ, vagg]
    refine takeD (i := 26) (v := ?v26) (some 2) rfl (by kernel_rfl) (by kernel_rfl) (by kernel_rfl) (fun _ _ _ h => h) (Or.inl ⟨by rfl, ?hy26⟩) (HS.out _ HB.out) (by rfl) ?rest26
    case hy26 => first | (intro w hSw; (try dsimp only at hSw); obtain ⟨s0, s1, s2, s3, s4, s5, s6, s7, s8, s9, s10, s11, s12, s13, s14, s15, s16, s17, s18, s19⟩ := hSw; go_simp; done) | (intro w hSw; (try dsimp only at hSw); obtain ⟨s0, s1, s2, s3, s4, s5, s6, s7, s8, s9, s10, s11, s12, s13, s14, s15, s16, s17, s18, s19⟩ := hSw; go_simp; with_reducible rfl)
    try simp only [Act.put, List.setIfInBounds_toArray, List.set_cons_zero, List.set_cons_succ, vagg]
    refine wpAnyH_done (by kernel_rfl) ?_ _
    go_wp2
    go_ret
    exact ⟨rfl, HB5.out.trans (HB.out.mono HB5.out.size)⟩


end Go.Proofs.YtbdpmpepmjpadaaGreatDoor
