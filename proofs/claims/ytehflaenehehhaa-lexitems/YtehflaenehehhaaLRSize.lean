/- The reference's size of a sign. -/
import Derived.Test.YtehflaenehehhaaLRMarks
import Derived.BigQuiet
namespace Go.Proofs.Ytehflaenehehhaa
set_option linter.unusedVariables false
set_option linter.unusedSimpArgs false
set_option maxRecDepth 100000
open Go Go.RowKit Go.Shelf Go.Lib

theorem bdrewN {n : Nat} {w W : World} (h : Below n w W) (k : Nat) : Below n w (W.drewN k) := by
  induction k with
  | zero => exact h
  | succ k ih => exact ih.drew

theorem wrap_int {z : Int} (h1 : 0 ≤ z) (h2 : z ≤ 1000000000000) : IntKind.i64.wrap z = z := by
  simp [IntKind.wrap, IntKind.signed, IntKind.bits]
  omega

def pairAt (j : Nat) : List UInt8 := pairsL[j]?.getD []
def pairV (j : Nat) : ByteArray := ⟨(pairAt j).toArray⟩
def twosV : Array Value := (pairsL.map (fun l => Value.string ⟨l.toArray⟩)).toArray
theorem twosV_at {j : Nat} (h : j < 4) : twosV[j]? = some (.string (pairV j)) := by
  match j, h with
  | 0, _ => rfl
  | 1, _ => rfl
  | 2, _ => rfl
  | 3, _ => rfl
theorem pair_iff (s : ByteArray) : pairB s = true ↔ ∃ j, j < 4 ∧ (s.data.toList == pairAt j) = true := by
  unfold pairB
  rw [List.any_eq_true]
  constructor
  · rintro ⟨l, hl, he⟩
    obtain ⟨j, hj, rfl⟩ := List.getElem_of_mem hl
    refine ⟨j, hj, ?_⟩
    unfold pairAt
    rw [List.getElem?_eq_getElem hj]
    exact he
  · rintro ⟨j, hj, he⟩
    have hj' : j < pairsL.length := hj
    unfold pairAt at he
    rw [List.getElem?_eq_getElem hj'] at he
    exact ⟨pairsL[j], List.getElem_mem hj', he⟩
theorem natsOneS : natsOf oneS = [40, 41, 123, 125, 44, 58, 61, 59, 43, 45, 42, 47, 37, 60, 62] := by decide
theorem one_iff (x : Nat) : oneB x = true ↔ ∃ j, j < 15 ∧ nth (natsOf oneS) j = x := by
  rw [natsOneS]
  unfold oneB
  rw [List.contains_iff_mem]
  constructor
  · intro h
    obtain ⟨j, hj, rfl⟩ := List.getElem_of_mem h
    exact ⟨j, hj, by simp only [nth, List.getElem?_eq_getElem hj, Option.getD_some]⟩
  · rintro ⟨j, hj, rfl⟩
    have hj' : j < [40, 41, 123, 125, 44, 58, 61, 59, 43, 45, 42, 47, 37, 60, 62].length := hj
    simp only [nth, List.getElem?_eq_getElem hj', Option.getD_some]
    exact List.getElem_mem hj'

set_option maxHeartbeats 8000000 in
theorem rsize_calls (w : World) (b off cap : Nat) (T : List Nat) (p mb mc : Nat) (h : Byts w (.slice (some ⟨b, off, none⟩) T.length cap) T) (hp : p < T.length) (hlen : T.length ≤ 100000) (hcap : T.length ≤ cap)
    (hm : ∀ j, j < T.length → w.cell? ⟨mb, j, none⟩ = some (.int .i64 (markAt T j))) (hpm : twoB (T.drop p) = true → markAt T (p + 1) = 0) (hmc : T.length ≤ mc) :
    Calls Try.prog 25 #[.slice (some ⟨b, off, none⟩) T.length cap, .int .i64 (p : Int), .slice (some ⟨mb, 0, none⟩) T.length mc] w fun e w' => e = .returned (.int .i64 ((signL (T.drop p) : Nat) : Int)) ∧ Below w.heap.size w w' := by
  have H := hide h
  have HM := hide hm
  have HPM := hide hpm
  clear h hm hpm
  have hdl : (T.drop p).length = T.length - p := List.length_drop
  have HDL := hide hdl
  clear hdl
  go_enter Try.func25, Try.ntmps25
  go_wp2
  have hA : ∀ j, j < 4 → (w.alloc (.cells twosV 9)).cell? ⟨w.heap.size, j, none⟩ = some (.string (pairV j)) := fun j hj => (World.cell?_alloc_mark w twosV 9 (0, 0) j).trans (twosV_at hj)
  have hbA := bel w (.cells twosV 9)
  unfold twosV pairsL at hA hbA
  simp only [List.map_cons, List.map_nil] at hA hbA
  generalize hwA : w.alloc (.cells #[.string ⟨#[45, 62]⟩, .string ⟨#[60, 61]⟩, .string ⟨#[62, 61]⟩, .string ⟨#[33, 61]⟩] 9) = wA at *
  have HA : Hid (∀ j, j < 4 → wA.cell? ⟨w.heap.size, j, none⟩ = some (.string (pairV j))) := hA
  have HbA : Hid (Below w.heap.size w wA) := hbA
  clear hA hbA hwA
  go_loopw [8] (fun i wr => ∃ k : Nat, k ≤ 4 ∧ i = .int .i64 (k : Int) ∧ (∀ j, j < k → ¬ (p + 1 < T.length ∧ markAt T (p + 1) = 0 ∧ ((strOf ((T.drop p).take 2)).data.toList == pairAt j) = true)) ∧ Below wA.heap.size wA wr) (fun i _ => 4 - (RowKit.intOf i).toNat)
  case atStart => exact ⟨0, Nat.zero_le _, rfl, fun j hj => by omega, Below.refl _ _⟩
  case round =>
    obtain ⟨k, hk, rfl, h3, hB⟩ := hrel
    have H3 := hide h3
    have HB := hide (bafter HbA.out hB (Nat.le_refl _))
    have HBA := hide hB
    clear h3 hB
    have d0 : (0 : Int) ≤ (p : Int) := by omega
    have d01 : (0 : Int) ≤ (p : Int) + 1 := by omega
    have t1 : ((p : Int) + 1).toNat = p + 1 := by omega
    have t2 : ((p : Int) + 2).toNat = p + 2 := by omega
    have hw1 : IntKind.i64.wrap ((p : Int) + 1) = (p : Int) + 1 := wrap_int (by omega) (by omega)
    have hw2 : IntKind.i64.wrap ((p : Int) + 2) = (p : Int) + 2 := wrap_int (by omega) (by omega)
    by_cases hlt : k < 4
    · have dk : (k : Int) < 4 := by omega
      have dk0 : (0 : Int) ≤ (k : Int) := by omega
      have ck : wr.cell? ⟨w.heap.size, k, none⟩ = some (.string (pairV k)) := (HBA.out.cell (p := ⟨w.heap.size, k, none⟩) (block_lt (HA.out k hlt))).trans (HA.out k hlt)
      by_cases gl : p + 1 < T.length
      · have dl : decide ((p : Int) + 1 < (T.length : Int)) = true := decide_eq_true (by omega)
        have dl1 : (p : Int) + 1 < (T.length : Int) := by omega
        have cm : wr.cell? ⟨mb, p + 1, none⟩ = some (.int .i64 (markAt T (p + 1))) := (HB.out.cell (p := ⟨mb, p + 1, none⟩) (block_lt (HM.out (p + 1) gl))).trans (HM.out (p + 1) gl)
        have HMK : Hid (markAt T (p + 1) = markAt T (p + 1)) := rfl
        by_cases gm : markAt T (p + 1) = 0
        · rw [gm] at cm
          have HGM := hide gm
          clear gm HMK
          have hcv := fun n => conv_byts ((H.out.below (bdrewN HB.out n)).cut (cap' := cap - p) (p := p) (m := 2) (by omega))
          have q1 : (p : Int) ≤ (p : Int) + 2 := by omega
          have q2 : (p : Int) + 2 ≤ (cap : Int) := by omega
          have q3 : ¬ cap = p := by omega
          have HE : Hid (((strOf ((T.drop p).take 2)).toList == (pairV k).toList) = ((strOf ((T.drop p).take 2)).data.toList == pairAt k)) := by
            show _ = _
            rw [toList_data, toList_data]
            rfl
          have HP2 : Hid (twoB (T.drop p) = pairB (strOf ((T.drop p).take 2))) := by
            show _ = _
            unfold twoB
            rw [HDL.out, decide_eq_true (show 2 ≤ T.length - p by omega)]
            rfl
          cases hq : ((strOf ((T.drop p).take 2)).data.toList == pairAt k) with
          | true =>
            have e2 : signL (T.drop p) = 2 := by
              unfold signL
              rw [HP2.out, (pair_iff _).2 ⟨k, hlt, hq⟩]
              rfl
            rw [hq] at HE
            have g := HE.out
            clear HE hq HP2
            have E2 := hide e2
            clear e2
            generalize strOf ((T.drop p).take 2) = su at *
            generalize pairV k = u at *
            go_wp2
            go_quiet (fail)
            go_wp2
            go_ret
            exact ⟨by rw [E2.out]; rfl, bdrewN HB.out _⟩
          | false =>
            rw [hq] at HE
            have g := HE.out
            have HQ := hide hq
            clear HE hq HP2
            generalize strOf ((T.drop p).take 2) = su at *
            generalize pairV k = u at *
            go_wp2
            go_quiet (fail)
            go_wp2
            go_roundw
            case rel =>
              refine ⟨k + 1, by omega, by go_num, fun j hj => ?_, bdrewN HBA.out _⟩
              rcases Nat.lt_succ_iff_lt_or_eq.1 hj with g | g
              · exact H3.out j g
              · rintro ⟨_, _, e⟩
                rw [g, HQ.out] at e
                cases e
            case measure => simp [RowKit.intOf]; omega
        · have dm : (markAt T (p + 1) == 0) = false := beq_eq_false_iff_ne.2 gm
          have HGM := hide gm
          clear gm HMK
          generalize markAt T (p + 1) = mk at *
          go_wp2
          go_quiet (fail)
          go_wp2
          go_roundw
          case rel =>
            refine ⟨k + 1, by omega, by go_num, fun j hj => ?_, bdrewN HBA.out _⟩
            rcases Nat.lt_succ_iff_lt_or_eq.1 hj with g | g
            · exact H3.out j g
            · rintro ⟨_, e, _⟩
              exact HGM.out e
          case measure => simp [RowKit.intOf]; omega
      · have dl : decide ((p : Int) + 1 < (T.length : Int)) = false := decide_eq_false (by omega)
        have HGL := hide gl
        clear gl
        go_wp2
        go_quiet (fail)
        go_wp2
        go_roundw
        case rel =>
          refine ⟨k + 1, by omega, by go_num, fun j hj => ?_, bdrewN HBA.out _⟩
          rcases Nat.lt_succ_iff_lt_or_eq.1 hj with g | g
          · exact H3.out j g
          · rintro ⟨e, _, _⟩
            exact HGL.out e
        case measure => simp [RowKit.intOf]; omega
    · obtain rfl : k = 4 := by omega
      have e2 : twoB (T.drop p) = false := by
        cases e : twoB (T.drop p) with
        | false => rfl
        | true =>
          exfalso
          have e' := e
          unfold twoB at e'
          rw [HDL.out] at e'
          simp at e'
          obtain ⟨j, hj, hq⟩ := (pair_iff _).1 e'.2
          exact H3.out j hj ⟨by omega, HPM.out e, hq⟩
      have HS : Hid (signL (T.drop p) = if oneB (nth T p) = true then 1 else 0) := by
        show _ = _
        unfold signL
        rw [e2, nth_drop, Nat.add_zero]
        rfl
      clear e2 H3 hlt hk HBA HM HPM HA HbA
      obtain ⟨_, _, e, hsm, hcs⟩ := H.out
      cases e
      obtain ⟨_, _, e, hc⟩ := hcs p hp
      cases e
      have c0 : Hid (w.cell? ⟨b, off + p, none⟩ = some (.int .u8 ((nth T p : Nat) : Int))) := hc
      clear hcs hc hsm
      have hzS : oneS.size = 15 := rfl
      have HZ := hide (natsOf_length oneS)
      have HG1 := hide (get_nth oneS)
      have HI := hide (one_iff (nth T p))
      go_wp2
      have hoS : (ByteArray.mk #[40, 41, 123, 125, 44, 58, 61, 59, 43, 45, 42, 47, 37, 60, 62]) = oneS := rfl
      rw [hoS]
      generalize oneS = so at *
      clear hoS
      generalize wr = wo at *
      clear wr
      go_loopw [10] (fun i wr => ∃ k : Nat, k ≤ 15 ∧ i = .int .i64 (k : Int) ∧ (∀ j, j < k → nth (natsOf so) j ≠ nth T p) ∧ Below wo.heap.size wo wr) (fun i _ => 15 - (RowKit.intOf i).toNat)
      case atStart => exact ⟨0, Nat.zero_le _, rfl, fun j hj => by omega, Below.refl _ _⟩
      case round =>
        obtain ⟨k, hk, rfl, h3, hB⟩ := hrel
        have H3 := hide h3
        have HB2 := hide (bafter HB.out hB (Nat.le_refl _))
        have HBA := hide hB
        clear h3 hB
        by_cases hlt : k < 15
        · have dk : (k : Int) < (so.size : Int) := by omega
          have dk0 : (0 : Int) ≤ (k : Int) := by omega
          have cx : wr.cell? ⟨b, off + p, none⟩ = some (.int .u8 ((nth T p : Nat) : Int)) := (HB2.out.cell (p := ⟨b, off + p, none⟩) (block_lt c0.out)).trans c0.out
          have dp : (p : Int) < (T.length : Int) := by omega
          have hgn := HG1.out k (by omega)
          by_cases ge : nth (natsOf so) k = nth T p
          · have e1 : signL (T.drop p) = 1 := by rw [HS.out, if_pos (HI.out.2 ⟨k, hlt, ge⟩)]
            have E1 := hide e1
            have dg : (((nth T p : Nat) : Int) == ((nth (natsOf so) k : Nat) : Int)) = true := by rw [ge]; simp
            clear ge e1 HS HI
            generalize nth T p = x at *
            generalize nth (natsOf so) k = y at *
            go_wp2
            go_quiet (fail)
            go_wp2
            go_ret
            exact ⟨by rw [E1.out]; rfl, bdrewN HB2.out _⟩
          · have dg : (((nth T p : Nat) : Int) == ((nth (natsOf so) k : Nat) : Int)) = false := beq_eq_false_iff_ne.2 (by omega)
            have HGE := hide ge
            clear ge HS HI
            generalize hX : nth T p = x at *
            have HXX := hide hX
            clear hX
            generalize hY : nth (natsOf so) k = y at *
            have HYY := hide hY
            clear hY
            go_wp2
            go_quiet (fail)
            go_wp2
            go_roundw
            case rel =>
              refine ⟨k + 1, by omega, by go_num, fun j hj => ?_, bdrewN HBA.out _⟩
              rcases Nat.lt_succ_iff_lt_or_eq.1 hj with g | g
              · exact H3.out j g
              · rw [g, HYY.out]
                exact HGE.out
            case measure => simp [RowKit.intOf]; omega
        · obtain rfl : k = 15 := by omega
          have e0 : signL (T.drop p) = 0 := by
            rw [HS.out, if_neg]
            intro e
            obtain ⟨j, hj, hq⟩ := HI.out.1 e
            exact H3.out j hj hq
          have E0 := hide e0
          clear e0 HS HI HG1
          have dz : (so.size : Int) = 15 := by omega
          go_wp2
          go_ret
          exact ⟨by rw [E0.out]; rfl, HB2.out⟩

end Go.Proofs.Ytehflaenehehhaa
