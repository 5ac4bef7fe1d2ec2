/- The law FramePieces walked: for all bytes it returns true. -/
import Derived.Test.YtnflbplhokodjaaDoorFRow
namespace Go.Proofs.YtnflbplhokodjaaDoor
set_option linter.unusedVariables false
set_option linter.unusedSimpArgs false
set_option maxRecDepth 100000
open Go Go.RowKit Go.Shelf Go.Lib

/-- The messages of a stream, as far as a byte. -/
def upto (T : List Nat) (i : Nat) : St × List Msg := feedL (.head hd0) (T.take i)
theorem upto_step {T : List Nat} {i : Nat} (h : i < T.length) : upto T (i + 1) = ((stepF (upto T i).1 (nth T i)).1, (upto T i).2 ++ (stepF (upto T i).1 (nth T i)).2) := by
  unfold upto
  rw [take_snoc h, feed_app, feed_one]
theorem upto_all (T : List Nat) : upto T T.length = feedL (.head hd0) T := by unfold upto; rw [List.take_length]
theorem upto_pre {T : List Nat} {i : Nat} (h : i ≤ T.length) : ∃ r, (feedL (.head hd0) T).2 = (upto T i).2 ++ r := by
  refine ⟨(feedL (upto T i).1 (T.drop i)).2, ?_⟩
  have e : T = T.take i ++ T.drop i := (List.take_append_drop i T).symm
  conv => lhs; rw [e]
  rw [feed_app]
  rfl
theorem feed_len (s : St) (T : List Nat) : (feedL s T).2.length ≤ T.length := by
  induction T generalizing s with
  | nil => exact Nat.le_refl _
  | cons c l ih =>
    have h1 : (stepF s c).2.length ≤ 1 := by
      cases s with
      | nothing => exact Nat.zero_le _
      | skip n => show (if n ≤ 1 then (St.head hd0, []) else (.skip (n - 1), [])).2.length ≤ 1; split <;> simp
      | body n g => show (if n ≤ 1 then (St.head hd0, [(1, g ++ [c])]) else (.body (n - 1) (g ++ [c]), [])).2.length ≤ 1; split <;> simp
      | head h =>
        rcases hq : addL h c with ⟨q, h'⟩
        cases q with
        | opn => rw [step_open hq]; simp
        | none => rw [step_none hq]; simp
        | whole =>
          rw [step_whole hq]
          unfold beginL
          split
          · simp
          · split <;> simp
    have h2 := ih (stepF s c).1
    show ((stepF s c).2 ++ (feedL (stepF s c).1 l).2).length ≤ l.length + 1
    rw [List.length_append]
    omega

set_option maxHeartbeats 16000000 in
theorem framePieces_walk (w : World) (ao : Option Addr) (cap : Nat) (T : List Nat) (hB : Byt w ao cap T) (hK : Know w) :
    Calls Tryd.prog 4 #[.slice ao T.length cap] w fun e w' => e = .returned (.bool true) ∧ Below w.heap.size w w' := by
  have HG := hide hK.glob
  have HK := hide hK
  obtain ⟨hB, hcap, hn0⟩ := hB
  have HB := hide hB
  have HFM := hide (fun (W : World) (h : Below w.heap.size w W) => framed_calls W (HK.out.below h))
  clear hK hB
  by_cases hbig : 6000 < T.length
  · have d1 : (6000 : Int) < (T.length : Int) := by omega
    clear hbig
    go_enter Tryd.func4, Tryd.ntmps4
    go_wp2_with fail
    refine (HFM.out w (Below.refl _ _)).mono ?_
    rintro e w0 ⟨rfl, hb0⟩
    have HB0 := hide hb0
    clear hb0
    go_wp2_with fail
    refine (HFM.out w0 HB0.out).mono ?_
    rintro e w1 ⟨rfl, hb1⟩
    have HB1 := hide (bafter HB0.out hb1 (Nat.le_refl _))
    clear hb1
    go_wp2
    go_ret
    exact ⟨rfl, HB1.out⟩
  · have d1 : ¬ (6000 : Int) < (T.length : Int) := by omega
    go_enter Tryd.func4, Tryd.ntmps4
    go_wp2_with fail
    refine (HFM.out w (Below.refl _ _)).mono ?_
    rintro e w0 ⟨rfl, hb0⟩
    have HB0 := hide hb0
    clear hb0 HFM
    go_wp2_with fail
    refine (new_calls w0 w.heap.size).mono ?_
    rintro e w1 ⟨rfl, hr1, hb1, hs1⟩
    have HR1 := hide hr1
    have HB1 := hide (bafter HB0.out hb1 (Nat.le_refl _))
    have HS1 := hide hs1
    clear hr1 hb1 hs1
    go_wp2_with fail
    refine (new_calls w1 w.heap.size).mono ?_
    rintro e w2 ⟨rfl, hr2, hb2, hs2⟩
    have HR2 := hide hr2
    have HR1' := hide (HR1.out.below hb2)
    have HB2 := hide (bafter HB1.out hb2 (Nat.le_refl _))
    have HNE : Hid (w0.heap.size ≠ w1.heap.size) := by have := HS1.out; show _ ≠ _; omega
    have HS0 : Hid (w.heap.size ≤ w0.heap.size) := HB0.out.size
    have HS01 : Hid (w.heap.size ≤ w1.heap.size) := HB1.out.size
    clear hr2 hb2 hs2 HR1 HS1
    have HFC := hide (feed_calls w2 w.heap.size w0.heap.size (.head hd0) none ao cap T HR1'.out (by omega) (HB.out.below HB2.out) hcap (fun h0 a e => ⟨by
      obtain ⟨ao', c', e', h1, h2⟩ := HB.out
      cases e'
      obtain ⟨b, off, e2, hc⟩ := h2 0 h0
      rw [e] at e2
      cases e2
      have := block_lt hc
      have := HS0.out
      show b ≠ w0.heap.size
      omega, by simp⟩) HB2.out.size HS0.out (HK.out.below HB2.out) HG.out)
    go_wp2_with fail
    refine HFC.out.mono ?_
    rintro e w3 ⟨gv, rfl, L, row3, m1, m2, m3, m4, m5, m6⟩
    have hrs := HR2.out.fr HR1'.out HNE.out.symm m5
    obtain ⟨csS, hbS⟩ := hrs.box
    have HB3 : Hid (Below w.heap.size w w3) := HB2.out.trans (m5.below HS0.out (fun k e => by cases e) HB2.out.size)
    obtain ⟨ga, gc, hgv⟩ := m1.slice
    subst hgv
    have HLN := hide m2.len
    have HLT := hide (feed_len (.head hd0) T)
    have HM1 := hide m1
    have HM2 := hide m2
    have HM3 := hide m3
    have HRS := hide hrs
    have HBS := hide hbS
    have HUA1 : Hid ((upto T T.length).1 = (feedL (.head hd0) T).1) := by show _ = _; rw [upto_all]
    have HUA2 : Hid ((upto T T.length).2 = (feedL (.head hd0) T).2) := by show _ = _; rw [upto_all]
    have HUP := hide (fun (i : Nat) (h : i ≤ T.length) => upto_pre h)
    generalize hLL : L.length = LN at *
    clear m1 m2 m3 m4 m5 m6 hrs hbS hLL HFC HR1' HR2
    generalize hms : (feedL (.head hd0) T).2 = ms at *
    generalize hss : (feedL (.head hd0) T).1 = sE at *
    have hLN : LN ≤ 6000 := by have := HLN.out; have := HLT.out; omega
    clear hms hss hbig
    go_wp2
    go_loopw [6, 7] (fun kv iv wr => ∃ (i : Nat) (row : Option Nat), i ≤ T.length ∧ iv = .int .i64 (i : Int) ∧ kv = .int .i64 (((upto T i).2.length : Nat) : Int) ∧ Rdr w.heap.size wr w1.heap.size (upto T i).1 row ∧ RowTo w3 none row ∧ Fr w1.heap.size none w3 wr) (fun _ iv _ => T.length - (RowKit.intOf iv).toNat)
    case atStart => exact ⟨0, none, Nat.zero_le _, rfl, rfl, HRS.out, .inl rfl, Fr.refl _ _ _⟩
    case round =>
      obtain ⟨i, row, hi, rfl, rfl, hr, hrt, hfr⟩ := hrel
      have HR := hide hr
      have HRT := hide hrt
      have HFR := hide hfr
      have HBW : Hid (Below w.heap.size w wr) := HB3.out.trans (hfr.below HS01.out (fun k e => by cases e) HB3.out.size)
      clear hr hrt hfr
      obtain ⟨r0, hr0⟩ := HUP.out i hi
      have HKL : Hid ((upto T i).2.length ≤ LN) := by have h1 := HLN.out; rw [hr0, List.length_append] at h1; show _ ≤ _; omega
      clear hr0
      generalize hK0 : (upto T i).2.length = K at *
      have HK0 := hide hK0
      have hKb : K ≤ 6000 := by have := HKL.out; omega
      clear hK0
      by_cases hlt : i < T.length
      · have e1 : (i : Int) < (T.length : Int) := by omega
        have hTB := HB.out.below HBW.out
        obtain ⟨b, o, hbo, hbl, hby⟩ := hTB.one hlt hcap
        have hbw : b < w.heap.size := by
          obtain ⟨b2, o2, hbo2, hbl2, _⟩ := HB.out.one hlt hcap
          rw [hbo] at hbo2
          cases hbo2
          exact hbl2
        have q1 : ∀ W : World, (Instr.slice 25 (.slice ao T.length cap) (some (.int .i64 (i : Int))) (some (.int .i64 ((i : Int) + 1))) none).run Tryd.prog W = .ok (.slice (some ⟨b, o, none⟩) 1 (cap - i)) W := fun W => by rw [← hbo]; exact cut_one W ao T.length cap i hlt hcap
        have HFC := hide (feed_calls wr w.heap.size w1.heap.size (upto T i).1 row (some ⟨b, o, none⟩) (cap - i) [nth T i] HR.out (by simp) hby (by show 1 ≤ _; omega) (fun _ a e => by
          cases e
          refine ⟨by show b ≠ w1.heap.size; have := HS01.out; omega, fun q => ?_⟩
          rcases HRT.out with z | z | ⟨k, z, hk⟩
          · rw [z] at q; cases q
          · rw [z] at q; cases q
          · rw [z] at q; cases q; have := HB3.out.size; show False; dsimp only at *; omega) HBW.out.size HS01.out (HK.out.below HBW.out) HG.out)
        have HUS := hide (upto_step hlt)
        obtain ⟨r1, hr1⟩ := HUP.out (i + 1) (by omega)
        have HMS : Hid (∀ j m, (stepF (upto T i).1 (nth T i)).2[j]? = some m → ms[K + j]? = some m) := fun j m hj => by
          rw [hr1, HUS.out]
          have hjl := (List.getElem?_eq_some_iff.1 hj).1
          have h1 : ((upto T i).2 ++ (stepF (upto T i).1 (nth T i)).2)[K + j]? = some m := by
            rw [List.getElem?_append_right (by rw [HK0.out]; omega), HK0.out, show K + j - K = j by omega]
            exact hj
          show (((upto T i).2 ++ (stepF (upto T i).1 (nth T i)).2) ++ r1)[K + j]? = some m
          rw [List.getElem?_append_left (by exact (List.getElem?_eq_some_iff.1 h1).1)]
          exact h1
        clear hr1 hTB hby hbo
        go_wp2_with fail
        refine HFC.out.mono ?_
        rintro e w5 ⟨gv5, rfl, L5, row5, n1, n2, n3, n4, n5, n6⟩
        rw [feed_one] at n2 n3
        obtain ⟨ga5, gc5, hg5⟩ := n1.slice
        subst hg5
        have HL5 := hide n2.len
        have HN1 := hide n1
        have HN2 := hide n2
        have HN3 := hide n3
        have HN4 := hide n4
        have HN5 := hide n5
        clear n1 n2 n3 n4 n5 n6 HFC
        generalize hL5 : L5.length = N5 at *
        clear hL5
        have hN5 : N5 ≤ 6000 := by
          have h1 := HL5.out
          obtain ⟨r2, hr2⟩ := HUP.out (i + 1) (by omega)
          have h2 := HLN.out
          rw [hr2, HUS.out, List.length_append, List.length_append] at h2
          omega
        have HFR5 : Hid (Fr w1.heap.size none w3 w5) := HFR.out.trans HN5.out HRT.out
        go_wp2
        go_loopw [6, 9] (fun kv jv wq => ∃ j : Nat, j ≤ N5 ∧ jv = .int .i64 (j : Int) ∧ kv = .int .i64 ((K + j : Nat) : Int) ∧ Below w5.heap.size w5 wq) (fun _ jv _ => N5 - (RowKit.intOf jv).toNat)
        case atStart => exact ⟨0, Nat.zero_le _, rfl, rfl, Below.refl _ _⟩
        case round =>
          obtain ⟨j, hj, rfl, rfl, hbq⟩ := hrel
          generalize wr = wq at *
          have HBQ := hide hbq
          clear hbq
          by_cases hjl : j < N5
          · obtain ⟨m, hm⟩ : ∃ m, (stepF (upto T i).1 (nth T i)).2[j]? = some m := ⟨_, List.getElem?_eq_getElem (by rw [← HL5.out]; exact hjl)⟩
            have hm2 := HMS.out j m hm
            have hFq : Fr w1.heap.size none w3 wq := HFR5.out.then HBQ.out
            obtain ⟨g1, c1, a1, l1, cc1, hv1, x0, x1, xb⟩ := msg_at (HN1.out.below HBQ.out) (HN2.out.below HBQ.out) hm
            obtain ⟨g2, c2, a2, l2, cc2, hv2, y0, y1, yb⟩ := msg_at (HM1.out.fr HBS.out hFq) (HM2.out.fr HBS.out hFq) hm2
            obtain ⟨rfl, hN1, rfl⟩ := Value.slice.inj hv1
            obtain ⟨rfl, hN2, rfl⟩ := Value.slice.inj hv2
            clear hN1 hN2 hv1 hv2
            have cvx : ∀ k, (convert 25 9 (.slice a1 l1 cc1)).run Tryd.prog (wq.drewN k) = .ok (.string (strOf m.2)) (wq.drewN k) := fun k => conv_byts (xb.below (bdrewN (Below.refl _ _) k))
            have cvy : ∀ k, (convert 25 9 (.slice a2 l2 cc2)).run Tryd.prog (wq.drewN k) = .ok (.string (strOf m.2)) (wq.drewN k) := fun k => conv_byts (yb.below (bdrewN (Below.refl _ _) k))
            have hkl : K + j < LN := by rw [HLN.out]; exact (List.getElem?_eq_some_iff.1 hm2).1
            generalize strOf m.2 = sB at *
            generalize m.1 = kd at *
            generalize hkj : K + j = kj at *
            have HKJ := hide hkj
            have dk : decide ((LN : Int) ≤ (kj : Int)) = false := decide_eq_false (by omega)
            have dkn : decide (LN ≤ kj) = false := decide_eq_false (by omega)
            have dk0 : (0 : Int) ≤ (kj : Int) := by omega
            have dk1 : (kj : Int) < (LN : Int) := by omega
            have dj0 : (0 : Int) ≤ (j : Int) := by omega
            have dj1 : (j : Int) < (N5 : Int) := by omega
            have HJL := hide hjl
            clear hkj hm hm2 hFq xb yb hkl hjl
            go_wp2
            go_quiet (fail)
            go_wp2
            go_roundw
            case rel => exact ⟨j + 1, by have := HJL.out; omega, by go_num, by have := HKJ.out; first | rfl | (congr 1; omega) | (simp; omega), bdrewN HBQ.out _⟩
            case measure => have := HJL.out; simp [RowKit.intOf]; omega
          · obtain rfl : j = N5 := by omega
            have dj : ¬ (j : Int) < (j : Int) := by omega
            have HEQ : Hid ((upto T (i + 1)).2.length = K + j) := by
              show _ = _
              rw [HUS.out, List.length_append, HK0.out, ← HL5.out]
            clear hjl
            generalize hkj : K + j = kj at *
            go_wp2
            go_roundw
            case rel =>
              refine ⟨i + 1, row5, hlt, by go_num, by rw [HEQ.out], ?_, ?_, HFR5.out.then HBQ.out⟩
              · rw [HUS.out]; exact HN3.out.below HBQ.out
              · exact HRT.out.trans HN4.out HFR.out.size
            case measure => simp [RowKit.intOf]; omega
      · obtain rfl : i = T.length := by omega
        have e1 : ¬ (T.length : Int) < (T.length : Int) := by omega
        have hKe : K = LN := by
          have h1 := HK0.out
          have h2 : (upto T T.length).2 = ms := HUA2.out
          rw [h2] at h1
          rw [← h1, HLN.out]
        subst hKe
        have ek : ((K : Int) == (K : Int)) = true := by simp
        have hsE : (upto T T.length).1 = sE := HUA1.out
        have HOR := hide (over_calls wr w.heap.size w0.heap.size sE row3 (HM3.out.fr HRS.out HNE.out HFR.out))
        have HOS := hide (over_calls wr w.heap.size w1.heap.size _ row HR.out)
        rw [hsE] at HOS
        clear hlt hsE
        go_wp2_with fail
        refine HOR.out.mono ?_
        rintro e w6 ⟨rfl, hw6⟩
        rw [hw6]
        clear hw6
        go_wp2_with fail
        refine HOS.out.mono ?_
        rintro e w7 ⟨rfl, hw7⟩
        rw [hw7]
        clear hw7
        have eo : (sE.over == sE.over) = true := by simp
        go_wp2
        go_ret
        exact ⟨rfl, HBW.out⟩

end Go.Proofs.YtnflbplhokodjaaDoor
