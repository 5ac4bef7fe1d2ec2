/- The law FrameReads walked: for all pieces it returns true. -/
import Derived.Test.YtnflbplhokodjaaDoorFSame
namespace Go.Proofs.YtnflbplhokodjaaDoor
set_option linter.unusedVariables false
set_option linter.unusedSimpArgs false
set_option maxRecDepth 100000
open Go Go.RowKit Go.Shelf Go.Lib

set_option maxHeartbeats 32000000 in
theorem frameReads_walk (w : World) (ao : Option Addr) (cap : Nat) (L : List Pc) (hB : PcsIn w (.slice ao L.length cap) L) (hK : Know w) :
    Calls Tryd.prog 3 #[.slice ao L.length cap] w fun e w' => e = .returned (.bool true) ∧ Below w.heap.size w w' := by
  have HK := hide hK
  have HB := hide hB
  have HFM := hide (fun (W : World) (h : Below w.heap.size w W) => framed_calls W (HK.out.below h))
  clear hK hB
  go_enter Tryd.func3, Tryd.ntmps3
  go_wp2_with fail
  refine (HFM.out w (Below.refl _ _)).mono ?_
  rintro e w0 ⟨rfl, hb0⟩
  have HB0 := hide hb0
  clear hb0
  go_wp2_with fail
  refine (light_calls w0 ao cap L (HB.out.below HB0.out)).mono ?_
  rintro e w1 ⟨hres, hw1⟩
  rw [hw1]
  clear hw1
  rcases hres with rfl | ⟨hsmall, rfl⟩
  · go_wp2_with fail
    refine (HFM.out w0 HB0.out).mono ?_
    rintro e w1 ⟨rfl, hb1⟩
    have HB1 := hide (bafter HB0.out hb1 (Nat.le_refl _))
    clear hb1
    go_wp2
    go_ret
    exact ⟨rfl, HB1.out⟩
  · obtain ⟨hs1, hs2, hs3⟩ := hsmall
    have HS2 := hide hs2
    have HS3 := hide hs3
    have hin := HB.out
    obtain ⟨ao', cap', e', hcs⟩ := hin
    cases e'
    have HCS := hide hcs
    have HLC : Hid (∀ k, (catP (L.take k)).length ≤ 20000) := fun k => by rw [catP_len]; exact Nat.le_trans (sumP_take L k) hs3
    clear hcs hs2 HFM hs3
    generalize hLn : L.length = Ln at *
    have HLN := hide hLn
    clear hLn
    go_wp2
    go_loopw [3, 4] (fun av iv wr => ∃ k : Nat, k ≤ Ln ∧ iv = .int .i64 (k : Int) ∧ OwnB w.heap.size wr av (catP (L.take k)) ∧ Below w.heap.size w wr) (fun _ iv _ => Ln - (RowKit.intOf iv).toNat)
    case atStart => exact ⟨0, Nat.zero_le _, rfl, World.ownsRow_nil _ _ _ _, HB0.out⟩
    case round =>
      obtain ⟨k, hk, rfl, hown, hbr⟩ := hrel
      have HOW := hide hown
      have HBR := hide hbr
      have hck : (catP (L.take k)).length ≤ 20000 := HLC.out k
      clear hown hbr
      by_cases hlt : k < Ln
      · obtain ⟨x, hx⟩ : ∃ x, L[k]? = some x := ⟨_, List.getElem?_eq_getElem (by rw [HLN.out]; exact hlt)⟩
        obtain ⟨hbx, b, off, rfl, hcell⟩ := HCS.out k x hx
        have hx6 := HS2.out x (List.mem_of_getElem? hx)
        have HTK : Hid (catP (L.take (k + 1)) = catP (L.take k) ++ x.2.2) := by show _ = _; rw [takeP hx, catP_snoc]
        have cw : wr.cell? ⟨b, off + k, none⟩ = some (.slice x.1 x.2.2.length x.2.1) := (HBR.out.cell (p := ⟨b, off + k, none⟩) (block_lt hcell)).trans hcell
        have HBX := hide (hbx.below HBR.out).1
        have HLT := hide hlt
        have HSZ : Hid (w.heap.size ≤ wr.heap.size) := HBR.out.size
        have e1 : (k : Int) < (Ln : Int) := by omega
        have e0 : (0 : Int) ≤ (k : Int) := by omega
        clear hx hbx hcell hlt
        obtain ⟨xa, xc, xT⟩ := x
        dsimp only at cw HBX hx6 HTK
        generalize hxl : xT.length = xl at *
        have HXL := hide hxl
        clear hxl
        go_wp2_with (at_builtin; go_must (refine wpList_appA _ rfl (.tmp 27) (.tmp 31) rfl w.heap.size _ (catP (L.take k)) rfl HOW.out _ xT rfl HBX.out (by have := HXL.out; omega) HSZ.out ?_; intro v' w4 hown' hgrow hrow); have HO4 := hide hown'; have HB4 : Hid (Below w.heap.size w w4) := HBR.out.grown hgrow HSZ.out (fun j hj => (World.ownsRow.lt HOW.out j hj).1); clear hown' hgrow hrow)
        go_roundw
        case rel => exact ⟨k + 1, HLT.out, by go_num, by rw [HTK.out]; exact HO4.out, HB4.out⟩
        case measure => have := HLT.out; simp [RowKit.intOf]; omega
      · obtain rfl : k = Ln := by omega
        have e1 : ¬ (k : Int) < (k : Int) := by omega
        have htk : L.take k = L := by rw [← HLN.out]; exact List.take_length
        rw [htk] at HOW hck
        have hsmL : ∀ x ∈ catP L, x < 256 := by
          intro x hx
          unfold catP at hx
          rw [List.mem_flatMap] at hx
          obtain ⟨y, hy, hxy⟩ := hx
          obtain ⟨i, hi⟩ := List.getElem?_of_mem hy
          exact (HCS.out i y hi).1.1.small x hxy
        obtain ⟨aa, ac, hav, hby, hac, _, _, _⟩ := own_byts hsmL HOW.out
        subst hav
        have HMC := hide (messages_calls wr aa ac (catP L) hby hac (by omega))
        have HTT : Hid (catP (L.take k) = catP L) := by rw [htk]; rfl
        clear hlt hby hac htk hsmL HOW
        generalize hTl : (catP L).length = Tl at *
        have HTL := hide hTl
        clear hTl
        generalize wr = w4 at *
        go_wp2_with fail
        refine HMC.out.mono ?_
        rintro e w5 ⟨gr, rfl, Lr, hor, hrb, hb45⟩
        obtain ⟨ra, rc, hgr⟩ := hor.slice
        subst hgr
        have HOR := hide hor
        have HRB := hide hrb
        have HB45 := hide hb45
        have HB04 := hide HBR.out
        have HB05 := hide (bafter HBR.out hb45 (Nat.le_refl _))
        have HLRL := hide hrb.1
        clear hor hrb hb45 HMC
        generalize hLR : Lr.length = LN at *
        have HLR := hide hLR
        have hLNb : LN ≤ 20000 := by
          have h1 := HLRL.out
          have h2 := feedE_msgs (.head hd0) 0 (catP L)
          have h3 := feed_bound (.head hd0) (catP L)
          rw [← h2, List.length_map, ← h1, HTL.out] at h3
          omega
        clear hLR
        go_wp2_with fail
        refine (new_calls w5 w5.heap.size).mono ?_
        rintro e w6 ⟨rfl, hr6, hb56, hs6⟩
        have HR6 := hide hr6
        have HB56 := hide hb56
        have HS6 : Hid (w5.heap.size ≤ w6.heap.size) := hb56.size
        have HB06 := hide (bafter HB05.out hb56 (Nat.le_refl _))
        have HSW : Hid (w.heap.size ≤ w5.heap.size) := HB05.out.size
        have HG : Hid (Glob w5.heap.size) := (HK.out.below HB05.out).glob
        clear hr6 hb56 hs6
        go_wp2
        go_loopw [7, 8, 9, 10] (fun nv kv bv iv wr => ∃ (i : Nat) (row : Option Nat), i ≤ k ∧ iv = .int .i64 (i : Int) ∧ nv = .int .i64 (((catP (L.take i)).length : Nat) : Int) ∧ kv = .int .i64 (((atP L i).2.length : Nat) : Int) ∧ bv = .bool (atP L i).1.over ∧ Rdr w5.heap.size wr w5.heap.size (atP L i).1 row ∧ Below w5.heap.size w6 wr) (fun _ _ _ iv _ => k - (RowKit.intOf iv).toNat)
        case atStart => exact ⟨0, none, Nat.zero_le _, rfl, rfl, rfl, rfl, HR6.out, Below.refl _ _⟩
        case round =>
          obtain ⟨i, row, hi, rfl, rfl, rfl, rfl, hr, hb6⟩ := hrel
          have HR := hide hr
          have HB6 := hide hb6
          have HBW : Hid (Below w.heap.size w wr) := HB06.out.trans (hb6.mono HSW.out)
          clear hr hb6
          have hPb : (catP (L.take i)).length ≤ 20000 := HLC.out i
          have hKb : (atP L i).2.length ≤ 20000 := Nat.le_trans (feed_bound (.head hd0) (catP (L.take i))) hPb
          generalize hK0 : (atP L i).2.length = K at *
          have HK0 := hide hK0
          generalize hP0 : (catP (L.take i)).length = P at *
          have HP0 := hide hP0
          obtain ⟨b0, hb0⟩ : ∃ b0, (atP L i).1.over = b0 := ⟨_, rfl⟩
          have HBB0 := hide hb0
          rw [hb0]
          clear hK0 hP0 hb0
          generalize hLn2 : k = Ln at *
          clear hLn2
          by_cases hlt : i < Ln
          · obtain ⟨x, hx⟩ : ∃ x, L[i]? = some x := ⟨_, List.getElem?_eq_getElem (by rw [HLN.out]; exact hlt)⟩
            obtain ⟨hbx, b, off, rfl, hcell⟩ := HCS.out i x hx
            have hx6 := HS2.out x (List.mem_of_getElem? hx)
            have HNN0 : Hid ((catP (L.take (i + 1))).length = P + x.2.2.length) := by show _ = _; rw [takeP hx, catP_snoc, List.length_append, HP0.out]
            have cw : wr.cell? ⟨b, off + i, none⟩ = some (.slice x.1 x.2.2.length x.2.1) := (HBW.out.cell (p := ⟨b, off + i, none⟩) (block_lt hcell)).trans hcell
            have HPC := hide hcell
            have hbw := hbx.below HBW.out
            have HFC := hide (feed_calls wr w5.heap.size w5.heap.size (atP L i).1 row x.1 x.2.1 x.2.2 HR.out (by omega) hbw.1 hbw.2.1 (fun h0 a e => by
              obtain ⟨ao9, c9, e9, q1, q2⟩ := hbx.1
              cases e9
              obtain ⟨b9, off9, e8, q3⟩ := q2 0 h0
              rw [e] at e8
              cases e8
              have h5 := block_lt q3
              have h6 := HSW.out
              refine ⟨by show b9 ≠ w5.heap.size; omega, fun q => ?_⟩
              have := (HR.out.row _ q).1
              dsimp only at this
              omega) (Nat.le_trans HS6.out HB6.out.size) (Nat.le_refl _) (HK.out.below HBW.out) HG.out)
            have HUS := hide (atP_step hx)
            have HWA := hide (fun (j : Nat) (m : Msg) hm => wanted hx (j := j) (m := m) hm)
            rw [HK0.out, HP0.out] at HWA
            have hms5 := feed_bound (atP L i).1 x.2.2
            have HOV := hide (feed_over_any (atP L i).1 x.2.2)
            rw [HBB0.out] at HOV
            have e1 : (i : Int) < (Ln : Int) := by omega
            have e0 : (0 : Int) ≤ (i : Int) := by omega
            clear hx hbx hbw hcell
            obtain ⟨xa, xc, xT⟩ := x
            dsimp only at cw HPC HFC HUS HWA hms5 HOV HNN0 hx6
            generalize hxl : xT.length = xl at *
            obtain ⟨nn, hnn⟩ : ∃ nn, P + xl = nn := ⟨_, rfl⟩
            have en1 : (P : Int) + (xl : Int) = (nn : Int) := by omega
            have HNN : Hid ((catP (L.take (i + 1))).length = nn) := HNN0.out.trans hnn
            have hnb : nn ≤ 30000 := by omega
            clear hxl HNN0
            go_wp2_with fail
            refine HFC.out.mono ?_
            rintro e w7 ⟨gv5, rfl, L5, row5, n1, n2, n3, n4, n5, n6⟩
            have HB7 : Hid (Below w5.heap.size w6 w7) := HB6.out.trans (n5.below (Nat.le_refl _) (fun k e => (HR.out.row k e).1) (Nat.le_trans HS6.out HB6.out.size))
            obtain ⟨ga5, gc5, hg5⟩ := n1.slice
            subst hg5
            have HL5 := hide n2.len
            have HN1 := hide n1
            have HN2 := hide n2
            have HN3 := hide n3
            clear n1 n2 n3 n4 n5 n6 HFC cw
            generalize hm5 : (feedL (atP L i).1 xT).2 = ms5 at *
            generalize hs5 : (feedL (atP L i).1 xT).1 = s5 at *
            generalize hL5 : L5.length = N5 at *
            have hN5 : N5 ≤ 6000 := by have := HL5.out; omega
            clear hL5 hm5 hs5 hms5
            rw [show (b0 || ms5.any three) = (b0 || (ms5.any three)) from rfl] at HOV
            have HOV2 : Hid ((b0 || ms5.any three) = s5.over) := HOV.out.symm
            clear HOV
            have HOV := HOV2
            clear HOV2
            go_wp2
            go_loopw [8, 9, 12] (fun kv bv jv wq => ∃ j : Nat, j ≤ N5 ∧ jv = .int .i64 (j : Int) ∧ kv = .int .i64 ((K + j : Nat) : Int) ∧ bv = .bool (b0 || (ms5.take j).any three) ∧ Below w7.heap.size w7 wq) (fun _ _ jv _ => N5 - (RowKit.intOf jv).toNat)
            case atStart => exact ⟨0, Nat.zero_le _, rfl, rfl, by simp, Below.refl _ _⟩
            case round =>
              obtain ⟨j, hj, rfl, rfl, rfl, hbq⟩ := hrel
              generalize wr = wq at *
              have HBQ := hide hbq
              clear hbq
              by_cases hjl : j < N5
              · obtain ⟨m, hm⟩ : ∃ m, ms5[j]? = some m := ⟨_, List.getElem?_eq_getElem (by rw [← HL5.out]; exact hjl)⟩
                obtain ⟨en, hwant, hen1, hen2⟩ := HWA.out j m hm
                have HBR6 : Below w5.heap.size w6 wq := HB7.out.trans (HBQ.out.mono (Nat.le_trans HS6.out HB7.out.size))
                have HBW5 : Below w5.heap.size w5 wq := HB56.out.trans HBR6
                have HBW1 : Below w4.heap.size w4 wq := HB45.out.trans (HBW5.mono HB45.out.size)
                have HBW0 : Below w.heap.size w wq := HB04.out.trans (HBW1.mono HB04.out.size)
                obtain ⟨g1, c1, a1, l1, cc1, hv1, x0, x1, xb⟩ := msg_at (HN1.out.below HBQ.out) (HN2.out.below HBQ.out) hm
                obtain ⟨rfl, hN1, rfl⟩ := Value.slice.inj hv1
                have hkl : K + j < Lr.length := by rw [HRB.out.1]; exact (List.getElem?_eq_some_iff.1 hwant).1
                obtain ⟨xr, hxr⟩ : ∃ xr, Lr[K + j]? = some xr := ⟨_, List.getElem?_eq_getElem hkl⟩
                obtain ⟨r1, r2, a2, l2, cc2, r3, r4⟩ := HRB.out.2 (K + j) xr (m, en) hxr hwant
                obtain ⟨g2, c2, hv2, u0, u1, u2⟩ := (HOR.out.below HBW5).cells hxr
                obtain ⟨rfl, hN2, rfl⟩ := Value.slice.inj hv2
                rw [r1] at u0
                rw [r3] at u1
                rw [r2] at u2
                rw [HLR.out] at hkl
                have HSM := hide (fun (X : World) (hX : Below wq.heap.size wq X) => same_calls X m.1 en l1 cc1 l2 cc2 a1 a2 m.2 (xb.below hX) ((r4.below HBW1).below hX))
                have hp0 : wq.cell? ⟨b, off + i, none⟩ = some (.slice xa xl xc) := (HBW0.cell (p := ⟨b, off + i, none⟩) (block_lt HPC.out)).trans HPC.out
                have CLQ : Hid (∀ X, Below wq.heap.size wq X → X.cell? ⟨g1, j * 2, none⟩ = some (.int .i64 (m.1 : Int)) ∧ X.cell? ⟨g1, j * 2 + 1, none⟩ = some (.slice a1 l1 cc1) ∧ X.cell? ⟨g2, (K + j) * 3, none⟩ = some (.int .i64 (m.1 : Int)) ∧ X.cell? ⟨g2, (K + j) * 3 + 1, none⟩ = some (.slice a2 l2 cc2) ∧ X.cell? ⟨g2, (K + j) * 3 + 2, none⟩ = some (.int .i64 (en : Int)) ∧ X.cell? ⟨b, off + i, none⟩ = some (.slice xa xl xc)) := fun X hX =>
                  ⟨(hX.cell (p := ⟨g1, j * 2, none⟩) (block_lt x0)).trans x0, (hX.cell (p := ⟨g1, j * 2 + 1, none⟩) (block_lt x1)).trans x1, (hX.cell (p := ⟨g2, (K + j) * 3, none⟩) (block_lt u0)).trans u0, (hX.cell (p := ⟨g2, (K + j) * 3 + 1, none⟩) (block_lt u1)).trans u1, (hX.cell (p := ⟨g2, (K + j) * 3 + 2, none⟩) (block_lt u2)).trans u2, (hX.cell (p := ⟨b, off + i, none⟩) (block_lt hp0)).trans hp0⟩
                have HAN : Hid ((ms5.take (j + 1)).any three = ((ms5.take j).any three || (m.1 == 3))) := by
                  show _ = _
                  rw [List.take_add_one, hm, List.any_append]
                  simp [three]
                have ht3 : ((m.1 : Int) == 3) = (m.1 == 3) := by
                  by_cases q : m.1 = 3
                  · rw [q]; rfl
                  · rw [beq_eq_false_iff_ne.2 q, beq_eq_false_iff_ne.2 (by omega)]
                have HT3 := hide ht3
                clear ht3 hm hwant hv1 hv2 hN1 hN2 r1 r2 r3 r4 hxr x0 x1 u0 u1 u2 hp0 xb HBR6 HBW5 HBW1 HBW0
                generalize m.1 = kd at *
                generalize hkj : K + j = kj at *
                have HKJ := hide hkj
                have dk : decide ((LN : Int) ≤ (kj : Int)) = false := decide_eq_false (by omega)
                have dkn : decide (LN ≤ kj) = false := decide_eq_false (by omega)
                have dk0 : (0 : Int) ≤ (kj : Int) := by omega
                have dk1 : (kj : Int) < (LN : Int) := by omega
                have dj0 : (0 : Int) ≤ (j : Int) := by omega
                have dj1 : (j : Int) < (N5 : Int) := by omega
                have di0 : (0 : Int) ≤ (i : Int) := by omega
                have di1 : (i : Int) < (Ln : Int) := by omega
                have dE : decide ((nn : Int) < (en : Int)) = false := decide_eq_false (by omega)
                have dEn : decide (nn < en) = false := decide_eq_false (by omega)
                have eS : (nn : Int) - (xl : Int) = (P : Int) := by omega
                have hWP : IntKind.i64.wrap (P : Int) = (P : Int) := by rw [IntKind.wrap_i64]; omega
                have dF : decide ((en : Int) ≤ (P : Int)) = false := decide_eq_false (by omega)
                have dFn : decide (en ≤ P) = false := decide_eq_false (by omega)
                have HJL := hide hjl
                obtain ⟨bq, hbq⟩ : ∃ bq, (b0 || (ms5.take j).any three) = bq := ⟨_, rfl⟩
                have HBQB := hide hbq
                rw [hbq]
                clear hkj hkl hjl hen1 hen2 hbq
                go_upto_region 20 with fail
                refine wp_region_held_drew (S := fun X : World => Below wq.heap.size wq X) (by kernel_rfl) ((Below.refl _ wq).drew) (fun hHeld => ?_)
                refine takeD (i := 0) (v := ?v0) (some 61) rfl (by kernel_rfl) (by kernel_rfl) (by kernel_rfl) (fun _ _ _ h => h) (Or.inl ⟨by rfl, ?hy0⟩) (by assumption) (by rfl) ?rest0
                case hy0 => first | (intro w hSw; (try dsimp only at hSw); go_simp; done) | (intro w hSw; (try dsimp only at hSw); go_simp; with_reducible rfl)
                try simp only [Act.put, List.setIfInBounds_toArray, List.set_cons_zero, List.set_cons_succ]
                refine takeD (i := 1) (v := ?v1) (some 62) rfl (by kernel_rfl) (by kernel_rfl) (by kernel_rfl) (fun _ _ _ h => h) (Or.inl ⟨by rfl, ?hy1⟩) (by assumption) (by rfl) ?rest1
                case hy1 => first | (intro w hSw; (try dsimp only at hSw); go_simp; done) | (intro w hSw; (try dsimp only at hSw); go_simp; with_reducible rfl)
                try simp only [Act.put, List.setIfInBounds_toArray, List.set_cons_zero, List.set_cons_succ]
                refine takeD (i := 2) (v := ?v2) (some 63) rfl (by kernel_rfl) (by kernel_rfl) (by kernel_rfl) (fun _ _ _ h => h) (Or.inl ⟨by rfl, ?hy2⟩) (by assumption) (by rfl) ?rest2
                case hy2 => first | (intro w hSw; (try dsimp only at hSw); go_simp; done) | (intro w hSw; (try dsimp only at hSw); go_simp; with_reducible rfl)
                try simp only [Act.put, List.setIfInBounds_toArray, List.set_cons_zero, List.set_cons_succ]
                refine takeD (i := 3) (v := ?v3) (some 64) rfl (by kernel_rfl) (by kernel_rfl) (by kernel_rfl) (fun _ _ _ h => h) (Or.inl ⟨by rfl, ?hy3⟩) (by assumption) (by rfl) ?rest3
                case hy3 => first | (intro w hSw; (try dsimp only at hSw); go_simp; done) | (intro w hSw; (try dsimp only at hSw); go_simp; with_reducible rfl)
                try simp only [Act.put, List.setIfInBounds_toArray, List.set_cons_zero, List.set_cons_succ]
                refine takeD (i := 4) (v := ?v4) (some 65) rfl (by kernel_rfl) (by kernel_rfl) (by kernel_rfl) (fun _ _ _ h => h) (Or.inl ⟨by rfl, ?hy4⟩) (by assumption) (by rfl) ?rest4
                case hy4 => first | (intro w hSw; (try dsimp only at hSw); go_simp; done) | (intro w hSw; (try dsimp only at hSw); go_simp; with_reducible rfl)
                try simp only [Act.put, List.setIfInBounds_toArray, List.set_cons_zero, List.set_cons_succ]
                refine takeD (i := 5) (v := ?v5) (some 66) rfl (by kernel_rfl) (by kernel_rfl) (by kernel_rfl) (fun _ _ _ h => h) (Or.inl ⟨by rfl, ?hy5⟩) (by assumption) (by rfl) ?rest5
                case hy5 => first | (intro w hSw; (try dsimp only at hSw); go_simp; done) | (intro w hSw; (try dsimp only at hSw); go_simp; with_reducible rfl)
                try simp only [Act.put, List.setIfInBounds_toArray, List.set_cons_zero, List.set_cons_succ]
                refine takeD (i := 6) (v := ?v6) (some 67) rfl (by kernel_rfl) (by kernel_rfl) (by kernel_rfl) (fun _ _ _ h => h) (Or.inl ⟨by rfl, ?hy6⟩) (by assumption) (by rfl) ?rest6
                case hy6 => first | (intro w hSw; (try dsimp only at hSw); go_simp; done) | (intro w hSw; (try dsimp only at hSw); go_simp; with_reducible rfl)
                try simp only [Act.put, List.setIfInBounds_toArray, List.set_cons_zero, List.set_cons_succ]
                refine takeD (i := 7) (v := ?v7) (some 68) rfl (by kernel_rfl) (by kernel_rfl) (by kernel_rfl) (fun _ _ _ h => h) (Or.inl ⟨by rfl, ?hy7⟩) (by assumption) (by rfl) ?rest7
                case hy7 => first | (intro w hSw; (try dsimp only at hSw); go_simp; done) | (intro w hSw; (try dsimp only at hSw); go_simp; with_reducible rfl)
                try simp only [Act.put, List.setIfInBounds_toArray, List.set_cons_zero, List.set_cons_succ]
                refine takeD (i := 8) (v := ?v8) (some 69) rfl (by kernel_rfl) (by kernel_rfl) (by kernel_rfl) (fun _ _ _ h => h) (Or.inl ⟨by rfl, ?hy8⟩) (by assumption) (by rfl) ?rest8
                case hy8 => first | (intro w hSw; (try dsimp only at hSw); obtain ⟨y0, y1, z0, z1, z2, p0⟩ := CLQ.out _ hSw; go_simp; done) | (intro w hSw; (try dsimp only at hSw); obtain ⟨y0, y1, z0, z1, z2, p0⟩ := CLQ.out _ hSw; go_simp; with_reducible rfl)
                try simp only [Act.put, List.setIfInBounds_toArray, List.set_cons_zero, List.set_cons_succ]
                refine takeD (i := 9) (v := ?v9) (some 70) rfl (by kernel_rfl) (by kernel_rfl) (by kernel_rfl) (fun _ _ _ h => h) (Or.inl ⟨by rfl, ?hy9⟩) (by assumption) (by rfl) ?rest9
                case hy9 => first | (intro w hSw; (try dsimp only at hSw); go_simp; done) | (intro w hSw; (try dsimp only at hSw); go_simp; with_reducible rfl)
                try simp only [Act.put, List.setIfInBounds_toArray, List.set_cons_zero, List.set_cons_succ]
                refine takeD (i := 10) (v := ?v10) (some 71) rfl (by kernel_rfl) (by kernel_rfl) (by kernel_rfl) (fun _ _ _ h => h) (Or.inl ⟨by rfl, ?hy10⟩) (by assumption) (by rfl) ?rest10
                case hy10 => first | (intro w hSw; (try dsimp only at hSw); go_simp; done) | (intro w hSw; (try dsimp only at hSw); go_simp; with_reducible rfl)
                try simp only [Act.put, List.setIfInBounds_toArray, List.set_cons_zero, List.set_cons_succ]
                refine takeD (i := 11) (v := ?v11) (some 72) rfl (by kernel_rfl) (by kernel_rfl) (by kernel_rfl) (fun _ _ _ h => h) (Or.inl ⟨by rfl, ?hy11⟩) (by assumption) (by rfl) ?rest11
                case hy11 => first | (intro w hSw; (try dsimp only at hSw); go_simp; done) | (intro w hSw; (try dsimp only at hSw); go_simp; with_reducible rfl)
                try simp only [Act.put, List.setIfInBounds_toArray, List.set_cons_zero, List.set_cons_succ]
                refine takeD (i := 12) (v := ?v12) (some 73) rfl (by kernel_rfl) (by kernel_rfl) (by kernel_rfl) (fun _ _ _ h => h) (Or.inl ⟨by rfl, ?hy12⟩) (by assumption) (by rfl) ?rest12
                case hy12 => first | (intro w hSw; (try dsimp only at hSw); obtain ⟨y0, y1, z0, z1, z2, p0⟩ := CLQ.out _ hSw; go_simp; done) | (intro w hSw; (try dsimp only at hSw); obtain ⟨y0, y1, z0, z1, z2, p0⟩ := CLQ.out _ hSw; go_simp; with_reducible rfl)
                try simp only [Act.put, List.setIfInBounds_toArray, List.set_cons_zero, List.set_cons_succ]
                refine wpAnyH_ready (rs := [13]) (by kernel_rfl) (by simp) ?_
                refine AllReadyH.cons rfl (fun K hK => ?_) AllReadyH.nil
                go_simp
                refine (HSM.out _ ((Below.refl _ wq).drew)).mono ?_
                rintro e w8 ⟨rfl, hb8⟩
                have hB8 : Below wq.heap.size wq w8 := (Below.drew (Below.refl wq.heap.size wq)).trans hb8
                go_wp2_with fail
                refine hK.out _ _ hB8 (fun _ => ?_)
                clear hK K hb8
                try simp only [Act.put, List.setIfInBounds_toArray, List.set_cons_zero, List.set_cons_succ]
                refine takeD (i := 14) (v := ?v14) (some 75) rfl (by kernel_rfl) (by kernel_rfl) (by kernel_rfl) (fun _ _ _ h => h) (Or.inl ⟨by rfl, ?hy14⟩) (by assumption) (by rfl) ?rest14
                case hy14 => first | (intro w hSw; (try dsimp only at hSw); go_simp; done) | (intro w hSw; (try dsimp only at hSw); go_simp; with_reducible rfl)
                try simp only [Act.put, List.setIfInBounds_toArray, List.set_cons_zero, List.set_cons_succ]
                refine takeD (i := 15) (v := ?v15) (some 76) rfl (by kernel_rfl) (by kernel_rfl) (by kernel_rfl) (fun _ _ _ h => h) (Or.inl ⟨by rfl, ?hy15⟩) (by assumption) (by rfl) ?rest15
                case hy15 => first | (intro w hSw; (try dsimp only at hSw); go_simp; done) | (intro w hSw; (try dsimp only at hSw); go_simp; with_reducible rfl)
                try simp only [Act.put, List.setIfInBounds_toArray, List.set_cons_zero, List.set_cons_succ]
                refine takeD (i := 16) (v := ?v16) (some 77) rfl (by kernel_rfl) (by kernel_rfl) (by kernel_rfl) (fun _ _ _ h => h) (Or.inl ⟨by rfl, ?hy16⟩) (by assumption) (by rfl) ?rest16
                case hy16 => first | (intro w hSw; (try dsimp only at hSw); go_simp; done) | (intro w hSw; (try dsimp only at hSw); go_simp; with_reducible rfl)
                try simp only [Act.put, List.setIfInBounds_toArray, List.set_cons_zero, List.set_cons_succ]
                refine takeD (i := 17) (v := ?v17) (some 78) rfl (by kernel_rfl) (by kernel_rfl) (by kernel_rfl) (fun _ _ _ h => h) (Or.inl ⟨by rfl, ?hy17⟩) (by assumption) (by rfl) ?rest17
                case hy17 => first | (intro w hSw; (try dsimp only at hSw); go_simp; done) | (intro w hSw; (try dsimp only at hSw); go_simp; with_reducible rfl)
                try simp only [Act.put, List.setIfInBounds_toArray, List.set_cons_zero, List.set_cons_succ]
                refine takeD (i := 18) (v := ?v18) (some 79) rfl (by kernel_rfl) (by kernel_rfl) (by kernel_rfl) (fun _ _ _ h => h) (Or.inl ⟨by rfl, ?hy18⟩) (by assumption) (by rfl) ?rest18
                case hy18 => first | (intro w hSw; (try dsimp only at hSw); go_simp; done) | (intro w hSw; (try dsimp only at hSw); go_simp; with_reducible rfl)
                try simp only [Act.put, List.setIfInBounds_toArray, List.set_cons_zero, List.set_cons_succ]
                refine takeD (i := 19) (v := ?v19) (some 80) rfl (by kernel_rfl) (by kernel_rfl) (by kernel_rfl) (fun _ _ _ h => h) (Or.inl ⟨by rfl, ?hy19⟩) (by assumption) (by rfl) ?rest19
                case hy19 => first | (intro w hSw; (try dsimp only at hSw); go_simp; done) | (intro w hSw; (try dsimp only at hSw); go_simp; with_reducible rfl)
                try simp only [Act.put, List.setIfInBounds_toArray, List.set_cons_zero, List.set_cons_succ]
                refine takeD (i := 20) (v := ?v20) (some 81) rfl (by kernel_rfl) (by kernel_rfl) (by kernel_rfl) (fun _ _ _ h => h) (Or.inl ⟨by rfl, ?hy20⟩) (by assumption) (by rfl) ?rest20
                case hy20 => first | (intro w hSw; (try dsimp only at hSw); go_simp; done) | (intro w hSw; (try dsimp only at hSw); go_simp; with_reducible rfl)
                try simp only [Act.put, List.setIfInBounds_toArray, List.set_cons_zero, List.set_cons_succ]
                refine takeD (i := 21) (v := ?v21) (some 82) rfl (by kernel_rfl) (by kernel_rfl) (by kernel_rfl) (fun _ _ _ h => h) (Or.inl ⟨by rfl, ?hy21⟩) (by assumption) (by rfl) ?rest21
                case hy21 => first | (intro w hSw; (try dsimp only at hSw); obtain ⟨y0, y1, z0, z1, z2, p0⟩ := CLQ.out _ hSw; go_simp; done) | (intro w hSw; (try dsimp only at hSw); obtain ⟨y0, y1, z0, z1, z2, p0⟩ := CLQ.out _ hSw; go_simp; with_reducible rfl)
                try simp only [Act.put, List.setIfInBounds_toArray, List.set_cons_zero, List.set_cons_succ]
                refine takeD (i := 22) (v := ?v22) (some 83) rfl (by kernel_rfl) (by kernel_rfl) (by kernel_rfl) (fun _ _ _ h => h) (Or.inl ⟨by rfl, ?hy22⟩) (by assumption) (by rfl) ?rest22
                case hy22 => first | (intro w hSw; (try dsimp only at hSw); go_simp; done) | (intro w hSw; (try dsimp only at hSw); go_simp; with_reducible rfl)
                try simp only [Act.put, List.setIfInBounds_toArray, List.set_cons_zero, List.set_cons_succ]
                refine takeD (i := 23) (v := ?v23) (some 84) rfl (by kernel_rfl) (by kernel_rfl) (by kernel_rfl) (fun _ _ _ h => h) (Or.inl ⟨by rfl, ?hy23⟩) (by assumption) (by rfl) ?rest23
                case hy23 => first | (intro w hSw; (try dsimp only at hSw); go_simp; done) | (intro w hSw; (try dsimp only at hSw); go_simp; with_reducible rfl)
                try simp only [Act.put, List.setIfInBounds_toArray, List.set_cons_zero, List.set_cons_succ]
                refine takeD (i := 24) (v := ?v24) (some 85) rfl (by kernel_rfl) (by kernel_rfl) (by kernel_rfl) (fun _ _ _ h => h) (Or.inl ⟨by rfl, ?hy24⟩) (by assumption) (by rfl) ?rest24
                case hy24 => first | (intro w hSw; (try dsimp only at hSw); go_simp; done) | (intro w hSw; (try dsimp only at hSw); go_simp; with_reducible rfl)
                try simp only [Act.put, List.setIfInBounds_toArray, List.set_cons_zero, List.set_cons_succ]
                refine takeD (i := 25) (v := ?v25) (some 86) rfl (by kernel_rfl) (by kernel_rfl) (by kernel_rfl) (fun _ _ _ h => h) (Or.inl ⟨by rfl, ?hy25⟩) (by assumption) (by rfl) ?rest25
                case hy25 => first | (intro w hSw; (try dsimp only at hSw); go_simp; done) | (intro w hSw; (try dsimp only at hSw); go_simp; with_reducible rfl)
                try simp only [Act.put, List.setIfInBounds_toArray, List.set_cons_zero, List.set_cons_succ]
                refine takeD (i := 26) (v := ?v26) (some 87) rfl (by kernel_rfl) (by kernel_rfl) (by kernel_rfl) (fun _ _ _ h => h) (Or.inl ⟨by rfl, ?hy26⟩) (by assumption) (by rfl) ?rest26
                case hy26 => first | (intro w hSw; (try dsimp only at hSw); go_simp; done) | (intro w hSw; (try dsimp only at hSw); go_simp; with_reducible rfl)
                try simp only [Act.put, List.setIfInBounds_toArray, List.set_cons_zero, List.set_cons_succ]
                refine takeD (i := 27) (v := ?v27) (some 88) rfl (by kernel_rfl) (by kernel_rfl) (by kernel_rfl) (fun _ _ _ h => h) (Or.inl ⟨by rfl, ?hy27⟩) (by assumption) (by rfl) ?rest27
                case hy27 => first | (intro w hSw; (try dsimp only at hSw); go_simp; done) | (intro w hSw; (try dsimp only at hSw); go_simp; with_reducible rfl)
                try simp only [Act.put, List.setIfInBounds_toArray, List.set_cons_zero, List.set_cons_succ]
                refine takeD (i := 28) (v := ?v28) (some 89) rfl (by kernel_rfl) (by kernel_rfl) (by kernel_rfl) (fun _ _ _ h => h) (Or.inl ⟨by rfl, ?hy28⟩) (by assumption) (by rfl) ?rest28
                case hy28 => first | (intro w hSw; (try dsimp only at hSw); go_simp; done) | (intro w hSw; (try dsimp only at hSw); go_simp; with_reducible rfl)
                try simp only [Act.put, List.setIfInBounds_toArray, List.set_cons_zero, List.set_cons_succ]
                refine takeD (i := 29) (v := ?v29) (some 90) rfl (by kernel_rfl) (by kernel_rfl) (by kernel_rfl) (fun _ _ _ h => h) (Or.inl ⟨by rfl, ?hy29⟩) (by assumption) (by rfl) ?rest29
                case hy29 => first | (intro w hSw; (try dsimp only at hSw); go_simp; done) | (intro w hSw; (try dsimp only at hSw); go_simp; with_reducible rfl)
                try simp only [Act.put, List.setIfInBounds_toArray, List.set_cons_zero, List.set_cons_succ]
                refine takeD (i := 30) (v := ?v30) (some 91) rfl (by kernel_rfl) (by kernel_rfl) (by kernel_rfl) (fun _ _ _ h => h) (Or.inl ⟨by rfl, ?hy30⟩) (by assumption) (by rfl) ?rest30
                case hy30 => first | (intro w hSw; (try dsimp only at hSw); obtain ⟨y0, y1, z0, z1, z2, p0⟩ := CLQ.out _ hSw; go_simp; done) | (intro w hSw; (try dsimp only at hSw); obtain ⟨y0, y1, z0, z1, z2, p0⟩ := CLQ.out _ hSw; go_simp; with_reducible rfl)
                try simp only [Act.put, List.setIfInBounds_toArray, List.set_cons_zero, List.set_cons_succ]
                refine takeD (i := 31) (v := ?v31) (some 92) rfl (by kernel_rfl) (by kernel_rfl) (by kernel_rfl) (fun _ _ _ h => h) (Or.inl ⟨by rfl, ?hy31⟩) (by assumption) (by rfl) ?rest31
                case hy31 => first | (intro w hSw; (try dsimp only at hSw); go_simp; done) | (intro w hSw; (try dsimp only at hSw); go_simp; with_reducible rfl)
                try simp only [Act.put, List.setIfInBounds_toArray, List.set_cons_zero, List.set_cons_succ]
                refine takeD (i := 32) (v := ?v32) (some 93) rfl (by kernel_rfl) (by kernel_rfl) (by kernel_rfl) (fun _ _ _ h => h) (Or.inl ⟨by rfl, ?hy32⟩) (by assumption) (by rfl) ?rest32
                case hy32 => first | (intro w hSw; (try dsimp only at hSw); go_simp; done) | (intro w hSw; (try dsimp only at hSw); go_simp; with_reducible rfl)
                try simp only [Act.put, List.setIfInBounds_toArray, List.set_cons_zero, List.set_cons_succ]
                refine takeD (i := 33) (v := ?v33) (some 94) rfl (by kernel_rfl) (by kernel_rfl) (by kernel_rfl) (fun _ _ _ h => h) (Or.inl ⟨by rfl, ?hy33⟩) (by assumption) (by rfl) ?rest33
                case hy33 => first | (intro w hSw; (try dsimp only at hSw); go_simp; done) | (intro w hSw; (try dsimp only at hSw); go_simp; with_reducible rfl)
                try simp only [Act.put, List.setIfInBounds_toArray, List.set_cons_zero, List.set_cons_succ]
                refine takeD (i := 34) (v := ?v34) (some 95) rfl (by kernel_rfl) (by kernel_rfl) (by kernel_rfl) (fun _ _ _ h => h) (Or.inl ⟨by rfl, ?hy34⟩) (by assumption) (by rfl) ?rest34
                case hy34 => first | (intro w hSw; (try dsimp only at hSw); go_simp; done) | (intro w hSw; (try dsimp only at hSw); go_simp; with_reducible rfl)
                try simp only [Act.put, List.setIfInBounds_toArray, List.set_cons_zero, List.set_cons_succ]
                refine takeD (i := 35) (v := ?v35) (some 96) rfl (by kernel_rfl) (by kernel_rfl) (by kernel_rfl) (fun _ _ _ h => h) (Or.inl ⟨by rfl, ?hy35⟩) (by assumption) (by rfl) ?rest35
                case hy35 => first | (intro w hSw; (try dsimp only at hSw); obtain ⟨y0, y1, z0, z1, z2, p0⟩ := CLQ.out _ hSw; go_simp; done) | (intro w hSw; (try dsimp only at hSw); obtain ⟨y0, y1, z0, z1, z2, p0⟩ := CLQ.out _ hSw; go_simp; with_reducible rfl)
                try simp only [Act.put, List.setIfInBounds_toArray, List.set_cons_zero, List.set_cons_succ]
                refine takeD (i := 36) (v := ?v36) (some 97) rfl (by kernel_rfl) (by kernel_rfl) (by kernel_rfl) (fun _ _ _ h => h) (Or.inl ⟨by rfl, ?hy36⟩) (by assumption) (by rfl) ?rest36
                case hy36 => first | (intro w hSw; (try dsimp only at hSw); go_simp; done) | (intro w hSw; (try dsimp only at hSw); go_simp; with_reducible rfl)
                try simp only [Act.put, List.setIfInBounds_toArray, List.set_cons_zero, List.set_cons_succ]
                refine takeD (i := 37) (v := ?v37) (some 98) rfl (by kernel_rfl) (by kernel_rfl) (by kernel_rfl) (fun _ _ _ h => h) (Or.inl ⟨by rfl, ?hy37⟩) (by assumption) (by rfl) ?rest37
                case hy37 => first | (intro w hSw; (try dsimp only at hSw); go_simp; done) | (intro w hSw; (try dsimp only at hSw); go_simp; with_reducible rfl)
                try simp only [Act.put, List.setIfInBounds_toArray, List.set_cons_zero, List.set_cons_succ]
                refine takeD (i := 38) (v := ?v38) (some 99) rfl (by kernel_rfl) (by kernel_rfl) (by kernel_rfl) (fun _ _ _ h => h) (Or.inl ⟨by rfl, ?hy38⟩) (by assumption) (by rfl) ?rest38
                case hy38 => first | (intro w hSw; (try dsimp only at hSw); go_simp; done) | (intro w hSw; (try dsimp only at hSw); go_simp; with_reducible rfl)
                try simp only [Act.put, List.setIfInBounds_toArray, List.set_cons_zero, List.set_cons_succ]
                refine takeD (i := 39) (v := ?v39) (some 100) rfl (by kernel_rfl) (by kernel_rfl) (by kernel_rfl) (fun _ _ _ h => h) (Or.inl ⟨by rfl, ?hy39⟩) (by assumption) (by rfl) ?rest39
                case hy39 => first | (intro w hSw; (try dsimp only at hSw); go_simp; done) | (intro w hSw; (try dsimp only at hSw); go_simp; with_reducible rfl)
                try simp only [Act.put, List.setIfInBounds_toArray, List.set_cons_zero, List.set_cons_succ]
                refine wpAnyH_done (by kernel_rfl) ?_ _
                obtain ⟨y0, y1, z0, z1, z2, p0⟩ := CLQ.out _ hB8
                have HB8 : Hid (Below w7.heap.size w7 w8) := bafter HBQ.out hB8 (Nat.le_refl _)
                clear hHeld hB8 y0 y1 z1 z2 p0
                cases bq with
                | true =>
                  have HNX : Hid ((b0 || (ms5.take (j + 1)).any three) = true) := by
                    show _ = _
                    rw [HAN.out, ← Bool.or_assoc, HBQB.out]
                    rfl
                  go_wp2
                  go_roundw
                  case rel => exact ⟨j + 1, by have := HJL.out; omega, by go_num, by have := HKJ.out; first | rfl | (congr 1; omega) | (simp; omega), by rw [HNX.out], HB8.out⟩
                  case measure => have := HJL.out; simp [RowKit.intOf]; omega
                | false =>
                  have HNX : Hid ((b0 || (ms5.take (j + 1)).any three) = ((kd : Int) == 3)) := by
                    show _ = _
                    rw [HAN.out, ← Bool.or_assoc, HBQB.out, HT3.out]
                    rfl
                  obtain ⟨b3, hb3⟩ : ∃ b3, ((kd : Int) == 3) = b3 := ⟨_, rfl⟩
                  rw [hb3] at HNX
                  cases b3 with
                  | true =>
                    go_wp2
                    go_roundw
                    case rel => exact ⟨j + 1, by have := HJL.out; omega, by go_num, by have := HKJ.out; first | rfl | (congr 1; omega) | (simp; omega), by rw [HNX.out], HB8.out⟩
                    case measure => have := HJL.out; simp [RowKit.intOf]; omega
                  | false =>
                    go_wp2
                    go_roundw
                    case rel => exact ⟨j + 1, by have := HJL.out; omega, by go_num, by have := HKJ.out; first | rfl | (congr 1; omega) | (simp; omega), by rw [HNX.out], HB8.out⟩
                    case measure => have := HJL.out; simp [RowKit.intOf]; omega
              · obtain rfl : j = N5 := by omega
                have dj : ¬ (j : Int) < (j : Int) := by omega
                have HEQ : Hid ((atP L (i + 1)).2.length = K + j) := by
                  show _ = _
                  rw [HUS.out, List.length_append, HK0.out, ← HL5.out]
                have hall : (b0 || (ms5.take j).any three) = s5.over := by
                  rw [List.take_of_length_le (by rw [← HL5.out]; exact Nat.le_refl _)]
                  exact HOV.out
                rw [hall]
                have HOC := hide (over_calls wq w5.heap.size w5.heap.size s5 row5 (HN3.out.below HBQ.out))
                have HBX : Hid (Below w5.heap.size w6 wq) := HB7.out.trans (HBQ.out.mono (Nat.le_trans HS6.out HB7.out.size))
                have HRX := hide (HN3.out.below HBQ.out)
                have eo : (s5.over != s5.over) = false := by simp
                clear hjl hall
                generalize hkj : K + j = kj at *
                generalize hso : s5.over = so at *
                have HSO := hide hso
                clear hso hkj
                go_wp2_with fail
                refine HOC.out.mono ?_
                rintro e w9 ⟨rfl, hw9⟩
                rw [hw9]
                clear hw9
                go_wp2
                go_roundw
                case rel =>
                  refine ⟨i + 1, row5, hlt, by go_num, by rw [HNN.out], by rw [HEQ.out], by rw [HUS.out]; first | rw [HSO.out] | (show Value.bool _ = Value.bool s5.over; rw [HSO.out]), ?_, HBX.out⟩
                  rw [HUS.out]
                  exact HRX.out
                case measure => simp [RowKit.intOf]; omega
          · obtain rfl : i = Ln := by omega
            have d1 : ¬ (i : Int) < (i : Int) := by omega
            have hKe : K = LN := by
              rw [← HK0.out, ← HLR.out, HRB.out.1]
              unfold atP
              rw [HTT.out, ← feedE_msgs (.head hd0) 0, List.length_map]
            subst hKe
            have ek : ((K : Int) == (K : Int)) = true := by simp
            clear hlt
            go_wp2
            go_ret
            exact ⟨rfl, HBW.out⟩

end Go.Proofs.YtnflbplhokodjaaDoor
