/- The law FrameWrites walked: for all bodies it returns true. -/
import Derived.Test.YtnflbplhokodjaaDoorFRWrite
namespace Go.Proofs.YtnflbplhokodjaaDoor
set_option linter.unusedVariables false
set_option linter.unusedSimpArgs false
set_option maxRecDepth 100000
open Go Go.RowKit Go.Shelf Go.Lib

/-- What is written of bodies, one behind the other. -/
def wrL (x : Pc) : List Nat := headL (digL x.2.2.length) ++ x.2.2
def catW (L : List Pc) : List Nat := L.flatMap wrL
theorem catW_snoc (L : List Pc) (x : Pc) : catW (L ++ [x]) = catW L ++ wrL x := by simp [catW]
theorem wrL_len {x : Pc} (h : x.2.2.length ≤ 6000) : (wrL x).length ≤ x.2.2.length + 30 := by
  unfold wrL
  rw [List.length_append, head_length]
  have := (digL_ok (n := x.2.2.length) (by omega)).2.2.1
  omega
theorem catW_len : ∀ (L : List Pc), (∀ x ∈ L, x.2.2.length ≤ 6000) → (catW L).length ≤ sumP L + 30 * L.length := by
  intro L
  induction L with
  | nil => intro _; exact Nat.le_refl _
  | cons x l ih =>
    intro h
    have h1 := ih (fun y hy => h y (by simp [hy]))
    have h2 := wrL_len (h x (by simp))
    have e1 : catW (x :: l) = wrL x ++ catW l := rfl
    have e2 : sumP (x :: l) = x.2.2.length + sumP l := by simp [sumP]
    rw [e1, e2, List.length_append, List.length_cons]
    omega
theorem feed_cat : ∀ (L : List Pc), (∀ x ∈ L, x.2.2.length ≤ 6000) → feedL (.head hd0) (catW L) = (.head hd0, L.map (fun x => (1, x.2.2))) := by
  intro L
  induction L with
  | nil => intro _; rfl
  | cons x l ih =>
    intro h
    have h1 := ih (fun y hy => h y (by simp [hy]))
    have hx := h x (by simp)
    obtain ⟨d1, d2, d3, d4⟩ := digL_ok (n := x.2.2.length) (by omega)
    have h2 := feed_written (B := x.2.2) d1 d2 d3 d4 (by omega)
    have e1 : catW (x :: l) = (headL (digL x.2.2.length) ++ x.2.2) ++ catW l := rfl
    rw [e1, feed_app, h2]
    simp only
    rw [h1]
    rfl
theorem sum_take (L : List Pc) (k : Nat) : sumP (L.take k) ≤ sumP L := by
  have h : sumP (L.take k ++ L.drop k) = sumP (L.take k) + sumP (L.drop k) := by simp only [sumP, List.map_append, List.sum_append]
  rw [List.take_append_drop] at h
  omega

set_option maxHeartbeats 16000000 in
theorem frameWrites_walk (w : World) (ao : Option Addr) (cap : Nat) (L : List Pc) (hB : PcsIn w (.slice ao L.length cap) L) (hK : Know2 w) :
    Calls Tryd.prog 5 #[.slice ao L.length cap] w fun e w' => e = .returned (.bool true) ∧ Below w.heap.size w w' := by
  obtain ⟨hK, hP⟩ := hK
  have HK := hide hK
  have HP := hide hP
  have HB := hide hB
  have HFM := hide (fun (W : World) (h : Below w.heap.size w W) => framed_calls W (HK.out.below h))
  clear hK hB hP
  go_enter Tryd.func5, Tryd.ntmps5
  go_wp2_with fail
  refine (HFM.out w (Below.refl _ _)).mono ?_
  rintro e w0 ⟨rfl, hb0⟩
  have HB0 := hide hb0
  clear hb0
  go_wp2_with fail
  refine (light_calls w0 ao cap L (HB.out.below HB0.out)).mono ?_
  rintro e w1 ⟨hres, hw1⟩
  rw [hw1]
  clear hw1
  rcases hres with rfl | ⟨hsmall, rfl⟩
  · go_wp2_with fail
    refine (HFM.out w0 HB0.out).mono ?_
    rintro e w1 ⟨rfl, hb1⟩
    have HB1 := hide (bafter HB0.out hb1 (Nat.le_refl _))
    clear hb1
    go_wp2
    go_ret
    exact ⟨rfl, HB1.out⟩
  · obtain ⟨hs1, hs2, hs3⟩ := hsmall
    have HS2 := hide hs2
    have HS3 := hide hs3
    have hin := HB.out
    obtain ⟨ao', cap', e', hcs⟩ := hin
    cases e'
    have HCS := hide hcs
    have HFC := hide (feed_cat L hs2)
    have HLC := hide (fun k => Nat.le_trans (catW_len (L.take k) (fun x hx => hs2 x (List.mem_of_mem_take hx))) (Nat.add_le_add (sum_take L k) (Nat.mul_le_mul_left 30 (show (L.take k).length ≤ 200 by rw [List.length_take]; omega))))
    clear hcs hs2 HFM
    generalize hLn : L.length = Ln at *
    have HLN := hide hLn
    clear hLn
    go_wp2
    go_loopw [3, 4] (fun av iv wr => ∃ k : Nat, k ≤ Ln ∧ iv = .int .i64 (k : Int) ∧ OwnB w.heap.size wr av (catW (L.take k)) ∧ Below w.heap.size w wr) (fun _ iv _ => Ln - (RowKit.intOf iv).toNat)
    case atStart => exact ⟨0, Nat.zero_le _, rfl, World.ownsRow_nil _ _ _ _, HB0.out⟩
    case round =>
      obtain ⟨k, hk, rfl, hown, hbr⟩ := hrel
      have HOW := hide hown
      have HBR := hide hbr
      have hck : (catW (L.take k)).length ≤ 26000 := by have := HLC.out k; have := HS3.out; omega
      have hsb : ∀ j, ∀ x ∈ catW (L.take j), x < 256 := by
        intro j x hx
        unfold catW at hx
        rw [List.mem_flatMap] at hx
        obtain ⟨y, hy, hxy⟩ := hx
        have hyL := List.mem_of_mem_take hy
        unfold wrL at hxy
        rcases List.mem_append.1 hxy with q | q
        · exact head_small (digL_ok (n := y.2.2.length) (by have := HS2.out y hyL; omega)).1 x q
        · obtain ⟨i, hi⟩ := List.getElem?_of_mem hyL
          exact (HCS.out i y hi).1.1.small x q
      have HSB := hide hsb
      clear hown hbr hsb
      by_cases hlt : k < Ln
      · obtain ⟨x, hx⟩ : ∃ x, L[k]? = some x := ⟨_, List.getElem?_eq_getElem (by rw [HLN.out]; exact hlt)⟩
        obtain ⟨hbx, b, off, rfl, hcell⟩ := HCS.out k x hx
        have hx6 := HS2.out x (List.mem_of_getElem? hx)
        have HTK : Hid (catW (L.take (k + 1)) = catW (L.take k) ++ wrL x) := by show _ = _; rw [takeP hx, catW_snoc]
        have hwl := wrL_len hx6
        have cw : wr.cell? ⟨b, off + k, none⟩ = some (.slice x.1 x.2.2.length x.2.1) := (HBR.out.cell (p := ⟨b, off + k, none⟩) (block_lt hcell)).trans hcell
        have hbw := hbx.below HBR.out
        have HWC := hide (write_calls wr x.1 x.2.1 x.2.2 hbw.1 (by omega) (HP.out.below HP.out.lt HBR.out))
        have HBX := hide hbw
        have HLT := hide hlt
        have e1 : (k : Int) < (Ln : Int) := by omega
        have e0 : (0 : Int) ≤ (k : Int) := by omega
        have CW := hide cw
        have hck2 : (catW (L.take k)).length ≤ 26000 := hck
        have HWR : Hid (headL (digL x.2.2.length) ++ x.2.2 = wrL x) := rfl
        rw [HWR.out] at HWC
        clear hx hbx hcell hbw hlt hck
        obtain ⟨xa, xc, xT⟩ := x
        dsimp only at cw HWC HBX CW
        go_wp2_with fail
        refine HWC.out.mono ?_
        rintro e w2 ⟨a2, c2, rfl, hB2, hc2, hblk2, hb2⟩
        have HB2 := hide hB2
        have HBB := hide hb2
        have HOW2 := hide (HOW.out.below hb2)
        have HRW := hide (fun (X : World) (hX : Below w2.heap.size w2 X) => rwrite_calls X xa xc xT ((HBX.out.1.below hb2).below hX) (by have h9 : xT.length ≤ 6000 := hx6; omega))
        rw [HWR.out] at HRW
        have CV2 : Hid (∀ X, Below w2.heap.size w2 X → (convert 25 9 (.slice (some a2) (wrL (xa, xc, xT)).length c2)).run Tryd.prog X = .ok (.string (strOf (wrL (xa, xc, xT)))) X) := fun X hX => conv_byts (HB2.out.below hX)
        have CL2 : Hid (∀ X, Below w2.heap.size w2 X → X.cell? ⟨b, off + k, none⟩ = some (.slice xa xT.length xc)) := fun X hX => (hX.cell (p := ⟨b, off + k, none⟩) (Nat.lt_of_lt_of_le (block_lt CW.out) hb2.size)).trans ((hb2.cell (p := ⟨b, off + k, none⟩) (block_lt CW.out)).trans CW.out)
        have hx6T : xT.length ≤ 6000 := hx6
        have hwl2 : (wrL (xa, xc, xT)).length ≤ xT.length + 30 := hwl
        clear hB2 hc2 hblk2 hb2 HWC cw hx6 hwl
        generalize hXX : wrL (xa, xc, xT) = XX at *
        have HXX := hide hXX
        clear hXX
        generalize hXl : XX.length = Xl at *
        have HXL := hide hXl
        clear hXl
        go_upto_region 8 with fail
        refine wp_region_held_drew (S := fun X : World => Below w2.heap.size w2 X) (by kernel_rfl) ((Below.refl _ w2).drew) (fun hHeld => ?_)
        refine takeD (i := 0) (v := ?v1) (some 28) rfl (by kernel_rfl) (by kernel_rfl) (by kernel_rfl) (fun _ _ _ h => h) (Or.inl ⟨by rfl, ?hy1⟩) (by assumption) (by rfl) ?rest1
        case hy1 => first | (intro w hSw; (try dsimp only at hSw); go_simp; done) | (intro w hSw; (try dsimp only at hSw); go_simp; with_reducible rfl)
        try simp only [Act.put, List.setIfInBounds_toArray, List.set_cons_zero, List.set_cons_succ]
        refine takeD (i := 1) (v := ?v2) (some 29) rfl (by kernel_rfl) (by kernel_rfl) (by kernel_rfl) (fun _ _ _ h => h) (Or.inl ⟨by rfl, ?hy2⟩) (by assumption) (by rfl) ?rest2
        case hy2 => first | (intro w hSw; (try dsimp only at hSw); have hcv := CV2.out _ hSw; go_simp; done) | (intro w hSw; (try dsimp only at hSw); have hcv := CV2.out _ hSw; go_simp; with_reducible rfl)
        try simp only [Act.put, List.setIfInBounds_toArray, List.set_cons_zero, List.set_cons_succ]
        refine takeD (i := 2) (v := ?v3) (some 30) rfl (by kernel_rfl) (by kernel_rfl) (by kernel_rfl) (fun _ _ _ h => h) (Or.inl ⟨by rfl, ?hy3⟩) (by assumption) (by rfl) ?rest3
        case hy3 => first | (intro w hSw; (try dsimp only at hSw); go_simp; done) | (intro w hSw; (try dsimp only at hSw); go_simp; with_reducible rfl)
        try simp only [Act.put, List.setIfInBounds_toArray, List.set_cons_zero, List.set_cons_succ]
        refine takeD (i := 3) (v := ?v4) (some 31) rfl (by kernel_rfl) (by kernel_rfl) (by kernel_rfl) (fun _ _ _ h => h) (Or.inl ⟨by rfl, ?hy4⟩) (by assumption) (by rfl) ?rest4
        case hy4 => first | (intro w hSw; (try dsimp only at hSw); go_simp; done) | (intro w hSw; (try dsimp only at hSw); go_simp; with_reducible rfl)
        try simp only [Act.put, List.setIfInBounds_toArray, List.set_cons_zero, List.set_cons_succ]
        refine takeD (i := 4) (v := ?v5) (some 32) rfl (by kernel_rfl) (by kernel_rfl) (by kernel_rfl) (fun _ _ _ h => h) (Or.inl ⟨by rfl, ?hy5⟩) (by assumption) (by rfl) ?rest5
        case hy5 => first | (intro w hSw; (try dsimp only at hSw); go_simp; done) | (intro w hSw; (try dsimp only at hSw); go_simp; with_reducible rfl)
        try simp only [Act.put, List.setIfInBounds_toArray, List.set_cons_zero, List.set_cons_succ]
        refine takeD (i := 5) (v := ?v6) (some 33) rfl (by kernel_rfl) (by kernel_rfl) (by kernel_rfl) (fun _ _ _ h => h) (Or.inl ⟨by rfl, ?hy6⟩) (by assumption) (by rfl) ?rest6
        case hy6 => first | (intro w hSw; (try dsimp only at hSw); have hcl := CL2.out _ hSw; go_simp; done) | (intro w hSw; (try dsimp only at hSw); have hcl := CL2.out _ hSw; go_simp; with_reducible rfl)
        try simp only [Act.put, List.setIfInBounds_toArray, List.set_cons_zero, List.set_cons_succ]
        refine wpAnyH_ready (rs := [6]) (by kernel_rfl) (by simp) ?_
        refine AllReadyH.cons rfl (fun K hK => ?_) AllReadyH.nil
        go_simp
        refine (HRW.out _ ((Below.refl _ w2).drew)).mono ?_
        rintro e w3 ⟨a3, c3, rfl, hB3, hb3⟩
        have hB3' : Below w2.heap.size w2 w3 := (Below.drew (Below.refl w2.heap.size w2)).trans hb3
        go_wp2_with fail
        refine hK.out _ _ hB3' (fun _ => ?_)
        clear hK K
        try simp only [Act.put, List.setIfInBounds_toArray, List.set_cons_zero, List.set_cons_succ]
        have hcv3 := conv_byts hB3
        refine wpAnyH_ready (rs := [7]) (by kernel_rfl) (by simp) ?_
        refine AllReadyH.cons rfl (fun K hK => ?_) AllReadyH.nil
        go_simp
        refine hK.out _ _ hB3' (fun _ => ?_)
        clear hK K hcv3
        try simp only [Act.put, List.setIfInBounds_toArray, List.set_cons_zero, List.set_cons_succ]
        generalize strOf XX = sX at *
        refine takeD (i := 8) (v := ?v9) (some 36) rfl (by kernel_rfl) (by kernel_rfl) (by kernel_rfl) (fun _ _ _ h => h) (Or.inl ⟨by rfl, ?hy9⟩) (by assumption) (by rfl) ?rest9
        case hy9 => first | (intro w hSw; go_simp; done) | (intro w hSw; go_simp; with_reducible rfl)
        try simp only [Act.put, List.setIfInBounds_toArray, List.set_cons_zero, List.set_cons_succ]
        refine wpAnyH_done (by kernel_rfl) ?_ _
        have HO3 := hide (HOW2.out.below hB3')
        have HY3 := hide (HB2.out.below hB3')
        have HB3 := hide (bafter (bafter HBR.out HBB.out (Nat.le_refl _)) hB3' (Nat.le_refl _))
        have hsz3 : w.heap.size ≤ w3.heap.size := HB3.out.size
        have HSZ3 := hide hsz3
        have hXb : Xl ≤ 7000 := by omega
        clear hB3 hb3 hB3' hHeld hsz3
        go_wp2_with (at_builtin; go_must (refine wpList_appA _ rfl (.tmp 37) (.tmp 38) rfl w.heap.size _ (catW (L.take k)) rfl HO3.out _ XX rfl HY3.out (by have := HXL.out; omega) HSZ3.out ?_; intro v' w4 hown' hgrow hrow); have HO4 := hide hown'; have HB4 : Hid (Below w.heap.size w w4) := HB3.out.grown hgrow HSZ3.out (fun j hj => (World.ownsRow.lt HO3.out j hj).1); clear hown' hgrow hrow)
        go_roundw
        case rel => exact ⟨k + 1, HLT.out, by go_num, by rw [HTK.out]; exact HO4.out, HB4.out⟩
        case measure => have := HLT.out; simp [RowKit.intOf]; omega
      · obtain rfl : k = Ln := by omega
        have e1 : ¬ (k : Int) < (k : Int) := by omega
        have htk : L.take k = L := by rw [← HLN.out]; exact List.take_length
        rw [htk] at HOW hck
        have hsmL := HSB.out k
        rw [htk] at hsmL
        obtain ⟨aa, ac, hav, hby, hac, _, _, hblk⟩ := own_byts hsmL HOW.out
        subst hav
        have hlt2 := World.ownsRow.lt HOW.out
        have HBY := hide hby
        have HAC := hide hac
        have HBLK : Hid (∀ a, aa = some a → a.block < wr.heap.size) := fun a e => (hlt2 _ (hblk a e)).2
        clear hlt hby hac hblk hlt2 htk hsmL HOW
        generalize hTT : catW L = TT at *
        clear hTT
        have hTl := hck
        clear hck
        go_wp2_with fail
        refine (new_calls wr w.heap.size).mono ?_
        rintro e w5 ⟨rfl, hr5, hb5, hs5⟩
        have HB5 := hide (bafter HBR.out hb5 (Nat.le_refl _))
        have HS0 : Hid (w.heap.size ≤ wr.heap.size) := HBR.out.size
        have HFD := hide (feed_calls w5 w.heap.size wr.heap.size (.head hd0) none aa ac TT hr5 (by omega) (HBY.out.below hb5) HAC.out (fun _ a e => ⟨by have := HBLK.out a e; omega, by simp⟩) HB5.out.size HS0.out (HK.out.below HB5.out) HK.out.glob)
        clear hr5 hb5 hs5
        generalize hTl2 : TT.length = Tl at *
        clear hTl2
        go_wp2_with fail
        refine HFD.out.mono ?_
        rintro e w6 ⟨gv, rfl, L6, row6, m1, m2, m3, m4, m5, m6⟩
        rw [HFC.out] at m2 m3
        have HB6 : Hid (Below w.heap.size w w6) := HB5.out.trans (m5.below HS0.out (fun k e => by cases e) HB5.out.size)
        obtain ⟨ga, gc, hgv⟩ := m1.slice
        subst hgv
        have hl6 : L6.length = k := by rw [m2.len, List.length_map, HLN.out]
        rw [hl6]
        have HM1 := hide m1
        have HM2 := hide m2
        have HOV := hide (over_calls w6 w.heap.size wr.heap.size _ row6 m3)
        have eov : (St.head hd0).over = false := rfl
        rw [eov] at HOV
        have eL : ((k : Int) != (k : Int)) = false := by simp
        clear m1 m2 m3 m4 m5 m6 HFD
        go_wp2_with fail
        refine HOV.out.mono ?_
        rintro e w7 ⟨rfl, hw7⟩
        rw [hw7]
        clear hw7 HOV
        have HL6 := hide hl6
        clear hl6
        go_wp2
        generalize wr.heap.size = R at *
        go_loopw [8] (fun iv wq => ∃ j : Nat, j ≤ k ∧ iv = .int .i64 (j : Int) ∧ Below w6.heap.size w6 wq) (fun iv _ => k - (RowKit.intOf iv).toNat)
        case atStart => exact ⟨0, Nat.zero_le _, rfl, Below.refl _ _⟩
        case round =>
          obtain ⟨j, hj, rfl, hbq⟩ := hrel
          have HBQ := hide hbq
          clear hbq
          by_cases hjl : j < k
          · obtain ⟨x, hx⟩ : ∃ x, L[j]? = some x := ⟨_, List.getElem?_eq_getElem (by rw [HLN.out]; exact hjl)⟩
            obtain ⟨hbx, b, off, hao, hcell⟩ := HCS.out j x hx
            have hm : (L.map (fun x => (1, x.2.2)))[j]? = some (1, x.2.2) := by simp [hx]
            have HBW := hide (HB6.out.trans (HBQ.out.mono HB6.out.size))
            obtain ⟨g1, c1, a1, l1, cc1, hv1, x0, x1, xb⟩ := msg_at (HM1.out.below HBQ.out) (HM2.out.below HBQ.out) hm
            obtain ⟨rfl, hN1, rfl⟩ := Value.slice.inj hv1
            subst hao
            have y0 : wr.cell? ⟨b, off + j, none⟩ = some (.slice x.1 x.2.2.length x.2.1) := (HBW.out.cell (p := ⟨b, off + j, none⟩) (block_lt hcell)).trans hcell
            have z0 : wr.cell? ⟨g1, j * 2, none⟩ = some (.int .i64 1) := x0
            have cvx : ∀ n, (convert 25 9 (.slice a1 l1 cc1)).run Tryd.prog (wr.drewN n) = .ok (.string (strOf x.2.2)) (wr.drewN n) := fun n => conv_byts (xb.below (bdrewN (Below.refl _ _) n))
            have cvy : ∀ n, (convert 25 9 (.slice x.1 x.2.2.length x.2.1)).run Tryd.prog (wr.drewN n) = .ok (.string (strOf x.2.2)) (wr.drewN n) := fun n => conv_byts ((hbx.1.below HBW.out).below (bdrewN (Below.refl _ _) n))
            obtain ⟨xa, xc, xT⟩ := x
            dsimp only at y0 cvx cvy
            generalize strOf xT = sB at *
            generalize xT.length = xl at *
            have dj0 : (0 : Int) ≤ (j : Int) := by omega
            have dj1 : (j : Int) < (k : Int) := by omega
            have HJL := hide hjl
            clear hN1 hv1 hx hbx hcell hm x0 xb hjl
            go_wp2
            go_quiet (fail)
            go_wp2
            go_roundw
            case rel => exact ⟨j + 1, HJL.out, by go_num, bdrewN HBQ.out _⟩
            case measure => have := HJL.out; simp [RowKit.intOf]; omega
          · obtain rfl : j = k := by omega
            have dj : ¬ (j : Int) < (j : Int) := by omega
            have HBW := hide (HB6.out.trans (HBQ.out.mono HB6.out.size))
            clear hjl
            go_wp2
            go_ret
            exact ⟨rfl, HBW.out⟩

end Go.Proofs.YtnflbplhokodjaaDoor
