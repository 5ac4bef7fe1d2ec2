/- The law FrameEnds walked: for all bytes it returns true. -/
import Derived.Test.YtnflbplhokodjaaDoorFWrite
namespace Go.Proofs.YtnflbplhokodjaaDoor
set_option linter.unusedVariables false
set_option linter.unusedSimpArgs false
set_option maxRecDepth 100000
open Go Go.RowKit Go.Shelf Go.Lib Go.ChangeShapes Go.WideShapes

theorem cellsU64 : Tryd.prog.cellsOf 39 = 1 := by kernel_rfl
theorem cellsPow : Tryd.prog.cellsOf 76 = 20 := by kernel_rfl
theorem globPow : Tryd.prog.globalNamed "internal/strconv.uint64pow10" = some 0 := by kernel_rfl
theorem typePow : (Tryd.prog.globals[0]?).map (·.type) = some 76 := by kernel_rfl
theorem laidPow : (Rows.laid_internal_strconv_uint64pow10 : DataW Unit) = tabData .u64 pow10Tab := by kernel_rfl
theorem pow_in {W : World} (hL : laidMetH Tryd.prog laidB W) : Pow W := by
  rw [MakeChecks.laidMetH_plain _ _ _ (by kernel_rfl)] at hL
  have h3 : VarReads Tryd.prog W "internal/strconv.uint64pow10" (tabData .u64 pow10Tab) := by rw [← laidPow]; exact laidMet.reads (l := laidB) hL (by simp [laidB])
  obtain ⟨g, t, cs, fuel, p, hg, hty, hvar, hd⟩ := h3
  obtain rfl := Option.some.inj (globPow.symm.trans hg)
  obtain rfl := Option.some.inj (typePow.symm.trans hty)
  unfold Pow TabIs
  rw [hvar, ← cells_of_tab Tryd.underlying76 Tryd.underlying39 cellsU64 cellsPow hd]
/-- What the laws with Write ask. -/
def Know2 (w : World) : Prop := Know w ∧ Pow w
theorem know2_in {W : World} (hL : laidMetH Tryd.prog laidB W) (h : W.ShapedOpen Tryd.prog) : Know2 W := ⟨know_inB hL h, pow_in hL⟩

set_option maxHeartbeats 1000000 in
theorem feed_nil (w : World) (ao : Option Addr) (n c : Nat) : Calls Tryd.prog 12 #[.pointer none, .slice ao n c] w fun e w' => e = .returned (.slice none 0 0) ∧ w' = w := by
  go_enter Tryd.func12, Tryd.ntmps12
  go_wp2
  go_ret
  exact ⟨rfl, rfl⟩
set_option maxHeartbeats 1000000 in
theorem over_nil (w : World) : Calls Tryd.prog 14 #[.pointer none] w fun e w' => e = .returned (.bool false) ∧ w' = w := by
  go_enter Tryd.func14, Tryd.ntmps14
  go_wp2
  go_ret
  exact ⟨rfl, rfl⟩
/-- Feed of bytes that came in, to a reader that is new. -/
theorem feed_old {w w' : World} (hb : Below w.heap.size w w') (hK : Know w) {R : Nat} {s : St} {row : Option Nat} (hr : Rdr w.heap.size w' R s row) (hR : w.heap.size ≤ R) {ao : Option Addr} {cap : Nat} {T : List Nat} (hB : Byts w (.slice ao T.length cap) T) (hcap : T.length ≤ cap) (hn : T.length ≤ 100000000) :
    Calls Tryd.prog 12 #[.pointer (some ⟨R, 0, none⟩), .slice ao T.length cap] w' fun e w'' => ∃ gv, e = .returned gv ∧ FeedR w.heap.size w' R row s T gv w'' := by
  refine feed_calls w' w.heap.size R s row ao cap T hr hn (hB.below hb) hcap (fun h0 a e => ?_) hb.size hR (hK.below hb) hK.glob
  obtain ⟨ao', c', e', h1, h2⟩ := hB
  cases e'
  obtain ⟨b, off, e2, hc⟩ := h2 0 h0
  rw [e] at e2
  cases e2
  have h3 := block_lt hc
  exact ⟨by show b ≠ R; omega, fun q => by have h4 := (hr.row _ q).1; have h5 : w.heap.size ≤ b := h4; omega⟩

set_option maxHeartbeats 16000000 in
theorem frameEnds_walk (w : World) (ao : Option Addr) (cap : Nat) (T : List Nat) (hB : Byt w ao cap T) (bo : Option Addr) (bcap : Nat) (M : List Nat) (hM : Byt w bo bcap M) (hK : Know2 w) :
    Calls Tryd.prog 7 #[.slice ao T.length cap, .slice bo M.length bcap] w fun e w' => e = .returned (.bool true) ∧ Below w.heap.size w w' := by
  obtain ⟨hK, hP⟩ := hK
  have HK := hide hK
  have HP := hide hP
  obtain ⟨hB, hcap, hn0⟩ := hB
  obtain ⟨hM, hmcap, hmn0⟩ := hM
  have HB := hide hB
  have HM := hide hM
  have HFM := hide (fun (W : World) (h : Below w.heap.size w W) => framed_calls W (HK.out.below h))
  clear hK hB hM hP
  by_cases hbig : 5000 < T.length ∨ 5000 < M.length
  · have d1 : (5000 : Int) < (T.length : Int) ∨ ((¬ (5000 : Int) < (T.length : Int)) ∧ (5000 : Int) < (M.length : Int)) := by omega
    clear hbig
    rcases d1 with d1 | ⟨d1, d2⟩
    all_goals
      go_enter Tryd.func7, Tryd.ntmps7
      go_wp2_with fail
      refine (HFM.out w (Below.refl _ _)).mono ?_
      rintro e w0 ⟨rfl, hb0⟩
      have HB0 := hide hb0
      clear hb0
      go_wp2_with fail
      refine (HFM.out w0 HB0.out).mono ?_
      rintro e w1 ⟨rfl, hb1⟩
      have HB1 := hide (bafter HB0.out hb1 (Nat.le_refl _))
      clear hb1
      go_wp2
      go_ret
      exact ⟨rfl, HB1.out⟩
  · have d1 : ¬ (5000 : Int) < (T.length : Int) := by omega
    have d2 : ¬ (5000 : Int) < (M.length : Int) := by omega
    have hTb : T.length ≤ 5000 := by omega
    have hMb : M.length ≤ 5000 := by omega
    clear hbig
    go_enter Tryd.func7, Tryd.ntmps7
    go_wp2_with fail
    refine (HFM.out w (Below.refl _ _)).mono ?_
    rintro e w0 ⟨rfl, hb0⟩
    have HB0 := hide hb0
    clear hb0 HFM
    go_wp2_with fail
    refine (feed_nil w0 ao T.length cap).mono ?_
    rintro e w1 ⟨rfl, hw1⟩
    rw [hw1]
    clear hw1
    go_wp2_with fail
    refine (over_nil w0).mono ?_
    rintro e w1 ⟨rfl, hw1⟩
    rw [hw1]
    clear hw1
    go_wp2_with fail
    refine (new_calls w0 w.heap.size).mono ?_
    rintro e w2 ⟨rfl, hr2, hb2, hs2⟩
    have HB2 := hide (bafter HB0.out hb2 (Nat.le_refl _))
    have HS0 : Hid (w.heap.size ≤ w0.heap.size) := HB0.out.size
    have HFC := hide (feed_old HB2.out HK.out hr2 HS0.out HB.out hcap (by omega))
    clear hr2 hb2 hs2
    go_wp2_with fail
    refine HFC.out.mono ?_
    rintro e w3 ⟨gv, rfl, L, row3, m1, m2, m3, m4, m5, m6⟩
    have HB3 : Hid (Below w.heap.size w w3) := HB2.out.trans (m5.below HS0.out (fun k e => by cases e) HB2.out.size)
    obtain ⟨ga, gc, hgv⟩ := m1.slice
    subst hgv
    have HLN := hide m2.len
    have HLT := hide (feed_count (.head hd0) T)
    have HM1 := hide m1
    have HM2 := hide m2
    have HM3 := hide m3
    have HBR := hide (feed_broken (.head hd0) T rfl)
    generalize hLL : L.length = LN at *
    clear m1 m2 m3 m4 m5 m6 hLL HFC
    generalize hms : (feedL (.head hd0) T).2 = ms at *
    generalize hss : (feedL (.head hd0) T).1 = sE at *
    have hLN : LN ≤ 5000 := by have := HLN.out; have := HLT.out; omega
    clear hms hss
    have HAT : Hid (∀ i m, ms[i]? = some m → m.1 = 3 → i + 1 = LN) := fun i m hi hm => by
      rcases HBR.out with ⟨_, l, hl, hno⟩ | ⟨_, hno⟩
      · rw [hl] at hi
        by_cases q : i < l.length
        · rw [List.getElem?_append_left q] at hi
          exact absurd hm (hno m (List.mem_of_getElem? hi))
        · have hi2 := (List.getElem?_eq_some_iff.1 hi).1
          rw [HLN.out, hl]
          simp at hi2 ⊢
          omega
      · exact absurd hm (hno m (List.mem_of_getElem? hi))
    go_wp2
    go_loopw [8] (fun iv wr => ∃ i : Nat, i ≤ LN ∧ iv = .int .i64 (i : Int) ∧ wr = w3) (fun iv _ => LN - (RowKit.intOf iv).toNat)
    case atStart => exact ⟨0, Nat.zero_le _, rfl, rfl⟩
    case round =>
      obtain ⟨i, hi, rfl, hwr⟩ := hrel
      rw [hwr]
      clear hwr
      by_cases hlt : i < LN
      · obtain ⟨m, hm⟩ : ∃ m, ms[i]? = some m := ⟨_, List.getElem?_eq_getElem (by rw [← HLN.out]; exact hlt)⟩
        obtain ⟨g1, c1, a1, l1, cc1, hv1, x0, x1, xb⟩ := msg_at HM1.out HM2.out hm
        obtain ⟨rfl, hN1, rfl⟩ := Value.slice.inj hv1
        clear hN1 hv1
        have HA3 := hide (HAT.out i m hm)
        have e1 : (i : Int) < (LN : Int) := by omega
        have e0 : (0 : Int) ≤ (i : Int) := by omega
        generalize m.1 = kd at *
        have HLT2 := hide hlt
        clear hm xb x1 hlt
        by_cases hk : kd = 3
        · subst hk
          have hI := HA3.out rfl
          have e2 : ((i : Int) != (LN : Int) - 1) = false := by simp; omega
          clear hI
          go_wp2
          go_roundw
          case rel => exact ⟨i + 1, HLT2.out, by go_num, by first | rfl | trivial⟩
          case measure => have := HLT2.out; simp [RowKit.intOf]; omega
        · have e2 : ((kd : Int) == 3) = false := beq_eq_false_iff_ne.2 (by omega)
          clear hk
          go_wp2
          go_roundw
          case rel => exact ⟨i + 1, HLT2.out, by go_num, by first | rfl | trivial⟩
          case measure => have := HLT2.out; simp [RowKit.intOf]; omega
      · obtain rfl : i = LN := by omega
        have e1 : ¬ (i : Int) < (i : Int) := by omega
        have HOR := hide (over_calls w3 w.heap.size w0.heap.size sE row3 HM3.out)
        clear hlt
        go_wp2_with fail
        refine HOR.out.mono ?_
        rintro e w6 ⟨rfl, hw6⟩
        rw [hw6]
        clear hw6 HOR
        rcases HBR.out with ⟨hsE, l, hl, hno⟩ | ⟨hsE, hno⟩
        · subst hsE
          have eov : St.nothing.over = true := rfl
          rw [eov]
          have hLl : i = l.length + 1 := by rw [HLN.out, hl]; simp
          have hm : ms[i - 1]? = some (3, []) := by rw [hl, hLl]; simp
          obtain ⟨g1, c1, a1, l1, cc1, hv1, x0, x1, xb⟩ := msg_at HM1.out HM2.out hm
          obtain ⟨rfl, hN1, rfl⟩ := Value.slice.inj hv1
          clear hN1 hv1
          obtain ⟨q, hq⟩ : ∃ q, i = q + 1 := ⟨i - 1, by omega⟩
          subst hq
          have x0' : w3.cell? ⟨g1, q * 2, none⟩ = some (.int .i64 3) := x0
          have e2 : (0 : Int) < ((q + 1 : Nat) : Int) := by omega
          have e3 : ((q + 1 : Nat) : Int) - 1 = (q : Int) := by omega
          have e4 : (q : Int) < ((q + 1 : Nat) : Int) := by omega
          have e5 : (0 : Int) ≤ (q : Int) := by omega
          obtain rfl : row3 = none := HM3.out.2
          have HFC := hide (feed_old HB3.out HK.out HM3.out HS0.out HM.out hmcap (by omega))
          clear hm x0 x1 xb hl hno hLl
          go_wp2_with fail
          refine HFC.out.mono ?_
          rintro e w4 ⟨gv4, rfl, hf4⟩
          obtain ⟨ga4, gc4, hg4⟩ := hf4.none (by rw [feed_nothing])
          subst hg4
          obtain ⟨row4, hr4, hl4⟩ := hf4.next HS0.out (fun k e => by cases e) HB3.out.size
          rw [feed_nothing] at hr4
          obtain rfl : row4 = none := hr4.2
          have HR4 := hide hr4
          have HB4 : Hid (Below w.heap.size w w4) := HB3.out.trans hl4
          obtain ⟨cs4, hbx4⟩ := hr4.box
          have HRL := hide hbx4.lt
          have HWC := hide (write_calls w4 bo bcap M (HM.out.below HB4.out) (by omega) (HP.out.below HP.out.lt HB4.out))
          have HWL := hide (head_length (digL M.length))
          have HWD := hide (digL_ok (n := M.length) (by omega)).2.2.1
          clear hf4 hr4 hl4 HFC hbx4
          go_wp2_with fail
          refine HWC.out.mono ?_
          rintro e w5 ⟨a5, c5, rfl, hB5, hc5, hblk5, hb5⟩
          have hXl : (headL (digL M.length) ++ M).length ≤ 6000 := by rw [List.length_append]; have := HWL.out; have := HWD.out; omega
          generalize headL (digL M.length) ++ M = X at *
          have HB5 := hide (bafter HB4.out hb5 (Nat.le_refl _))
          have HFC5 := hide (feed_calls w5 w.heap.size w0.heap.size .nothing none (some a5) c5 X (HR4.out.below hb5) (by omega) hB5 hc5 (fun _ a e => ⟨by
            cases e
            have := HRL.out
            intro q
            rw [q] at hblk5
            omega, by simp⟩) HB5.out.size HS0.out (HK.out.below HB5.out) HK.out.glob)
          clear HWC hB5 hc5 hblk5 hb5
          go_wp2_with fail
          refine HFC5.out.mono ?_
          rintro e w6 ⟨gv6, rfl, hf6⟩
          obtain ⟨ga6, gc6, hg6⟩ := hf6.none (by rw [feed_nothing])
          subst hg6
          obtain ⟨row6, hr6, hl6⟩ := hf6.next HS0.out (fun k e => by cases e) HB5.out.size
          rw [feed_nothing] at hr6
          have HO6 := hide (over_calls w6 w.heap.size w0.heap.size .nothing row6 hr6)
          have HB6 : Hid (Below w.heap.size w w6) := HB5.out.trans hl6
          rw [eov] at HO6
          clear hf6 hr6 hl6 HFC5
          go_wp2_with fail
          refine HO6.out.mono ?_
          rintro e w7 ⟨rfl, hw7⟩
          rw [hw7]
          clear hw7
          go_wp2
          go_ret
          exact ⟨rfl, HB6.out⟩
        · rw [hsE]
          by_cases h0 : i = 0
          · subst h0
            clear hno hsE
            go_wp2
            go_ret
            exact ⟨rfl, HB3.out⟩
          · obtain ⟨q, hq⟩ : ∃ q, i = q + 1 := ⟨i - 1, by omega⟩
            subst hq
            obtain ⟨m, hm⟩ : ∃ m, ms[q]? = some m := ⟨_, List.getElem?_eq_getElem (by rw [← HLN.out]; omega)⟩
            have hk : m.1 ≠ 3 := hno m (List.mem_of_getElem? hm)
            obtain ⟨g1, c1, a1, l1, cc1, hv1, x0, x1, xb⟩ := msg_at HM1.out HM2.out hm
            obtain ⟨rfl, hN1, rfl⟩ := Value.slice.inj hv1
            clear hN1 hv1
            generalize m.1 = kd at *
            have e2 : (((q + 1 : Nat) : Int) == 0) = false := beq_eq_false_iff_ne.2 (by omega)
            have e3 : ((q + 1 : Nat) : Int) - 1 = (q : Int) := by omega
            have e4 : (q : Int) < ((q + 1 : Nat) : Int) := by omega
            have e5 : (0 : Int) ≤ (q : Int) := by omega
            have e6 : ((kd : Int) != 3) = true := by simp; omega
            clear hm hk x1 xb hno h0 hsE
            go_wp2
            go_ret
            exact ⟨rfl, HB3.out⟩

end Go.Proofs.YtnflbplhokodjaaDoor
