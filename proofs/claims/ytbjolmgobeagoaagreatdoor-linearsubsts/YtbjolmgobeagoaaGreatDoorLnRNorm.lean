/- The reference's Norm. -/
import Derived.Test.YtbjolmgobeagoaaGreatDoorLnRVars
namespace Go.Proofs.YtbjolmgobeagoaaGreatDoor
set_option linter.unusedVariables false
set_option linter.unusedSimpArgs false
set_option maxRecDepth 100000
open Go Go.RowKit Go.Shelf Go.Lib

/-- The one form, by the variables. -/
def nfOf (l : Ps) (L : List Int) : Ps := (L.map fun x => (x, cf x l)).filter fun p => decide (p.2 ≠ 0)
theorem nfOf_append (l : Ps) (A B : List Int) : nfOf l (A ++ B) = nfOf l A ++ nfOf l B := by simp [nfOf]
theorem nfOf_one (l : Ps) (x : Int) : nfOf l [x] = if cf x l = 0 then [] else [(x, cf x l)] := by
  unfold nfOf
  by_cases h : cf x l = 0 <;> simp [h]
theorem nfOf_nf {l : Ps} {L : List Int} (h : L.Pairwise (· < ·)) : NF (nfOf l L) :=
  ⟨by
    unfold nfOf
    refine List.Pairwise.filter _ ?_
    rw [List.pairwise_map]
    exact h, fun p hp => by simpa using (List.mem_filter.1 hp).2⟩
theorem nfOf_cf {M : List Pt} {L : List Int} (h : VarsOf M M.length L) (u : Int) : cf u (nfOf (ps M) L) = cf u (ps M) := by
  unfold nfOf
  rw [cf_nonzero]
  by_cases hu : u ∈ L
  · have H : ∀ (A : List Int), A.Pairwise (· < ·) → u ∈ A → cf u (A.map fun x => (x, cf x (ps M))) = cf u (ps M) := by
      intro A
      induction A with
      | nil => intro _ h; cases h
      | cons a A ih =>
        intro hp hm
        have hq := List.pairwise_cons.1 hp
        rw [List.map_cons, cf_cons]
        by_cases e : a = u
        · subst e
          have hz : cf a (A.map fun x => (x, cf x (ps M))) = 0 := cf_none (fun q hq2 => by
            obtain ⟨x, hx, rfl⟩ := List.mem_map.1 hq2
            have := hq.1 x hx
            show x ≠ a
            omega)
          rw [if_pos rfl, hz]
          show cf a (ps M) + 0 = _
          omega
        · rw [if_neg e, ih hq.2 ((List.mem_cons.1 hm).resolve_left (fun h => e h.symm))]
          omega
    exact H L h.rise hu
  · rw [cf_none (fun q hq => by
      obtain ⟨x, hx, rfl⟩ := List.mem_map.1 hq
      intro e
      exact hu (e ▸ hx)), cf_none (fun q hq => by
      obtain ⟨m, hm, rfl⟩ := List.mem_map.1 hq
      intro e
      exact hu ((h.mem u).2 ⟨m, by rw [List.take_length]; exact hm, e⟩))]
theorem varsOf_rng {M : List Pt} {W : World} {L : List Int} (h : VarsOf M M.length L) (hg : GoodN W M) {x : Int} (hx : x ∈ L) : Rng x := by
  obtain ⟨m, hm, rfl⟩ := (h.mem x).1 hx
  rw [List.take_length] at hm
  exact (hg m hm).1

set_option maxHeartbeats 8000000 in
theorem rnormT_calls {K : Nat} {w : World} {v : Value} {c : Int} {M : List Pt} (h : RTerm w v c M) (hc : c.natAbs < 10 ^ K) (hb : BndT K (ps M)) (hl : M.length ≤ 100) (hK : K ≤ 700) :
    Calls Tryz.prog 14 #[v] w fun e w' => RTermE w c (fun l => NF l ∧ ∀ u, cf u l = cf u (ps M)) e w' := by
  obtain ⟨cn, ca, cL, cc, pa, pl, pc, rfl⟩ := h.form
  have hnum : NRes w (.agg #[.bool cn, .slice ca cL cc]) c := by
    obtain ⟨_, _, _, _, _, _, _, e, h1, _⟩ := h
    cases e
    exact h1
  have hgn : GoodN w M := by
    obtain ⟨_, _, _, _, _, _, _, e, _, _, h1⟩ := h
    exact h1
  have tb := (Thr.new w (.bool cn) (.slice ca cL cc) (.slice pa pl pc) 35).alloc (.cells #[.bool false, .slice none 0 0, .slice none 0 0] 35)
  have tz := Thr.new1 w (.cells #[.bool cn, .slice ca cL cc, .slice pa pl pc] 35) (.bool false) (.slice none 0 0) (.slice none 0 0) 35
  have hba : Below w.heap.size w ((w.alloc (.cells #[.bool cn, .slice ca cL cc, .slice pa pl pc] 35)).alloc (.cells #[.bool false, .slice none 0 0, .slice none 0 0] 35)) := (bel _ _).trans ((bel _ _).mono (by simp))
  have hno := rnorm_calls ((hnum.below hba).arg hc) (by omega)
  generalize hwA : (w.alloc (.cells #[.bool cn, .slice ca cL cc, .slice pa pl pc] 35)).alloc (.cells #[.bool false, .slice none 0 0, .slice none 0 0] 35) = wA at *
  have HWA := hide hwA
  have TB := hide tb
  have TZ := hide tz
  have HBA := hide hba
  have HT := hide h
  have HGN := hide hgn
  have HBD := hide hb
  obtain ⟨c0, c1, c2, _, _, _⟩ := tb.every
  clear hwA tb tz hba h hnum hgn hb hc
  go_enter Tryz.func14, Tryz.ntmps14
  go_upto_region 1 with fail
  rw [HWA.out]
  go_wp2_with fail
  refine hno.mono ?_
  rintro e w1 ⟨v1, rfl, hr1, hb1⟩
  obtain ⟨nb, na, nL, nc, rfl⟩ := hr1.form
  have hbx := bel w1 (.cells #[.bool nb, .slice na nL nc, .slice none 0 0] 35)
  have hb1x := bafter (bafter HBA.out hb1 (Nat.le_refl _)) hbx (Nat.le_refl _)
  have hva := rvars_calls (HT.out.below hb1x) hl
  have tb2 := (TB.out.keep hb1).keep hbx
  have T3 := hide (Thr.new w1 (.bool nb) (.slice na nL nc) (.slice none 0 0) 35)
  have HR1 := hide (hr1.below hbx)
  have TZ1 := hide ((TZ.out.keep hb1).keep hbx)
  have TB1 := hide tb2
  obtain ⟨x0, x1, x2, _, _, _⟩ := tb2.every
  have HN1 : Hid (w.heap.size + 2 ≤ w1.heap.size) := by
    have h1 := TZ.out.lt
    have h2 := hb1.size
    show _ ≤ _
    omega
  generalize hw1x : w1.alloc (.cells #[.bool nb, .slice na nL nc, .slice none 0 0] 35) = wx at *
  have HWX := hide hw1x
  have HB1 := hide hb1x
  clear hno hr1 hb1 hbx hb1x tb2 c0 c1 c2 hw1x
  go_upto_region 2 with fail
  rw [HWX.out]
  go_wp2_with fail
  refine hva.mono ?_
  rintro e w2 ⟨lv, L, rfl, hrow, hvo, hb2⟩
  obtain ⟨la, lk, hlv⟩ : ∃ a k, lv = .slice a L.length k := by
    obtain ⟨ao, cap, e, _⟩ := hrow
    exact ⟨_, _, e⟩
  subst hlv
  have hll : L.length ≤ 100 := by have := hvo.len; omega
  have HROW := hide hrow
  have HVO := hide hvo
  have HB2 := hide (bafter HB1.out hb2 (Nat.le_refl _))
  have HT2 := hide (HT.out.below HB2.out)
  have HFX : Hid (∀ b, b ≠ w1.heap.size → b < w2.heap.size → w2.heap[b]? = w2.heap[b]?) := fun _ _ _ => rfl
  have HTB2 := hide (TB1.out.keep hb2)
  have HTZ2 := hide (TZ1.out.keep hb2)
  have HST : Hid (RJ w1.heap.size w2.heap.size (fun W => ∀ b, b ≠ w1.heap.size → b < w2.heap.size → W.heap[b]? = w2.heap[b]?) c nb na nL nc w2 [] none 0) :=
    ⟨T3.out.keep hb2, HR1.out.below hb2, OwnQ.nil _ _, fun m hm => (by cases hm), HFX.out⟩
  have HNI : Hid (NoInt w2 w1.heap.size) := (T3.out.keep hb2).noInt
  have HSZ2 : Hid (w1.heap.size < w2.heap.size) := (T3.out.keep hb2).lt
  generalize hLk : L.length = Lk at *
  have HLK := hide hLk
  clear hva hrow hvo hb2 x0 x1 x2 hLk
  go_wp2
  go_loopw [5] (fun iv wr => ∃ (i : Nat) (X : List Pt) (oa : Option Addr) (oc : Nat), i ≤ Lk ∧ iv = .int .i64 (i : Int) ∧ RJ w1.heap.size w2.heap.size (fun W => ∀ b, b ≠ w1.heap.size → b < w2.heap.size → W.heap[b]? = w2.heap[b]?) c nb na nL nc wr X oa oc ∧ ps X = nfOf (ps M) (L.take i) ∧ w2.heap.size ≤ wr.heap.size ∧ Below w.heap.size w wr) (fun iv _ => Lk - (RowKit.intOf iv).toNat)
  case atStart => exact ⟨0, [], _, _, Nat.zero_le _, rfl, HST.out, by simp [ps, nfOf], Nat.le_refl _, HB2.out⟩
  case round =>
    obtain ⟨i, X, oa, oc, hi, rfl, hj, hps, hsz, hbw⟩ := hrel
    have HJ := hide hj
    have HPS := hide hps
    have HBW := hide hbw
    have HSZ := hide hsz
    have HTBr : Hid (Thr wr w.heap.size (.bool cn) (.slice ca cL cc) (.slice pa pl pc) 35) := (hj.oth _ (by have := HN1.out; omega) (by have := HN1.out; have := HSZ2.out; omega)).trans HTB2.out
    have HTZr : Hid (Thr wr (w.heap.size + 1) (.bool false) (.slice none 0 0) (.slice none 0 0) 35) := (hj.oth _ (by have := HN1.out; omega) (by have := HN1.out; have := HSZ2.out; omega)).trans HTZ2.out
    clear hj hps hbw hsz
    by_cases hlt : i < Lk
    · obtain ⟨_, _, e, _, hcells⟩ := HROW.out
      simp only [Value.slice.injEq] at e
      obtain ⟨rfl, eL, rfl⟩ := e
      clear eL
      obtain ⟨lb, lo, rfl, hcx⟩ := hcells i (by rw [HLK.out]; exact hlt)
      have HXM : Hid (L.getD i 0 ∈ L) := by
        show _ ∈ L
        rw [getD_at (by rw [HLK.out]; exact hlt)]
        exact List.getElem_mem _
      have HTK : Hid (L.take (i + 1) = L.take i ++ [L.getD i 0]) := by
        show _ = _
        rw [List.take_add_one, List.getElem?_eq_getElem (by rw [HLK.out]; exact hlt), getD_at (by rw [HLK.out]; exact hlt)]
        rfl
      generalize L.getD i 0 = x at *
      have hlb : lb < w2.heap.size := block_lt_of_cell hcx
      have hlne : lb ≠ w1.heap.size := HNI.out.off (a := ⟨lb, lo + i, none⟩) hcx
      have HLB := hide hlb
      have HLNE := hide hlne
      have HCX : Hid (wr.cell? ⟨lb, lo + i, none⟩ = some (.int .i64 x)) := (World.cell?_of_block (a := ⟨lb, lo + i, none⟩) (HJ.out.oth lb hlne hlb)).trans hcx
      have HRGX := hide (varsOf_rng HVO.out HGN.out HXM.out)
      have d1 : (i : Int) < (Lk : Int) := by omega
      have d0 : (0 : Int) ≤ (i : Int) := by omega
      have HCO := hide (fun (W : World) (h : Below wr.heap.size wr W) => rcoef_calls (HT.out.below (bafter HBW.out h (Nat.le_refl _))) x HBD.out hl hK)
      have hzb : (cf x (ps M)).natAbs < 10 ^ (K + 100) := ten_up (cf_boundT HBD.out x) (by rw [ps_length]; omega)
      have HZB := hide hzb
      generalize hcv : cf x (ps M) = cv at *
      have HCV := hide hcv
      clear hcells hcx hlb hlne hzb hcv
      have HS : Hid (∀ Y : World, Below wr.heap.size wr Y → Y.cell? ⟨w.heap.size, 0, none⟩ = some (.bool cn) ∧ Y.cell? ⟨w.heap.size, 1, none⟩ = some (.slice ca cL cc) ∧ Y.cell? ⟨w.heap.size, 2, none⟩ = some (.slice pa pl pc) ∧ Y.cell? ⟨lb, lo + i, none⟩ = some (.int .i64 x)) := fun Y hY => ⟨(HTBr.out.keep hY).c0, (HTBr.out.keep hY).c1, (HTBr.out.keep hY).c2, (hY.cell (p := ⟨lb, lo + i, none⟩) (block_lt_of_cell HCX.out)).trans HCX.out⟩
      go_upto_region 6 with fail
      refine wp_region_held_drew (S := fun Y : World => Y.cell? ⟨w.heap.size, 0, none⟩ = some (.bool cn) ∧ Y.cell? ⟨w.heap.size, 1, none⟩ = some (.slice ca cL cc) ∧ Y.cell? ⟨w.heap.size, 2, none⟩ = some (.slice pa pl pc) ∧ Y.cell? ⟨lb, lo + i, none⟩ = some (.int .i64 x)) (by kernel_rfl) ?_ (fun hHeld => ?_)
      · exact HS.out _ (by (first | exact (Below.refl _ _).drew | exact Below.refl _ _))
      refine takeD (i := 0) (v := ?v1) (some 19) rfl (by kernel_rfl) (by kernel_rfl) (by kernel_rfl) (fun _ _ _ h => h) (Or.inl ⟨by rfl, ?hy1⟩) (by assumption) (by rfl) ?rest1
      case hy1 => first | (intro w hSw; (try dsimp only at hSw); obtain ⟨q0, q1, q2, q3⟩ := hSw; go_simp; done) | (intro w hSw; (try dsimp only at hSw); obtain ⟨q0, q1, q2, q3⟩ := hSw; go_simp; with_reducible rfl)
      try simp only [Act.put, List.setIfInBounds_toArray, List.set_cons_zero, List.set_cons_succ]
      refine takeD (i := 1) (v := ?v2) (some 20) rfl (by kernel_rfl) (by kernel_rfl) (by kernel_rfl) (fun _ _ _ h => h) (Or.inl ⟨by rfl, ?hy2⟩) (by assumption) (by rfl) ?rest2
      case hy2 => first | (intro w hSw; (try dsimp only at hSw); obtain ⟨q0, q1, q2, q3⟩ := hSw; go_simp; done) | (intro w hSw; (try dsimp only at hSw); obtain ⟨q0, q1, q2, q3⟩ := hSw; go_simp; with_reducible rfl)
      try simp only [Act.put, List.setIfInBounds_toArray, List.set_cons_zero, List.set_cons_succ]
      refine takeD (i := 2) (v := ?v3) (some 21) rfl (by kernel_rfl) (by kernel_rfl) (by kernel_rfl) (fun _ _ _ h => h) (Or.inl ⟨by rfl, ?hy3⟩) (by assumption) (by rfl) ?rest3
      case hy3 => first | (intro w hSw; (try dsimp only at hSw); obtain ⟨q0, q1, q2, q3⟩ := hSw; go_simp; done) | (intro w hSw; (try dsimp only at hSw); obtain ⟨q0, q1, q2, q3⟩ := hSw; go_simp; with_reducible rfl)
      try simp only [Act.put, List.setIfInBounds_toArray, List.set_cons_zero, List.set_cons_succ]
      refine takeD (i := 3) (v := ?v4) (some 22) rfl (by kernel_rfl) (by kernel_rfl) (by kernel_rfl) (fun _ _ _ h => h) (Or.inl ⟨by rfl, ?hy4⟩) (by assumption) (by rfl) ?rest4
      case hy4 => first | (intro w hSw; (try dsimp only at hSw); obtain ⟨q0, q1, q2, q3⟩ := hSw; go_simp; done) | (intro w hSw; (try dsimp only at hSw); obtain ⟨q0, q1, q2, q3⟩ := hSw; go_simp; with_reducible rfl)
      try simp only [Act.put, List.setIfInBounds_toArray, List.set_cons_zero, List.set_cons_succ]
      refine takeD (i := 4) (v := ?v5) (some 23) rfl (by kernel_rfl) (by kernel_rfl) (by kernel_rfl) (fun _ _ _ h => h) (Or.inl ⟨by rfl, ?hy5⟩) (by assumption) (by rfl) ?rest5
      case hy5 => first | (intro w hSw; (try dsimp only at hSw); obtain ⟨q0, q1, q2, q3⟩ := hSw; go_simp; done) | (intro w hSw; (try dsimp only at hSw); obtain ⟨q0, q1, q2, q3⟩ := hSw; go_simp; with_reducible rfl)
      try simp only [Act.put, List.setIfInBounds_toArray, List.set_cons_zero, List.set_cons_succ]
      refine wpAnyH_ready (rs := [5, 6]) (by kernel_rfl) (by simp) ?_
      refine AllReadyH.cons rfl (fun K hK => ?_) (AllReadyH.cons rfl (fun K hK => ?_) AllReadyH.nil)
      · go_simp
        refine (HCO.out _ (by (first | exact (Below.refl _ _).drew | exact Below.refl _ _))).mono ?_
        rintro e w4 ⟨v4, rfl, hr4, hb4⟩
        obtain ⟨rb, ra, rL, rc, rfl⟩ := hr4.form
        have HB4 : Hid (Below wr.heap.size wr w4) := bafter (by (first | exact (Below.refl _ _).drew | exact Below.refl _ _)) hb4 (Nat.le_refl _)
        have HR4 := hide hr4
        clear hr4 hb4 hHeld
        go_wp2_with fail
        refine hK.out _ _ (HS.out _ HB4.out) (fun hHeld => ?_)
        clear hK K
        try simp only [Act.put, List.setIfInBounds_toArray, List.set_cons_zero, List.set_cons_succ]
        refine wpAnyH_ready (rs := [6]) (by kernel_rfl) (by simp) ?_
        refine AllReadyH.cons rfl (fun K hK => ?_) AllReadyH.nil
        go_simp
        have HB5 := hide (bafter HB4.out (bel w4 (.cells #[.bool false, .slice none 0 0] 32)) (Nat.le_refl _))
        refine hK.out _ _ (HS.out _ HB5.out) (fun hHeld => ?_)
        clear hK K
        try simp only [Act.put, List.setIfInBounds_toArray, List.set_cons_zero, List.set_cons_succ]
        refine wpAnyH_ready (rs := [7]) (by kernel_rfl) (by simp) ?_
        refine AllReadyH.cons rfl (fun K hK => ?_) AllReadyH.nil
        go_simp
        have hbz := bel w4 (.cells #[.bool rb, .slice ra rL rc] 32)
        have HBZ := hide (bafter HB4.out hbz (Nat.le_refl _))
        have HRZ := hide (HR4.out.below hbz)
        have HZ := hide (Two.new w4 (.bool rb) (.slice ra rL rc) 32)
        generalize hwz : w4.alloc (.cells #[.bool rb, .slice ra rL rc] 32) = wz at *
        generalize hpb : w4.heap.size = pb at *
        clear hbz hwz hpb HB5
        refine hK.out _ _ (HS.out _ HBZ.out) (fun hHeld => ?_)
        clear hK K hHeld
        try simp only [Act.put, List.setIfInBounds_toArray, List.set_cons_zero, List.set_cons_succ]
        refine wpAnyH_done (by kernel_rfl) ?_ _
        have HSZZ : Hid (w2.heap.size ≤ wz.heap.size) := Nat.le_trans HSZ.out HBZ.out.size
        obtain ⟨n0, n1, _, _, _, _⟩ := HZ.out.every
        have hsg := rsign_calls (HRZ.out.arg HZB.out) (by omega)
        by_cases hcv0 : cv = 0
        · have hs0 : sg cv = 0 := by rw [hcv0]; rfl
          rw [hs0] at hsg
          clear hs0
          go_wp2_with fail
          refine hsg.mono ?_
          rintro e w7 ⟨rfl, hb7⟩
          have HB7 := hide (bafter HBZ.out hb7 (Nat.le_refl _))
          have HC0 := hide hcv0
          clear hsg hb7 n0 n1 hcv0
          go_wp2
          go_roundw
          case rel =>
            refine ⟨i + 1, X, _, _, by omega, by go_num, HJ.out.below HB7.out (fun b hb1 hb2 => (HB7.out.block b (by have := HSZ.out; omega)).trans (HJ.out.oth b hb1 hb2)), ?_, Nat.le_trans HSZ.out HB7.out.size, bafter HBW.out HB7.out (Nat.le_refl _)⟩
            rw [HTK.out, nfOf_append, nfOf_one, HCV.out, if_pos HC0.out, List.append_nil]
            exact HPS.out
          case measure => simp [RowKit.intOf]; omega
        · have hs0 : (sg cv == 0) = false := sg_not0 hcv0
          have hs1 : (sg cv != 0) = true := by rw [bne, hs0]; rfl
          generalize sg cv = sv at *
          go_wp2_with fail
          refine hsg.mono ?_
          rintro e w7 ⟨rfl, hb7⟩
          have HB7 := hide (bafter HBZ.out hb7 (Nat.le_refl _))
          have HC0 := hide hcv0
          have HZ7 := hide (HZ.out.keep hb7)
          have HR7 := hide (HRZ.out.below hb7)
          have HJ7 := hide (HJ.out.below HB7.out (fun b hb1 hb2 => (HB7.out.block b (by have := HSZ.out; omega)).trans (HJ.out.oth b hb1 hb2)))
          have HBW7 := hide (bafter HBW.out HB7.out (Nat.le_refl _))
          have HSZ7 : Hid (w2.heap.size ≤ w7.heap.size) := Nat.le_trans HSZ.out HB7.out.size
          have HS8 : Hid (∀ Y : World, Below w7.heap.size w7 Y → Y.cell? ⟨lb, lo + i, none⟩ = some (.int .i64 x) ∧ Y.cell? ⟨pb, 0, none⟩ = some (.bool rb) ∧ Y.cell? ⟨pb, 1, none⟩ = some (.slice ra rL rc)) := fun Y hY => by
            have h9 := (hY.cell (p := ⟨lb, lo + i, none⟩) (by have := HLB.out; have := HSZ7.out; show lb < _; omega)).trans ((HB7.out.cell (p := ⟨lb, lo + i, none⟩) (block_lt_of_cell HCX.out)).trans HCX.out)
            exact ⟨h9, (HZ7.out.keep hY).c0, (HZ7.out.keep hY).c1⟩
          clear hsg hb7 n0 n1 hcv0
          go_upto_region 8 with fail
          refine wp_region_held_drew (S := fun Y : World => Y.cell? ⟨lb, lo + i, none⟩ = some (.int .i64 x) ∧ Y.cell? ⟨pb, 0, none⟩ = some (.bool rb) ∧ Y.cell? ⟨pb, 1, none⟩ = some (.slice ra rL rc)) (by kernel_rfl) ?_ (fun hHeld => ?_)
          · exact HS8.out _ (by (first | exact (Below.refl _ _).drew | exact Below.refl _ _))
          refine takeD (i := 0) (v := ?v501) (some 28) rfl (by kernel_rfl) (by kernel_rfl) (by kernel_rfl) (fun _ _ _ h => h) (Or.inl ⟨by rfl, ?hy501⟩) (by assumption) (by rfl) ?rest501
          case hy501 => first | (intro w hSw; (try dsimp only at hSw); obtain ⟨q0, q1, q2⟩ := hSw; go_simp; done) | (intro w hSw; (try dsimp only at hSw); obtain ⟨q0, q1, q2⟩ := hSw; go_simp; with_reducible rfl)
          try simp only [Act.put, List.setIfInBounds_toArray, List.set_cons_zero, List.set_cons_succ]
          refine takeD (i := 2) (v := ?v502) (some 30) rfl (by kernel_rfl) (by kernel_rfl) (by kernel_rfl) (fun _ _ _ h => h) (Or.inl ⟨by rfl, ?hy502⟩) (by assumption) (by rfl) ?rest502
          case hy502 => first | (intro w hSw; (try dsimp only at hSw); obtain ⟨q0, q1, q2⟩ := hSw; go_simp; done) | (intro w hSw; (try dsimp only at hSw); obtain ⟨q0, q1, q2⟩ := hSw; go_simp; with_reducible rfl)
          try simp only [Act.put, List.setIfInBounds_toArray, List.set_cons_zero, List.set_cons_succ]
          refine takeD (i := 3) (v := ?v503) (some 31) rfl (by kernel_rfl) (by kernel_rfl) (by kernel_rfl) (fun _ _ _ h => h) (Or.inl ⟨by rfl, ?hy503⟩) (by assumption) (by rfl) ?rest503
          case hy503 => first | (intro w hSw; (try dsimp only at hSw); obtain ⟨q0, q1, q2⟩ := hSw; go_simp; done) | (intro w hSw; (try dsimp only at hSw); obtain ⟨q0, q1, q2⟩ := hSw; go_simp; with_reducible rfl)
          try simp only [Act.put, List.setIfInBounds_toArray, List.set_cons_zero, List.set_cons_succ]
          refine takeD (i := 4) (v := ?v504) (some 32) rfl (by kernel_rfl) (by kernel_rfl) (by kernel_rfl) (fun _ _ _ h => h) (Or.inl ⟨by rfl, ?hy504⟩) (by assumption) (by rfl) ?rest504
          case hy504 => first | (intro w hSw; (try dsimp only at hSw); obtain ⟨q0, q1, q2⟩ := hSw; go_simp; done) | (intro w hSw; (try dsimp only at hSw); obtain ⟨q0, q1, q2⟩ := hSw; go_simp; with_reducible rfl)
          try simp only [Act.put, List.setIfInBounds_toArray, List.set_cons_zero, List.set_cons_succ]
          refine takeD (i := 5) (v := ?v505) (some 33) rfl (by kernel_rfl) (by kernel_rfl) (by kernel_rfl) (fun _ _ _ h => h) (Or.inl ⟨by rfl, ?hy505⟩) (by assumption) (by rfl) ?rest505
          case hy505 => first | (intro w hSw; (try dsimp only at hSw); obtain ⟨q0, q1, q2⟩ := hSw; go_simp; done) | (intro w hSw; (try dsimp only at hSw); obtain ⟨q0, q1, q2⟩ := hSw; go_simp; with_reducible rfl)
          try simp only [Act.put, List.setIfInBounds_toArray, List.set_cons_zero, List.set_cons_succ]
          refine takeD (i := 6) (v := ?v506) (some 34) rfl (by kernel_rfl) (by kernel_rfl) (by kernel_rfl) (fun _ _ _ h => h) (Or.inl ⟨by rfl, ?hy506⟩) (by assumption) (by rfl) ?rest506
          case hy506 => first | (intro w hSw; (try dsimp only at hSw); obtain ⟨q0, q1, q2⟩ := hSw; go_simp; done) | (intro w hSw; (try dsimp only at hSw); obtain ⟨q0, q1, q2⟩ := hSw; go_simp; with_reducible rfl)
          try simp only [Act.put, List.setIfInBounds_toArray, List.set_cons_zero, List.set_cons_succ]
          refine takeD (i := 7) (v := ?v507) (some 35) rfl (by kernel_rfl) (by kernel_rfl) (by kernel_rfl) (fun _ _ _ h => h) (Or.inl ⟨by rfl, ?hy507⟩) (by assumption) (by rfl) ?rest507
          case hy507 => first | (intro w hSw; (try dsimp only at hSw); obtain ⟨q0, q1, q2⟩ := hSw; go_simp; done) | (intro w hSw; (try dsimp only at hSw); obtain ⟨q0, q1, q2⟩ := hSw; go_simp; with_reducible rfl)
          try simp only [Act.put, List.setIfInBounds_toArray, List.set_cons_zero, List.set_cons_succ]
          refine wpAnyH_ready (rs := [1, 8]) (by kernel_rfl) (by simp) ?_
          refine AllReadyH.cons rfl (fun K hK => ?_) (AllReadyH.cons rfl (fun K hK => ?_) AllReadyH.nil)
          · have u0 := (HJ7.out.box.keep ((Below.refl _ w7).drew)).c2
            go_simp
            refine hK.out _ _ (HS8.out _ ((Below.refl _ _).drew)) (fun hHeld => ?_)
            clear hK K
            try simp only [Act.put, List.setIfInBounds_toArray, List.set_cons_zero, List.set_cons_succ]
            clear u0
            refine wpAnyH_ready (rs := [8]) (by kernel_rfl) (by simp) ?_
            refine AllReadyH.cons rfl (fun K hK => ?_) AllReadyH.nil
            go_simp
            have hbl := bel w7 (.cells #[.int .i64 x, .bool rb, .slice ra rL rc] 79)
            have HB5 : Hid (Below w7.heap.size w7 ((w7.alloc (.cells #[.int .i64 x, .bool rb, .slice ra rL rc] 79)).drew)) := hbl.drew
            have HRL := hide ((row_litQ w7 x rb (.slice ra rL rc) cv).below ((Below.refl _ _).drew))
            clear hbl
            generalize hw5 : (w7.alloc (.cells #[.int .i64 x, .bool rb, .slice ra rL rc] 79)).drew = w5 at *
            clear hw5
            refine hK.out _ _ (HS8.out _ HB5.out) (fun hHeld => ?_)
            clear hK K hHeld
            try simp only [Act.put, List.setIfInBounds_toArray, List.set_cons_zero, List.set_cons_succ]
            obtain ⟨v6, w6, hrun6, ho6, hg6, ha6, hk6⟩ := run_appQ w5 w2.heap.size 33 _ X (HJ7.out.own.below HB5.out) _ [((x, rb, .slice ra rL rc, cv) : Pt)] HRL.out (fun m hm => by simp at hm; subst hm; rfl) (by have h1 := congrArg List.length HPS.out; have h2 := List.length_filter_le (fun p : Int × Int => decide (p.2 ≠ 0)) ((L.take i).map fun x => (x, cf x (ps M))); have h3 := HLK.out; simp only [ps_length, nfOf] at h1; simp only [List.length_map, List.length_take] at h2; simp only [List.length_cons, List.length_nil]; omega) (Nat.le_trans HSZ7.out HB5.out.size)
            obtain ⟨oa6, oc6, rfl, _, _⟩ := ho6.len
            have hown : ∀ b, b < w2.heap.size → (Value.slice oa X.length oc).ownBlock ≠ some b := fun b hb e => by
              have := (HJ7.out.own.lt e).1
              omega
            have hstep := HJ7.out.step (p := (x, rb, .slice ra rL rc, cv)) HB5.out ho6 hg6 hk6 ⟨HRGX.out, HR7.out.below HB5.out⟩ (fun W9 h9 b hb1 hb2 => (h9 b hb1 (hown b hb2) (by have := HSZ7.out; omega)).trans (HJ7.out.oth b hb1 hb2))
            have hpb : pb ≠ w1.heap.size := by
              intro e
              have h2 := HZ7.out
              rw [e] at h2
              exact absurd (HJ7.out.box.symm.trans h2) (by simp)
            have hl8 := hstep.2.2.1 lb HLNE.out (hown lb HLB.out) (by have := HLB.out; have := HSZ7.out; omega)
            have hp8 := hstep.2.2.1 pb hpb (HJ7.out.own.apart HZ7.out (by decide)) HZ7.out.lt'
            have hlc : w7.cell? ⟨lb, lo + i, none⟩ = some (.int .i64 x) := (HS8.out w7 (Below.refl _ _)).1
            have HS6 : Hid (let Y := w6; Y.cell? ⟨lb, lo + i, none⟩ = some (.int .i64 x) ∧ Y.cell? ⟨pb, 0, none⟩ = some (.bool rb) ∧ Y.cell? ⟨pb, 1, none⟩ = some (.slice ra rL rc)) := by
              have h1 : Two w6 pb (.bool rb) (.slice ra rL rc) 32 := hp8.2.trans HZ7.out
              exact ⟨(World.cell?_of_block (a := ⟨lb, lo + i, none⟩) hl8.2).trans hlc, h1.c0, h1.c1⟩
            have HS7 : Hid (let Y := w6.setCell ⟨w1.heap.size, 2, none⟩ (.slice oa6 (X ++ [((x, rb, .slice ra rL rc, cv) : Pt)]).length oc6); Y.cell? ⟨lb, lo + i, none⟩ = some (.int .i64 x) ∧ Y.cell? ⟨pb, 0, none⟩ = some (.bool rb) ∧ Y.cell? ⟨pb, 1, none⟩ = some (.slice ra rL rc)) := by
              have h1 : Two (w6.setCell ⟨w1.heap.size, 2, none⟩ (.slice oa6 (X ++ [((x, rb, .slice ra rL rc, cv) : Pt)]).length oc6)) pb (.bool rb) (.slice ra rL rc) 32 := hp8.1.trans HZ7.out
              exact ⟨(World.cell?_of_block (a := ⟨lb, lo + i, none⟩) hl8.1).trans hlc, h1.c0, h1.c1⟩
            have HSTEP := hide hstep
            have HBF := hide (hstep.2.2.2 w.heap.size w HB2.out.size (by have := HN1.out; omega) HBW7.out (Nat.le_refl _))
            have HSF : Hid (w2.heap.size ≤ (w6.setCell ⟨w1.heap.size, 2, none⟩ (.slice oa6 (X ++ [((x, rb, .slice ra rL rc, cv) : Pt)]).length oc6)).heap.size) := by
              have h1 := hg6.size
              have h2 := HB5.out.size
              have h3 := HSZ7.out
              show _ ≤ _
              simp
              omega
            obtain ⟨y0, y1, y2, y3, y4, y5⟩ := hstep.2.1.every
            generalize hxl : (X ++ [((x, rb, .slice ra rL rc, cv) : Pt)]).length = xl at *
            have HXL := hide hxl
            clear hstep ho6 hg6 ha6 hk6 hxl hl8 hp8 hlc hown hpb
            refine wpAnyH_ready (rs := [9]) (by kernel_rfl) (by simp) ?_
            refine AllReadyH.cons rfl (fun K hK => ?_) AllReadyH.nil
            refine Lib.wp_append_run _ _ _ _ _ rfl _ _ rfl rfl _ _ hrun6 ?_
            clear hrun6
            refine hK.out _ _ (HS6.out) (fun hHeld => ?_)
            clear hK K
            try simp only [Act.put, List.setIfInBounds_toArray, List.set_cons_zero, List.set_cons_succ]
            refine takeD (i := 10) (v := ?v508) (some 38) rfl (by kernel_rfl) (by kernel_rfl) (by kernel_rfl) (fun _ _ _ h => h) (Or.inl ⟨by rfl, ?hy508⟩) (by assumption) (by rfl) ?rest508
            case hy508 => first | (intro w hSw; (try dsimp only at hSw); obtain ⟨q0, q1, q2⟩ := hSw; go_simp; done) | (intro w hSw; (try dsimp only at hSw); obtain ⟨q0, q1, q2⟩ := hSw; go_simp; with_reducible rfl)
            try simp only [Act.put, List.setIfInBounds_toArray, List.set_cons_zero, List.set_cons_succ]
            refine wpAnyH_ready (rs := [11]) (by kernel_rfl) (by simp) ?_
            refine AllReadyH.cons rfl (fun K hK => ?_) AllReadyH.nil
            go_simp
            refine hK.out _ _ (HS7.out) (fun hHeld => ?_)
            clear hK K hHeld
            try simp only [Act.put, List.setIfInBounds_toArray, List.set_cons_zero, List.set_cons_succ]
            refine wpAnyH_done (by kernel_rfl) ?_ _
            clear y0 y1 y2 y3 y4 y5
            go_wp2
            go_roundw
            case rel =>
              have e9 := HXL.out
              subst e9
              refine ⟨i + 1, X ++ [((x, rb, .slice ra rL rc, cv) : Pt)], _, _, by omega, by go_num, HSTEP.out.1, ?_, HSF.out, HBF.out⟩
              rw [HTK.out, nfOf_append, nfOf_one, HCV.out, if_neg HC0.out, ps_append, HPS.out]
              rfl
            case measure => simp [RowKit.intOf]; omega
          · go_simp
            have hbl := bel w7 (.cells #[.int .i64 x, .bool rb, .slice ra rL rc] 79)
            have HB5 : Hid (Below w7.heap.size w7 ((w7.alloc (.cells #[.int .i64 x, .bool rb, .slice ra rL rc] 79)).drew)) := hbl.drew
            have HRL := hide ((row_litQ w7 x rb (.slice ra rL rc) cv).below ((Below.refl _ _).drew))
            clear hbl
            generalize hw5 : (w7.alloc (.cells #[.int .i64 x, .bool rb, .slice ra rL rc] 79)).drew = w5 at *
            clear hw5
            refine hK.out _ _ (HS8.out _ HB5.out) (fun hHeld => ?_)
            clear hK K hHeld
            try simp only [Act.put, List.setIfInBounds_toArray, List.set_cons_zero, List.set_cons_succ]
            have u0 := (HJ7.out.box.keep HB5.out).c2
            refine wpAnyH_ready (rs := [1]) (by kernel_rfl) (by simp) ?_
            refine AllReadyH.cons rfl (fun K hK => ?_) AllReadyH.nil
            go_simp
            refine hK.out _ _ (HS8.out _ HB5.out) (fun hHeld => ?_)
            clear hK K hHeld
            try simp only [Act.put, List.setIfInBounds_toArray, List.set_cons_zero, List.set_cons_succ]
            clear u0
            obtain ⟨v6, w6, hrun6, ho6, hg6, ha6, hk6⟩ := run_appQ w5 w2.heap.size 33 _ X (HJ7.out.own.below HB5.out) _ [((x, rb, .slice ra rL rc, cv) : Pt)] HRL.out (fun m hm => by simp at hm; subst hm; rfl) (by have h1 := congrArg List.length HPS.out; have h2 := List.length_filter_le (fun p : Int × Int => decide (p.2 ≠ 0)) ((L.take i).map fun x => (x, cf x (ps M))); have h3 := HLK.out; simp only [ps_length, nfOf] at h1; simp only [List.length_map, List.length_take] at h2; simp only [List.length_cons, List.length_nil]; omega) (Nat.le_trans HSZ7.out HB5.out.size)
            obtain ⟨oa6, oc6, rfl, _, _⟩ := ho6.len
            have hown : ∀ b, b < w2.heap.size → (Value.slice oa X.length oc).ownBlock ≠ some b := fun b hb e => by
              have := (HJ7.out.own.lt e).1
              omega
            have hstep := HJ7.out.step (p := (x, rb, .slice ra rL rc, cv)) HB5.out ho6 hg6 hk6 ⟨HRGX.out, HR7.out.below HB5.out⟩ (fun W9 h9 b hb1 hb2 => (h9 b hb1 (hown b hb2) (by have := HSZ7.out; omega)).trans (HJ7.out.oth b hb1 hb2))
            have hpb : pb ≠ w1.heap.size := by
              intro e
              have h2 := HZ7.out
              rw [e] at h2
              exact absurd (HJ7.out.box.symm.trans h2) (by simp)
            have hl8 := hstep.2.2.1 lb HLNE.out (hown lb HLB.out) (by have := HLB.out; have := HSZ7.out; omega)
            have hp8 := hstep.2.2.1 pb hpb (HJ7.out.own.apart HZ7.out (by decide)) HZ7.out.lt'
            have hlc : w7.cell? ⟨lb, lo + i, none⟩ = some (.int .i64 x) := (HS8.out w7 (Below.refl _ _)).1
            have HS6 : Hid (let Y := w6; Y.cell? ⟨lb, lo + i, none⟩ = some (.int .i64 x) ∧ Y.cell? ⟨pb, 0, none⟩ = some (.bool rb) ∧ Y.cell? ⟨pb, 1, none⟩ = some (.slice ra rL rc)) := by
              have h1 : Two w6 pb (.bool rb) (.slice ra rL rc) 32 := hp8.2.trans HZ7.out
              exact ⟨(World.cell?_of_block (a := ⟨lb, lo + i, none⟩) hl8.2).trans hlc, h1.c0, h1.c1⟩
            have HS7 : Hid (let Y := w6.setCell ⟨w1.heap.size, 2, none⟩ (.slice oa6 (X ++ [((x, rb, .slice ra rL rc, cv) : Pt)]).length oc6); Y.cell? ⟨lb, lo + i, none⟩ = some (.int .i64 x) ∧ Y.cell? ⟨pb, 0, none⟩ = some (.bool rb) ∧ Y.cell? ⟨pb, 1, none⟩ = some (.slice ra rL rc)) := by
              have h1 : Two (w6.setCell ⟨w1.heap.size, 2, none⟩ (.slice oa6 (X ++ [((x, rb, .slice ra rL rc, cv) : Pt)]).length oc6)) pb (.bool rb) (.slice ra rL rc) 32 := hp8.1.trans HZ7.out
              exact ⟨(World.cell?_of_block (a := ⟨lb, lo + i, none⟩) hl8.1).trans hlc, h1.c0, h1.c1⟩
            have HSTEP := hide hstep
            have HBF := hide (hstep.2.2.2 w.heap.size w HB2.out.size (by have := HN1.out; omega) HBW7.out (Nat.le_refl _))
            have HSF : Hid (w2.heap.size ≤ (w6.setCell ⟨w1.heap.size, 2, none⟩ (.slice oa6 (X ++ [((x, rb, .slice ra rL rc, cv) : Pt)]).length oc6)).heap.size) := by
              have h1 := hg6.size
              have h2 := HB5.out.size
              have h3 := HSZ7.out
              show _ ≤ _
              simp
              omega
            obtain ⟨y0, y1, y2, y3, y4, y5⟩ := hstep.2.1.every
            generalize hxl : (X ++ [((x, rb, .slice ra rL rc, cv) : Pt)]).length = xl at *
            have HXL := hide hxl
            clear hstep ho6 hg6 ha6 hk6 hxl hl8 hp8 hlc hown hpb
            refine wpAnyH_ready (rs := [9]) (by kernel_rfl) (by simp) ?_
            refine AllReadyH.cons rfl (fun K hK => ?_) AllReadyH.nil
            refine Lib.wp_append_run _ _ _ _ _ rfl _ _ rfl rfl _ _ hrun6 ?_
            clear hrun6
            refine hK.out _ _ (HS6.out) (fun hHeld => ?_)
            clear hK K
            try simp only [Act.put, List.setIfInBounds_toArray, List.set_cons_zero, List.set_cons_succ]
            refine takeD (i := 10) (v := ?v509) (some 38) rfl (by kernel_rfl) (by kernel_rfl) (by kernel_rfl) (fun _ _ _ h => h) (Or.inl ⟨by rfl, ?hy509⟩) (by assumption) (by rfl) ?rest509
            case hy509 => first | (intro w hSw; (try dsimp only at hSw); obtain ⟨q0, q1, q2⟩ := hSw; go_simp; done) | (intro w hSw; (try dsimp only at hSw); obtain ⟨q0, q1, q2⟩ := hSw; go_simp; with_reducible rfl)
            try simp only [Act.put, List.setIfInBounds_toArray, List.set_cons_zero, List.set_cons_succ]
            refine wpAnyH_ready (rs := [11]) (by kernel_rfl) (by simp) ?_
            refine AllReadyH.cons rfl (fun K hK => ?_) AllReadyH.nil
            go_simp
            refine hK.out _ _ (HS7.out) (fun hHeld => ?_)
            clear hK K hHeld
            try simp only [Act.put, List.setIfInBounds_toArray, List.set_cons_zero, List.set_cons_succ]
            refine wpAnyH_done (by kernel_rfl) ?_ _
            clear y0 y1 y2 y3 y4 y5
            go_wp2
            go_roundw
            case rel =>
              have e9 := HXL.out
              subst e9
              refine ⟨i + 1, X ++ [((x, rb, .slice ra rL rc, cv) : Pt)], _, _, by omega, by go_num, HSTEP.out.1, ?_, HSF.out, HBF.out⟩
              rw [HTK.out, nfOf_append, nfOf_one, HCV.out, if_neg HC0.out, ps_append, HPS.out]
              rfl
            case measure => simp [RowKit.intOf]; omega
      · go_simp
        have HB3 : Hid (Below wr.heap.size wr ((wr.alloc (.cells #[.bool false, .slice none 0 0] 32)).drew)) := (bel _ _).drew
        refine hK.out _ _ (HS.out _ HB3.out) (fun hHeld => ?_)
        clear hK K
        try simp only [Act.put, List.setIfInBounds_toArray, List.set_cons_zero, List.set_cons_succ]
        refine wpAnyH_ready (rs := [5]) (by kernel_rfl) (by simp) ?_
        refine AllReadyH.cons rfl (fun K hK => ?_) AllReadyH.nil
        go_simp
        refine (HCO.out _ HB3.out).mono ?_
        rintro e w4 ⟨v4, rfl, hr4, hb4⟩
        obtain ⟨rb, ra, rL, rc, rfl⟩ := hr4.form
        have HB4 : Hid (Below wr.heap.size wr w4) := bafter HB3.out hb4 (Nat.le_refl _)
        have HR4 := hide hr4
        have TN := hide ((Two.new wr (.bool false) (.slice none 0 0) 32).drew.keep hb4)
        clear hr4 hb4 hHeld
        go_wp2_with fail
        refine hK.out _ _ (HS.out _ HB4.out) (fun hHeld => ?_)
        clear hK K
        try simp only [Act.put, List.setIfInBounds_toArray, List.set_cons_zero, List.set_cons_succ]
        obtain ⟨g0, g1, g2, g3, _, _⟩ := TN.out.every
        have HBZ : Hid (Below wr.heap.size wr ((w4.setCell ⟨wr.heap.size, 0, none⟩ (.bool rb)).setCell ⟨wr.heap.size, 1, none⟩ (.slice ra rL rc))) := below_put HB4.out (Nat.le_refl _) _ _
        have HRZ := hide (HR4.out.put TN.out (.bool rb) (.slice ra rL rc))
        have HZ := hide (TN.out.put (.bool rb) (.slice ra rL rc))
        refine wpAnyH_ready (rs := [7]) (by kernel_rfl) (by simp) ?_
        refine AllReadyH.cons rfl (fun K hK => ?_) AllReadyH.nil
        go_simp
        clear g0 g1 g2 g3
        generalize hwz : (w4.setCell ⟨wr.heap.size, 0, none⟩ (.bool rb)).setCell ⟨wr.heap.size, 1, none⟩ (.slice ra rL rc) = wz at *
        obtain ⟨pb, hpb⟩ : ∃ pb, pb = wr.heap.size := ⟨_, rfl⟩
        rw [← hpb] at HZ ⊢
        clear hwz hpb TN
        refine hK.out _ _ (HS.out _ HBZ.out) (fun hHeld => ?_)
        clear hK K hHeld
        try simp only [Act.put, List.setIfInBounds_toArray, List.set_cons_zero, List.set_cons_succ]
        refine wpAnyH_done (by kernel_rfl) ?_ _
        have HSZZ : Hid (w2.heap.size ≤ wz.heap.size) := Nat.le_trans HSZ.out HBZ.out.size
        obtain ⟨n0, n1, _, _, _, _⟩ := HZ.out.every
        have hsg := rsign_calls (HRZ.out.arg HZB.out) (by omega)
        by_cases hcv0 : cv = 0
        · have hs0 : sg cv = 0 := by rw [hcv0]; rfl
          rw [hs0] at hsg
          clear hs0
          go_wp2_with fail
          refine hsg.mono ?_
          rintro e w7 ⟨rfl, hb7⟩
          have HB7 := hide (bafter HBZ.out hb7 (Nat.le_refl _))
          have HC0 := hide hcv0
          clear hsg hb7 n0 n1 hcv0
          go_wp2
          go_roundw
          case rel =>
            refine ⟨i + 1, X, _, _, by omega, by go_num, HJ.out.below HB7.out (fun b hb1 hb2 => (HB7.out.block b (by have := HSZ.out; omega)).trans (HJ.out.oth b hb1 hb2)), ?_, Nat.le_trans HSZ.out HB7.out.size, bafter HBW.out HB7.out (Nat.le_refl _)⟩
            rw [HTK.out, nfOf_append, nfOf_one, HCV.out, if_pos HC0.out, List.append_nil]
            exact HPS.out
          case measure => simp [RowKit.intOf]; omega
        · have hs0 : (sg cv == 0) = false := sg_not0 hcv0
          have hs1 : (sg cv != 0) = true := by rw [bne, hs0]; rfl
          generalize sg cv = sv at *
          go_wp2_with fail
          refine hsg.mono ?_
          rintro e w7 ⟨rfl, hb7⟩
          have HB7 := hide (bafter HBZ.out hb7 (Nat.le_refl _))
          have HC0 := hide hcv0
          have HZ7 := hide (HZ.out.keep hb7)
          have HR7 := hide (HRZ.out.below hb7)
          have HJ7 := hide (HJ.out.below HB7.out (fun b hb1 hb2 => (HB7.out.block b (by have := HSZ.out; omega)).trans (HJ.out.oth b hb1 hb2)))
          have HBW7 := hide (bafter HBW.out HB7.out (Nat.le_refl _))
          have HSZ7 : Hid (w2.heap.size ≤ w7.heap.size) := Nat.le_trans HSZ.out HB7.out.size
          have HS8 : Hid (∀ Y : World, Below w7.heap.size w7 Y → Y.cell? ⟨lb, lo + i, none⟩ = some (.int .i64 x) ∧ Y.cell? ⟨pb, 0, none⟩ = some (.bool rb) ∧ Y.cell? ⟨pb, 1, none⟩ = some (.slice ra rL rc)) := fun Y hY => by
            have h9 := (hY.cell (p := ⟨lb, lo + i, none⟩) (by have := HLB.out; have := HSZ7.out; show lb < _; omega)).trans ((HB7.out.cell (p := ⟨lb, lo + i, none⟩) (block_lt_of_cell HCX.out)).trans HCX.out)
            exact ⟨h9, (HZ7.out.keep hY).c0, (HZ7.out.keep hY).c1⟩
          clear hsg hb7 n0 n1 hcv0
          go_upto_region 8 with fail
          refine wp_region_held_drew (S := fun Y : World => Y.cell? ⟨lb, lo + i, none⟩ = some (.int .i64 x) ∧ Y.cell? ⟨pb, 0, none⟩ = some (.bool rb) ∧ Y.cell? ⟨pb, 1, none⟩ = some (.slice ra rL rc)) (by kernel_rfl) ?_ (fun hHeld => ?_)
          · exact HS8.out _ (by (first | exact (Below.refl _ _).drew | exact Below.refl _ _))
          refine takeD (i := 0) (v := ?v510) (some 28) rfl (by kernel_rfl) (by kernel_rfl) (by kernel_rfl) (fun _ _ _ h => h) (Or.inl ⟨by rfl, ?hy510⟩) (by assumption) (by rfl) ?rest510
          case hy510 => first | (intro w hSw; (try dsimp only at hSw); obtain ⟨q0, q1, q2⟩ := hSw; go_simp; done) | (intro w hSw; (try dsimp only at hSw); obtain ⟨q0, q1, q2⟩ := hSw; go_simp; with_reducible rfl)
          try simp only [Act.put, List.setIfInBounds_toArray, List.set_cons_zero, List.set_cons_succ]
          refine takeD (i := 2) (v := ?v511) (some 30) rfl (by kernel_rfl) (by kernel_rfl) (by kernel_rfl) (fun _ _ _ h => h) (Or.inl ⟨by rfl, ?hy511⟩) (by assumption) (by rfl) ?rest511
          case hy511 => first | (intro w hSw; (try dsimp only at hSw); obtain ⟨q0, q1, q2⟩ := hSw; go_simp; done) | (intro w hSw; (try dsimp only at hSw); obtain ⟨q0, q1, q2⟩ := hSw; go_simp; with_reducible rfl)
          try simp only [Act.put, List.setIfInBounds_toArray, List.set_cons_zero, List.set_cons_succ]
          refine takeD (i := 3) (v := ?v512) (some 31) rfl (by kernel_rfl) (by kernel_rfl) (by kernel_rfl) (fun _ _ _ h => h) (Or.inl ⟨by rfl, ?hy512⟩) (by assumption) (by rfl) ?rest512
          case hy512 => first | (intro w hSw; (try dsimp only at hSw); obtain ⟨q0, q1, q2⟩ := hSw; go_simp; done) | (intro w hSw; (try dsimp only at hSw); obtain ⟨q0, q1, q2⟩ := hSw; go_simp; with_reducible rfl)
          try simp only [Act.put, List.setIfInBounds_toArray, List.set_cons_zero, List.set_cons_succ]
          refine takeD (i := 4) (v := ?v513) (some 32) rfl (by kernel_rfl) (by kernel_rfl) (by kernel_rfl) (fun _ _ _ h => h) (Or.inl ⟨by rfl, ?hy513⟩) (by assumption) (by rfl) ?rest513
          case hy513 => first | (intro w hSw; (try dsimp only at hSw); obtain ⟨q0, q1, q2⟩ := hSw; go_simp; done) | (intro w hSw; (try dsimp only at hSw); obtain ⟨q0, q1, q2⟩ := hSw; go_simp; with_reducible rfl)
          try simp only [Act.put, List.setIfInBounds_toArray, List.set_cons_zero, List.set_cons_succ]
          refine takeD (i := 5) (v := ?v514) (some 33) rfl (by kernel_rfl) (by kernel_rfl) (by kernel_rfl) (fun _ _ _ h => h) (Or.inl ⟨by rfl, ?hy514⟩) (by assumption) (by rfl) ?rest514
          case hy514 => first | (intro w hSw; (try dsimp only at hSw); obtain ⟨q0, q1, q2⟩ := hSw; go_simp; done) | (intro w hSw; (try dsimp only at hSw); obtain ⟨q0, q1, q2⟩ := hSw; go_simp; with_reducible rfl)
          try simp only [Act.put, List.setIfInBounds_toArray, List.set_cons_zero, List.set_cons_succ]
          refine takeD (i := 6) (v := ?v515) (some 34) rfl (by kernel_rfl) (by kernel_rfl) (by kernel_rfl) (fun _ _ _ h => h) (Or.inl ⟨by rfl, ?hy515⟩) (by assumption) (by rfl) ?rest515
          case hy515 => first | (intro w hSw; (try dsimp only at hSw); obtain ⟨q0, q1, q2⟩ := hSw; go_simp; done) | (intro w hSw; (try dsimp only at hSw); obtain ⟨q0, q1, q2⟩ := hSw; go_simp; with_reducible rfl)
          try simp only [Act.put, List.setIfInBounds_toArray, List.set_cons_zero, List.set_cons_succ]
          refine takeD (i := 7) (v := ?v516) (some 35) rfl (by kernel_rfl) (by kernel_rfl) (by kernel_rfl) (fun _ _ _ h => h) (Or.inl ⟨by rfl, ?hy516⟩) (by assumption) (by rfl) ?rest516
          case hy516 => first | (intro w hSw; (try dsimp only at hSw); obtain ⟨q0, q1, q2⟩ := hSw; go_simp; done) | (intro w hSw; (try dsimp only at hSw); obtain ⟨q0, q1, q2⟩ := hSw; go_simp; with_reducible rfl)
          try simp only [Act.put, List.setIfInBounds_toArray, List.set_cons_zero, List.set_cons_succ]
          refine wpAnyH_ready (rs := [1, 8]) (by kernel_rfl) (by simp) ?_
          refine AllReadyH.cons rfl (fun K hK => ?_) (AllReadyH.cons rfl (fun K hK => ?_) AllReadyH.nil)
          · have u0 := (HJ7.out.box.keep ((Below.refl _ w7).drew)).c2
            go_simp
            refine hK.out _ _ (HS8.out _ ((Below.refl _ _).drew)) (fun hHeld => ?_)
            clear hK K
            try simp only [Act.put, List.setIfInBounds_toArray, List.set_cons_zero, List.set_cons_succ]
            clear u0
            refine wpAnyH_ready (rs := [8]) (by kernel_rfl) (by simp) ?_
            refine AllReadyH.cons rfl (fun K hK => ?_) AllReadyH.nil
            go_simp
            have hbl := bel w7 (.cells #[.int .i64 x, .bool rb, .slice ra rL rc] 79)
            have HB5 : Hid (Below w7.heap.size w7 ((w7.alloc (.cells #[.int .i64 x, .bool rb, .slice ra rL rc] 79)).drew)) := hbl.drew
            have HRL := hide ((row_litQ w7 x rb (.slice ra rL rc) cv).below ((Below.refl _ _).drew))
            clear hbl
            generalize hw5 : (w7.alloc (.cells #[.int .i64 x, .bool rb, .slice ra rL rc] 79)).drew = w5 at *
            clear hw5
            refine hK.out _ _ (HS8.out _ HB5.out) (fun hHeld => ?_)
            clear hK K hHeld
            try simp only [Act.put, List.setIfInBounds_toArray, List.set_cons_zero, List.set_cons_succ]
            obtain ⟨v6, w6, hrun6, ho6, hg6, ha6, hk6⟩ := run_appQ w5 w2.heap.size 33 _ X (HJ7.out.own.below HB5.out) _ [((x, rb, .slice ra rL rc, cv) : Pt)] HRL.out (fun m hm => by simp at hm; subst hm; rfl) (by have h1 := congrArg List.length HPS.out; have h2 := List.length_filter_le (fun p : Int × Int => decide (p.2 ≠ 0)) ((L.take i).map fun x => (x, cf x (ps M))); have h3 := HLK.out; simp only [ps_length, nfOf] at h1; simp only [List.length_map, List.length_take] at h2; simp only [List.length_cons, List.length_nil]; omega) (Nat.le_trans HSZ7.out HB5.out.size)
            obtain ⟨oa6, oc6, rfl, _, _⟩ := ho6.len
            have hown : ∀ b, b < w2.heap.size → (Value.slice oa X.length oc).ownBlock ≠ some b := fun b hb e => by
              have := (HJ7.out.own.lt e).1
              omega
            have hstep := HJ7.out.step (p := (x, rb, .slice ra rL rc, cv)) HB5.out ho6 hg6 hk6 ⟨HRGX.out, HR7.out.below HB5.out⟩ (fun W9 h9 b hb1 hb2 => (h9 b hb1 (hown b hb2) (by have := HSZ7.out; omega)).trans (HJ7.out.oth b hb1 hb2))
            have hpb : pb ≠ w1.heap.size := by
              intro e
              have h2 := HZ7.out
              rw [e] at h2
              exact absurd (HJ7.out.box.symm.trans h2) (by simp)
            have hl8 := hstep.2.2.1 lb HLNE.out (hown lb HLB.out) (by have := HLB.out; have := HSZ7.out; omega)
            have hp8 := hstep.2.2.1 pb hpb (HJ7.out.own.apart HZ7.out (by decide)) HZ7.out.lt'
            have hlc : w7.cell? ⟨lb, lo + i, none⟩ = some (.int .i64 x) := (HS8.out w7 (Below.refl _ _)).1
            have HS6 : Hid (let Y := w6; Y.cell? ⟨lb, lo + i, none⟩ = some (.int .i64 x) ∧ Y.cell? ⟨pb, 0, none⟩ = some (.bool rb) ∧ Y.cell? ⟨pb, 1, none⟩ = some (.slice ra rL rc)) := by
              have h1 : Two w6 pb (.bool rb) (.slice ra rL rc) 32 := hp8.2.trans HZ7.out
              exact ⟨(World.cell?_of_block (a := ⟨lb, lo + i, none⟩) hl8.2).trans hlc, h1.c0, h1.c1⟩
            have HS7 : Hid (let Y := w6.setCell ⟨w1.heap.size, 2, none⟩ (.slice oa6 (X ++ [((x, rb, .slice ra rL rc, cv) : Pt)]).length oc6); Y.cell? ⟨lb, lo + i, none⟩ = some (.int .i64 x) ∧ Y.cell? ⟨pb, 0, none⟩ = some (.bool rb) ∧ Y.cell? ⟨pb, 1, none⟩ = some (.slice ra rL rc)) := by
              have h1 : Two (w6.setCell ⟨w1.heap.size, 2, none⟩ (.slice oa6 (X ++ [((x, rb, .slice ra rL rc, cv) : Pt)]).length oc6)) pb (.bool rb) (.slice ra rL rc) 32 := hp8.1.trans HZ7.out
              exact ⟨(World.cell?_of_block (a := ⟨lb, lo + i, none⟩) hl8.1).trans hlc, h1.c0, h1.c1⟩
            have HSTEP := hide hstep
            have HBF := hide (hstep.2.2.2 w.heap.size w HB2.out.size (by have := HN1.out; omega) HBW7.out (Nat.le_refl _))
            have HSF : Hid (w2.heap.size ≤ (w6.setCell ⟨w1.heap.size, 2, none⟩ (.slice oa6 (X ++ [((x, rb, .slice ra rL rc, cv) : Pt)]).length oc6)).heap.size) := by
              have h1 := hg6.size
              have h2 := HB5.out.size
              have h3 := HSZ7.out
              show _ ≤ _
              simp
              omega
            obtain ⟨y0, y1, y2, y3, y4, y5⟩ := hstep.2.1.every
            generalize hxl : (X ++ [((x, rb, .slice ra rL rc, cv) : Pt)]).length = xl at *
            have HXL := hide hxl
            clear hstep ho6 hg6 ha6 hk6 hxl hl8 hp8 hlc hown hpb
            refine wpAnyH_ready (rs := [9]) (by kernel_rfl) (by simp) ?_
            refine AllReadyH.cons rfl (fun K hK => ?_) AllReadyH.nil
            refine Lib.wp_append_run _ _ _ _ _ rfl _ _ rfl rfl _ _ hrun6 ?_
            clear hrun6
            refine hK.out _ _ (HS6.out) (fun hHeld => ?_)
            clear hK K
            try simp only [Act.put, List.setIfInBounds_toArray, List.set_cons_zero, List.set_cons_succ]
            refine takeD (i := 10) (v := ?v517) (some 38) rfl (by kernel_rfl) (by kernel_rfl) (by kernel_rfl) (fun _ _ _ h => h) (Or.inl ⟨by rfl, ?hy517⟩) (by assumption) (by rfl) ?rest517
            case hy517 => first | (intro w hSw; (try dsimp only at hSw); obtain ⟨q0, q1, q2⟩ := hSw; go_simp; done) | (intro w hSw; (try dsimp only at hSw); obtain ⟨q0, q1, q2⟩ := hSw; go_simp; with_reducible rfl)
            try simp only [Act.put, List.setIfInBounds_toArray, List.set_cons_zero, List.set_cons_succ]
            refine wpAnyH_ready (rs := [11]) (by kernel_rfl) (by simp) ?_
            refine AllReadyH.cons rfl (fun K hK => ?_) AllReadyH.nil
            go_simp
            refine hK.out _ _ (HS7.out) (fun hHeld => ?_)
            clear hK K hHeld
            try simp only [Act.put, List.setIfInBounds_toArray, List.set_cons_zero, List.set_cons_succ]
            refine wpAnyH_done (by kernel_rfl) ?_ _
            clear y0 y1 y2 y3 y4 y5
            go_wp2
            go_roundw
            case rel =>
              have e9 := HXL.out
              subst e9
              refine ⟨i + 1, X ++ [((x, rb, .slice ra rL rc, cv) : Pt)], _, _, by omega, by go_num, HSTEP.out.1, ?_, HSF.out, HBF.out⟩
              rw [HTK.out, nfOf_append, nfOf_one, HCV.out, if_neg HC0.out, ps_append, HPS.out]
              rfl
            case measure => simp [RowKit.intOf]; omega
          · go_simp
            have hbl := bel w7 (.cells #[.int .i64 x, .bool rb, .slice ra rL rc] 79)
            have HB5 : Hid (Below w7.heap.size w7 ((w7.alloc (.cells #[.int .i64 x, .bool rb, .slice ra rL rc] 79)).drew)) := hbl.drew
            have HRL := hide ((row_litQ w7 x rb (.slice ra rL rc) cv).below ((Below.refl _ _).drew))
            clear hbl
            generalize hw5 : (w7.alloc (.cells #[.int .i64 x, .bool rb, .slice ra rL rc] 79)).drew = w5 at *
            clear hw5
            refine hK.out _ _ (HS8.out _ HB5.out) (fun hHeld => ?_)
            clear hK K hHeld
            try simp only [Act.put, List.setIfInBounds_toArray, List.set_cons_zero, List.set_cons_succ]
            have u0 := (HJ7.out.box.keep HB5.out).c2
            refine wpAnyH_ready (rs := [1]) (by kernel_rfl) (by simp) ?_
            refine AllReadyH.cons rfl (fun K hK => ?_) AllReadyH.nil
            go_simp
            refine hK.out _ _ (HS8.out _ HB5.out) (fun hHeld => ?_)
            clear hK K hHeld
            try simp only [Act.put, List.setIfInBounds_toArray, List.set_cons_zero, List.set_cons_succ]
            clear u0
            obtain ⟨v6, w6, hrun6, ho6, hg6, ha6, hk6⟩ := run_appQ w5 w2.heap.size 33 _ X (HJ7.out.own.below HB5.out) _ [((x, rb, .slice ra rL rc, cv) : Pt)] HRL.out (fun m hm => by simp at hm; subst hm; rfl) (by have h1 := congrArg List.length HPS.out; have h2 := List.length_filter_le (fun p : Int × Int => decide (p.2 ≠ 0)) ((L.take i).map fun x => (x, cf x (ps M))); have h3 := HLK.out; simp only [ps_length, nfOf] at h1; simp only [List.length_map, List.length_take] at h2; simp only [List.length_cons, List.length_nil]; omega) (Nat.le_trans HSZ7.out HB5.out.size)
            obtain ⟨oa6, oc6, rfl, _, _⟩ := ho6.len
            have hown : ∀ b, b < w2.heap.size → (Value.slice oa X.length oc).ownBlock ≠ some b := fun b hb e => by
              have := (HJ7.out.own.lt e).1
              omega
            have hstep := HJ7.out.step (p := (x, rb, .slice ra rL rc, cv)) HB5.out ho6 hg6 hk6 ⟨HRGX.out, HR7.out.below HB5.out⟩ (fun W9 h9 b hb1 hb2 => (h9 b hb1 (hown b hb2) (by have := HSZ7.out; omega)).trans (HJ7.out.oth b hb1 hb2))
            have hpb : pb ≠ w1.heap.size := by
              intro e
              have h2 := HZ7.out
              rw [e] at h2
              exact absurd (HJ7.out.box.symm.trans h2) (by simp)
            have hl8 := hstep.2.2.1 lb HLNE.out (hown lb HLB.out) (by have := HLB.out; have := HSZ7.out; omega)
            have hp8 := hstep.2.2.1 pb hpb (HJ7.out.own.apart HZ7.out (by decide)) HZ7.out.lt'
            have hlc : w7.cell? ⟨lb, lo + i, none⟩ = some (.int .i64 x) := (HS8.out w7 (Below.refl _ _)).1
            have HS6 : Hid (let Y := w6; Y.cell? ⟨lb, lo + i, none⟩ = some (.int .i64 x) ∧ Y.cell? ⟨pb, 0, none⟩ = some (.bool rb) ∧ Y.cell? ⟨pb, 1, none⟩ = some (.slice ra rL rc)) := by
              have h1 : Two w6 pb (.bool rb) (.slice ra rL rc) 32 := hp8.2.trans HZ7.out
              exact ⟨(World.cell?_of_block (a := ⟨lb, lo + i, none⟩) hl8.2).trans hlc, h1.c0, h1.c1⟩
            have HS7 : Hid (let Y := w6.setCell ⟨w1.heap.size, 2, none⟩ (.slice oa6 (X ++ [((x, rb, .slice ra rL rc, cv) : Pt)]).length oc6); Y.cell? ⟨lb, lo + i, none⟩ = some (.int .i64 x) ∧ Y.cell? ⟨pb, 0, none⟩ = some (.bool rb) ∧ Y.cell? ⟨pb, 1, none⟩ = some (.slice ra rL rc)) := by
              have h1 : Two (w6.setCell ⟨w1.heap.size, 2, none⟩ (.slice oa6 (X ++ [((x, rb, .slice ra rL rc, cv) : Pt)]).length oc6)) pb (.bool rb) (.slice ra rL rc) 32 := hp8.1.trans HZ7.out
              exact ⟨(World.cell?_of_block (a := ⟨lb, lo + i, none⟩) hl8.1).trans hlc, h1.c0, h1.c1⟩
            have HSTEP := hide hstep
            have HBF := hide (hstep.2.2.2 w.heap.size w HB2.out.size (by have := HN1.out; omega) HBW7.out (Nat.le_refl _))
            have HSF : Hid (w2.heap.size ≤ (w6.setCell ⟨w1.heap.size, 2, none⟩ (.slice oa6 (X ++ [((x, rb, .slice ra rL rc, cv) : Pt)]).length oc6)).heap.size) := by
              have h1 := hg6.size
              have h2 := HB5.out.size
              have h3 := HSZ7.out
              show _ ≤ _
              simp
              omega
            obtain ⟨y0, y1, y2, y3, y4, y5⟩ := hstep.2.1.every
            generalize hxl : (X ++ [((x, rb, .slice ra rL rc, cv) : Pt)]).length = xl at *
            have HXL := hide hxl
            clear hstep ho6 hg6 ha6 hk6 hxl hl8 hp8 hlc hown hpb
            refine wpAnyH_ready (rs := [9]) (by kernel_rfl) (by simp) ?_
            refine AllReadyH.cons rfl (fun K hK => ?_) AllReadyH.nil
            refine Lib.wp_append_run _ _ _ _ _ rfl _ _ rfl rfl _ _ hrun6 ?_
            clear hrun6
            refine hK.out _ _ (HS6.out) (fun hHeld => ?_)
            clear hK K
            try simp only [Act.put, List.setIfInBounds_toArray, List.set_cons_zero, List.set_cons_succ]
            refine takeD (i := 10) (v := ?v518) (some 38) rfl (by kernel_rfl) (by kernel_rfl) (by kernel_rfl) (fun _ _ _ h => h) (Or.inl ⟨by rfl, ?hy518⟩) (by assumption) (by rfl) ?rest518
            case hy518 => first | (intro w hSw; (try dsimp only at hSw); obtain ⟨q0, q1, q2⟩ := hSw; go_simp; done) | (intro w hSw; (try dsimp only at hSw); obtain ⟨q0, q1, q2⟩ := hSw; go_simp; with_reducible rfl)
            try simp only [Act.put, List.setIfInBounds_toArray, List.set_cons_zero, List.set_cons_succ]
            refine wpAnyH_ready (rs := [11]) (by kernel_rfl) (by simp) ?_
            refine AllReadyH.cons rfl (fun K hK => ?_) AllReadyH.nil
            go_simp
            refine hK.out _ _ (HS7.out) (fun hHeld => ?_)
            clear hK K hHeld
            try simp only [Act.put, List.setIfInBounds_toArray, List.set_cons_zero, List.set_cons_succ]
            refine wpAnyH_done (by kernel_rfl) ?_ _
            clear y0 y1 y2 y3 y4 y5
            go_wp2
            go_roundw
            case rel =>
              have e9 := HXL.out
              subst e9
              refine ⟨i + 1, X ++ [((x, rb, .slice ra rL rc, cv) : Pt)], _, _, by omega, by go_num, HSTEP.out.1, ?_, HSF.out, HBF.out⟩
              rw [HTK.out, nfOf_append, nfOf_one, HCV.out, if_neg HC0.out, ps_append, HPS.out]
              rfl
            case measure => simp [RowKit.intOf]; omega
    · obtain rfl : i = Lk := by omega
      have d1 : ¬ (i : Int) < (i : Int) := by omega
      obtain ⟨z0, z1, z2, f0, f1, f2⟩ := HTZr.out.every
      obtain ⟨x0, x1, x2, _, _, _⟩ := HJ.out.box.every
      have HTR : Hid (RTerm wr (.agg #[.bool nb, .slice na nL nc, .slice oa X.length oc]) c X) := ⟨_, _, _, _, _, _, _, rfl, HJ.out.num, HJ.out.own.row, HJ.out.good⟩
      generalize hxl : X.length = xl at *
      clear hxl
      go_wp2
      refine bodyPost_ret (results_rterm rfl rfl (HTZr.out.put _ _ _)) rfl ?_
      refine ⟨_, X, rfl, HTR.out.but (HTZr.out.but _ _ _), ?_, put3_below HBW.out (by omega) _ _ _⟩
      show NF (ps X) ∧ _
      rw [HPS.out, List.take_of_length_le (by rw [HLK.out]; omega)]
      exact ⟨nfOf_nf HVO.out.rise, nfOf_cf HVO.out⟩

end Go.Proofs.YtbjolmgobeagoaaGreatDoor
