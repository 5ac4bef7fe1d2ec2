/- Sums (layer 11), text 4: LnREval, LnLaw2. -/
import Derived.Test.YtkdhcpfmlelfcaaGreatDoorLnP3
import Derived.Lib.SmallJoins
namespace Go.Proofs.YtkdhcpfmlelfcaaGreatDoor
set_option linter.unusedVariables false
set_option linter.unusedSimpArgs false
set_option maxRecDepth 100000
open Go Go.RowKit Go.Shelf Go.Lib

theorem lookZ_cons (m : Pt) (L : List Pt) (x : Int) : lookZ (m :: L) x = if m.1 = x then m.2.2.2 else lookZ L x := by
  unfold lookZ lookB
  rw [List.find?_cons]
  by_cases e : m.1 = x
  · rw [if_pos e]
    subst e
    simp
  · have e2 : (m.1 == x) = false := beq_eq_false_iff_ne.2 e
    rw [e2, if_neg e]
theorem lookZ_ps : ∀ {X L : List Pt}, ps X = ps L → lookZ X = lookZ L
  | [], [], _ => rfl
  | [], _ :: _, h => by simp [ps] at h
  | _ :: _, [], h => by simp [ps] at h
  | a :: X, b :: L, h => by
    simp only [ps, List.map_cons, List.cons.injEq, pt, Prod.mk.injEq] at h
    funext x
    rw [lookZ_cons, lookZ_cons, h.1.1, h.1.2, lookZ_ps (X := X) (L := L) h.2]
theorem lookZ_step {X : List Pt} {i : Nat} {m : Pt} (h : X[i]? = some m) (x : Int) : lookZ (X.drop i) x = if m.1 = x then m.2.2.2 else lookZ (X.drop (i + 1)) x := by
  obtain ⟨h1, h2⟩ := List.getElem?_eq_some_iff.1 h
  rw [List.drop_eq_getElem_cons h1, h2, lookZ_cons]
theorem lookZ_bndT {L : List Pt} {k : Nat} (hB : BndT k (ps L)) (x : Int) : (lookZ L x).natAbs < 10 ^ k := by
  unfold lookZ
  cases h : lookB L x with
  | none => exact Nat.pow_pos (by decide)
  | some m => exact hB (pt m) (List.mem_map.2 ⟨m, (look_mem h).1, rfl⟩)
theorem ev_bndT {k j : Nat} {f : Int → Int} (hf : ∀ x, (f x).natAbs < 10 ^ j) : ∀ {l : Ps}, BndT k l → (ev f l).natAbs < 10 ^ (k + j + l.length)
  | [], _ => Nat.pow_pos (by decide)
  | p :: l, h => by
    have h1 := ev_bndT hf (l := l) (fun q hq => h q (by simp [hq]))
    have h2 := ten_mul (h p (by simp)) (hf p.1)
    rw [ev_cons, List.length_cons, ← Nat.add_assoc]
    exact ten_add (ten_up h2 (by omega)) h1

def RValE (w : World) (z : Int) (e : Ending) (w' : World) : Prop := ∃ rv, e = .returned rv ∧ NRes w' rv z ∧ Below w.heap.size w w'

set_option maxHeartbeats 4000000 in
theorem rvalue_calls {w : World} {pa : Option Addr} {pl pc : Nat} {X : List Pt} (hR : RowP w (.slice pa pl pc) X) (hG : GoodN w X) (x : Int) (hl : X.length ≤ 1000) :
    Calls Tryz.prog 66 #[.slice pa pl pc, .int .i64 x] w fun e w' => RValE w (lookZ X x) e w' := by
  obtain ⟨_, _, e, _, _, h3⟩ := hR
  simp only [Value.slice.injEq] at e
  obtain ⟨rfl, rfl, rfl⟩ := e
  generalize hLn : X.length = Ln at *
  have HLN := hide hLn
  have H3 := hide h3
  have HG := hide hG
  have TZ := hide (Two.new w (.bool false) (.slice none 0 0) 32)
  have HBA := hide (bel w (.cells #[.bool false, .slice none 0 0] 32))
  clear hLn h3 hG
  go_enter Tryz.func66, Tryz.ntmps66
  go_wp2
  go_loopw [5] (fun iv wr => ∃ i : Nat, i ≤ Ln ∧ iv = .int .i64 (i : Int) ∧ lookZ X x = lookZ (X.drop i) x ∧ Two wr w.heap.size (.bool false) (.slice none 0 0) 32 ∧ Below w.heap.size w wr) (fun iv _ => Ln - (RowKit.intOf iv).toNat)
  case atStart => exact ⟨0, Nat.zero_le _, rfl, rfl, TZ.out, HBA.out⟩
  case round =>
    obtain ⟨i, hi, rfl, hlz, htz, hbw⟩ := hrel
    have HLZ := hide hlz
    have HTZ := hide htz
    have HBW := hide hbw
    clear hlz
    by_cases hlt : i < Ln
    · obtain ⟨⟨vr, neg, mv, z⟩, hm⟩ : ∃ m, X[i]? = some m := ⟨_, List.getElem?_eq_getElem (by rw [HLN.out]; exact hlt)⟩
      obtain ⟨ma, mL, mc, e⟩ := HG.out.sl _ (List.mem_of_getElem? hm)
      simp only at e
      subst e
      obtain ⟨b, o, rfl, hc⟩ := H3.out i _ hm
      obtain ⟨x0, x1, x2⟩ := hc.below hbw
      dsimp only at x0 x1 x2
      have d1 : (i : Int) < (Ln : Int) := by omega
      have d0 : (0 : Int) ≤ (i : Int) := by omega
      have HM := hide hm
      have HGM := hide ((HG.out _ (List.mem_of_getElem? hm)).2.below hbw)
      obtain ⟨z0, z1, z2, z3, _, _⟩ := htz.every
      clear hm hc hbw htz
      by_cases hv : vr = x
      · subst hv
        go_wp2
        refine bodyPost_ret (results_num rfl rfl (HTZ.out.put _ _)) rfl ?_
        refine ⟨_, rfl, ?_, below_put HBW.out (Nat.le_refl _) _ _⟩
        rw [HLZ.out, lookZ_step HM.out, if_pos rfl]
        exact HGM.out.put HTZ.out _ _
      · have qe : (vr == x) = false := beq_eq_false_iff_ne.2 hv
        have HV := hide hv
        clear hv z0 z1 z2 z3
        go_wp2
        go_roundw
        case rel => exact ⟨i + 1, by omega, by go_num, by rw [HLZ.out, lookZ_step HM.out, if_neg HV.out], HTZ.out, HBW.out⟩
        case measure => simp [RowKit.intOf]; omega
    · obtain rfl : i = Ln := by omega
      have d1 : ¬ (i : Int) < (i : Int) := by omega
      obtain ⟨z0, z1, z2, z3, _, _⟩ := htz.every
      clear htz hbw
      go_wp2
      refine bodyPost_ret (results_num rfl rfl (HTZ.out.put _ _)) rfl ?_
      refine ⟨_, rfl, ?_, below_put HBW.out (Nat.le_refl _) _ _⟩
      rw [HLZ.out, List.drop_of_length_le (by rw [HLN.out]; omega)]
      exact nres_zero _

set_option maxHeartbeats 8000000 in
theorem reval_calls {K : Nat} {w : World} {v : Value} {c : Int} {M X : List Pt} {xa : Option Addr} {xl xc : Nat} (h : RTerm w v c M) (hc : c.natAbs < 10 ^ K) (hb : BndT K (ps M)) (hl : M.length ≤ 100) (hR : RowP w (.slice xa xl xc) X) (hG : GoodN w X) (hX : BndT K (ps X)) (hxl : X.length ≤ 1000) (hK : K ≤ 200) :
    Calls Tryz.prog 37 #[v, .slice xa xl xc] w fun e w' => RValE w (c + ev (lookZ X) (ps M)) e w' := by
  obtain ⟨cn, ca, cL, cc, pa, pl, pc, rfl, hnum, hrow0, hgd0⟩ := h
  have hpl := hrow0
  obtain ⟨_, _, e, _, _, _⟩ := hpl
  simp only [Value.slice.injEq] at e
  obtain ⟨rfl, rfl, rfl⟩ := e
  generalize hLn : M.length = Ln at *
  have HLN := hide hLn
  have ta := ((Thr.new w (.bool cn) (.slice ca cL cc) (.slice pa Ln pc) 35).alloc (.cells #[.bool false, .slice none 0 0] 32)).alloc (.cells #[.bool cn, .slice ca cL cc] 32)
  have tz := (Two.new1 w (.cells #[.bool cn, .slice ca cL cc, .slice pa Ln pc] 35) (.bool false) (.slice none 0 0) 32).alloc (.cells #[.bool cn, .slice ca cL cc] 32)
  have tn := Two.new ((w.alloc (.cells #[.bool cn, .slice ca cL cc, .slice pa Ln pc] 35)).alloc (.cells #[.bool false, .slice none 0 0] 32)) (.bool cn) (.slice ca cL cc) 32
  rw [World.size_alloc, World.size_alloc] at tn
  have hba := bel3 w (.cells #[.bool cn, .slice ca cL cc, .slice pa Ln pc] 35) (.cells #[.bool false, .slice none 0 0] 32) (.cells #[.bool cn, .slice ca cL cc] 32)
  generalize hwA : ((w.alloc (.cells #[.bool cn, .slice ca cL cc, .slice pa Ln pc] 35)).alloc (.cells #[.bool false, .slice none 0 0] 32)).alloc (.cells #[.bool cn, .slice ca cL cc] 32) = wA at *
  obtain ⟨K3, hK3⟩ : ∃ K3, K3 = K + K + 101 := ⟨_, rfl⟩
  have hK4 : K3 ≤ 600 := by omega
  have HWA := hide hwA
  have TA := hide ta
  have TZ := hide tz
  have TN := hide tn
  have HBA := hide hba
  have HNM := hide (hnum.below hba)
  have HRW := hide (hrow0.below hba)
  have HGW := hide (hgd0.below hba)
  have HRX0 := hide (hR.below hba)
  have HGX0 := hide (hG.below hba)
  have HBD := hide hb
  have HCB := hide hc
  have HXB := hide hX
  have HXL := hide hxl
  have HK3 := hide hK3
  clear hwA ta tz tn hba hnum hrow0 hgd0 hR hG hb hc hX hLn hxl hK3
  go_enter Tryz.func37, Tryz.ntmps37
  go_upto_region 2 with fail
  rw [HWA.out]
  go_wp2
  go_loopw [6] (fun iv wr => ∃ (i : Nat) (sn : Bool) (sa : Option Addr) (sL sc : Nat), i ≤ Ln ∧ iv = .int .i64 (i : Int) ∧ Two wr (w.heap.size + 1 + 1) (.bool sn) (.slice sa sL sc) 32 ∧ NRes wr (.agg #[.bool sn, .slice sa sL sc]) (c + ev (lookZ X) (ps (M.take i))) ∧ Thr wr w.heap.size (.bool cn) (.slice ca cL cc) (.slice pa Ln pc) 35 ∧ Two wr (w.heap.size + 1) (.bool false) (.slice none 0 0) 32 ∧ RowP wr (.slice pa Ln pc) M ∧ GoodN wr M ∧ RowP wr (.slice xa xl xc) X ∧ GoodN wr X ∧ Below w.heap.size w wr) (fun iv _ => Ln - (RowKit.intOf iv).toNat)
  case atStart =>
    refine ⟨0, _, _, _, _, Nat.zero_le _, rfl, TN.out, ?_, TA.out, TZ.out, HRW.out, HGW.out, HRX0.out, HGX0.out, HBA.out⟩
    show NRes _ _ (c + 0)
    rw [Int.add_zero]
    exact HNM.out
  case round =>
    obtain ⟨i, sn, sa, sL, sc, hi, rfl, htn, hrn, hta, htz, hrow, hgd, hrx, hgx, hbw⟩ := hrel
    by_cases hlt : i < Ln
    · obtain ⟨⟨vr, neg, mv, z⟩, hm⟩ : ∃ m, M[i]? = some m := ⟨_, List.getElem?_eq_getElem (by rw [HLN.out]; exact hlt)⟩
      obtain ⟨ma, mL, mc, e⟩ := hgd.sl _ (List.mem_of_getElem? hm)
      simp only at e
      subst e
      have HROW := hide hrow
      obtain ⟨_, _, e, _, _, h3⟩ := hrow
      simp only [Value.slice.injEq] at e
      obtain ⟨rfl, eL, rfl⟩ := e
      clear eL
      obtain ⟨b, o, rfl, hc⟩ := h3 i _ hm
      have HC := hide hc
      have d1 : (i : Int) < (Ln : Int) := by omega
      have d0 : (0 : Int) ≤ (i : Int) := by omega
      have HM := hide hm
      have HTN := hide htn
      have HRN := hide hrn
      have HTA := hide hta
      have HTZ := hide htz
      have HGD := hide hgd
      have HRX := hide hrx
      have HGX := hide hgx
      have HBW := hide hbw
      have HZB : Hid (z.natAbs < 10 ^ K) := HBD.out (vr, z) (List.mem_map.2 ⟨_, List.mem_of_getElem? hm, rfl⟩)
      have HVB := hide (lookZ_bndT HXB.out vr)
      have HPB : Hid ((z * lookZ X vr).natAbs < 10 ^ K3) := ten_up (ten_mul HZB.out HVB.out) (by have := HK3.out; omega)
      have HSB : Hid ((c + ev (lookZ X) (ps (M.take i))).natAbs < 10 ^ K3) := by
        have h9 : (ps (M.take i)).length ≤ 100 := by rw [ps_length, List.length_take]; omega
        have h8 := ten_up (ev_bndT (lookZ_bndT HXB.out) (bndT_take (i := i) HBD.out)) (show _ ≤ K + K + 100 by omega)
        exact ten_up (ten_add (ten_up HCB.out (show K ≤ K + K + 100 by omega)) h8) (by have := HK3.out; omega)
      have HEV : Hid (c + ev (lookZ X) (ps (M.take (i + 1))) = c + ev (lookZ X) (ps (M.take i)) + z * lookZ X vr) := by
        show _ = _
        rw [ev_take hm]
        show c + (_ + z * lookZ X vr) = _
        omega
      have HGM := hide (hgd _ (List.mem_of_getElem? hm)).2
      have HVAL := hide (fun (W : World) (h : Below wr.heap.size wr W) => rvalue_calls (hrx.below h) (hgx.below h) vr HXL.out)
      generalize hzl : lookZ X vr = zl at *
      generalize hzs : c + ev (lookZ X) (ps (M.take i)) = zs at *
      clear hm htn hrn hta htz hgd hrx hgx hbw h3 hc hzl hzs
      have HS : Hid (∀ X : World, Below wr.heap.size wr X → X.cell? ⟨w.heap.size, 2, none⟩ = some (.slice (some ⟨b, o, none⟩) Ln pc) ∧ X.cell? ⟨b, o + i * 3, none⟩ = some (.int .i64 vr) ∧ X.cell? ⟨b, o + i * 3 + 1, none⟩ = some (.bool neg) ∧ X.cell? ⟨b, o + i * 3 + 2, none⟩ = some (.slice ma mL mc)) := fun Y hY => by
        obtain ⟨h2, h3, h4⟩ := HC.out.below hY
        exact ⟨(HTA.out.keep hY).c2, h2, h3, h4⟩
      obtain ⟨c0, c1, c2, _, _, _⟩ := HTA.out.every
      go_upto_region 5 with fail
      refine wp_region_held_drew (S := fun X : World => X.cell? ⟨w.heap.size, 2, none⟩ = some (.slice (some ⟨b, o, none⟩) Ln pc) ∧ X.cell? ⟨b, o + i * 3, none⟩ = some (.int .i64 vr) ∧ X.cell? ⟨b, o + i * 3 + 1, none⟩ = some (.bool neg) ∧ X.cell? ⟨b, o + i * 3 + 2, none⟩ = some (.slice ma mL mc)) (by kernel_rfl) ?_ (fun hHeld => ?_)
      · exact HS.out _ (by (first | exact (Below.refl _ _).drew | exact Below.refl _ _))
      refine takeD (i := 1) (v := ?v1) (some 17) rfl (by kernel_rfl) (by kernel_rfl) (by kernel_rfl) (fun _ _ _ h => h) (Or.inl ⟨by rfl, ?hy1⟩) (by assumption) (by rfl) ?rest1
      case hy1 => first | (intro w hSw; (try dsimp only at hSw); obtain ⟨q0, q1, q2, q3⟩ := hSw; go_simp; done) | (intro w hSw; (try dsimp only at hSw); obtain ⟨q0, q1, q2, q3⟩ := hSw; go_simp; with_reducible rfl)
      try simp only [Act.put, List.setIfInBounds_toArray, List.set_cons_zero, List.set_cons_succ]
      refine takeD (i := 2) (v := ?v2) (some 18) rfl (by kernel_rfl) (by kernel_rfl) (by kernel_rfl) (fun _ _ _ h => h) (Or.inl ⟨by rfl, ?hy2⟩) (by assumption) (by rfl) ?rest2
      case hy2 => first | (intro w hSw; (try dsimp only at hSw); obtain ⟨q0, q1, q2, q3⟩ := hSw; go_simp; done) | (intro w hSw; (try dsimp only at hSw); obtain ⟨q0, q1, q2, q3⟩ := hSw; go_simp; with_reducible rfl)
      try simp only [Act.put, List.setIfInBounds_toArray, List.set_cons_zero, List.set_cons_succ]
      refine takeD (i := 3) (v := ?v3) (some 19) rfl (by kernel_rfl) (by kernel_rfl) (by kernel_rfl) (fun _ _ _ h => h) (Or.inl ⟨by rfl, ?hy3⟩) (by assumption) (by rfl) ?rest3
      case hy3 => first | (intro w hSw; (try dsimp only at hSw); obtain ⟨q0, q1, q2, q3⟩ := hSw; go_simp; done) | (intro w hSw; (try dsimp only at hSw); obtain ⟨q0, q1, q2, q3⟩ := hSw; go_simp; with_reducible rfl)
      try simp only [Act.put, List.setIfInBounds_toArray, List.set_cons_zero, List.set_cons_succ]
      refine takeD (i := 4) (v := ?v4) (some 20) rfl (by kernel_rfl) (by kernel_rfl) (by kernel_rfl) (fun _ _ _ h => h) (Or.inl ⟨by rfl, ?hy4⟩) (by assumption) (by rfl) ?rest4
      case hy4 => first | (intro w hSw; (try dsimp only at hSw); obtain ⟨q0, q1, q2, q3⟩ := hSw; go_simp; done) | (intro w hSw; (try dsimp only at hSw); obtain ⟨q0, q1, q2, q3⟩ := hSw; go_simp; with_reducible rfl)
      try simp only [Act.put, List.setIfInBounds_toArray, List.set_cons_zero, List.set_cons_succ]
      refine takeD (i := 5) (v := ?v5) (some 21) rfl (by kernel_rfl) (by kernel_rfl) (by kernel_rfl) (fun _ _ _ h => h) (Or.inl ⟨by rfl, ?hy5⟩) (by assumption) (by rfl) ?rest5
      case hy5 => first | (intro w hSw; (try dsimp only at hSw); obtain ⟨q0, q1, q2, q3⟩ := hSw; go_simp; done) | (intro w hSw; (try dsimp only at hSw); obtain ⟨q0, q1, q2, q3⟩ := hSw; go_simp; with_reducible rfl)
      try simp only [Act.put, List.setIfInBounds_toArray, List.set_cons_zero, List.set_cons_succ]
      refine takeD (i := 6) (v := ?v6) (some 22) rfl (by kernel_rfl) (by kernel_rfl) (by kernel_rfl) (fun _ _ _ h => h) (Or.inl ⟨by rfl, ?hy6⟩) (by assumption) (by rfl) ?rest6
      case hy6 => first | (intro w hSw; (try dsimp only at hSw); obtain ⟨q0, q1, q2, q3⟩ := hSw; go_simp; done) | (intro w hSw; (try dsimp only at hSw); obtain ⟨q0, q1, q2, q3⟩ := hSw; go_simp; with_reducible rfl)
      try simp only [Act.put, List.setIfInBounds_toArray, List.set_cons_zero, List.set_cons_succ]
      refine takeD (i := 7) (v := ?v7) (some 23) rfl (by kernel_rfl) (by kernel_rfl) (by kernel_rfl) (fun _ _ _ h => h) (Or.inl ⟨by rfl, ?hy7⟩) (by assumption) (by rfl) ?rest7
      case hy7 => first | (intro w hSw; (try dsimp only at hSw); obtain ⟨q0, q1, q2, q3⟩ := hSw; go_simp; done) | (intro w hSw; (try dsimp only at hSw); obtain ⟨q0, q1, q2, q3⟩ := hSw; go_simp; with_reducible rfl)
      try simp only [Act.put, List.setIfInBounds_toArray, List.set_cons_zero, List.set_cons_succ]
      refine takeD (i := 8) (v := ?v8) (some 24) rfl (by kernel_rfl) (by kernel_rfl) (by kernel_rfl) (fun _ _ _ h => h) (Or.inl ⟨by rfl, ?hy8⟩) (by assumption) (by rfl) ?rest8
      case hy8 => first | (intro w hSw; (try dsimp only at hSw); obtain ⟨q0, q1, q2, q3⟩ := hSw; go_simp; done) | (intro w hSw; (try dsimp only at hSw); obtain ⟨q0, q1, q2, q3⟩ := hSw; go_simp; with_reducible rfl)
      try simp only [Act.put, List.setIfInBounds_toArray, List.set_cons_zero, List.set_cons_succ]
      refine takeD (i := 9) (v := ?v9) (some 25) rfl (by kernel_rfl) (by kernel_rfl) (by kernel_rfl) (fun _ _ _ h => h) (Or.inl ⟨by rfl, ?hy9⟩) (by assumption) (by rfl) ?rest9
      case hy9 => first | (intro w hSw; (try dsimp only at hSw); obtain ⟨q0, q1, q2, q3⟩ := hSw; go_simp; done) | (intro w hSw; (try dsimp only at hSw); obtain ⟨q0, q1, q2, q3⟩ := hSw; go_simp; with_reducible rfl)
      try simp only [Act.put, List.setIfInBounds_toArray, List.set_cons_zero, List.set_cons_succ]
      refine takeD (i := 10) (v := ?v10) (some 26) rfl (by kernel_rfl) (by kernel_rfl) (by kernel_rfl) (fun _ _ _ h => h) (Or.inl ⟨by rfl, ?hy10⟩) (by assumption) (by rfl) ?rest10
      case hy10 => first | (intro w hSw; (try dsimp only at hSw); obtain ⟨q0, q1, q2, q3⟩ := hSw; go_simp; done) | (intro w hSw; (try dsimp only at hSw); obtain ⟨q0, q1, q2, q3⟩ := hSw; go_simp; with_reducible rfl)
      try simp only [Act.put, List.setIfInBounds_toArray, List.set_cons_zero, List.set_cons_succ]
      refine takeD (i := 11) (v := ?v11) (some 27) rfl (by kernel_rfl) (by kernel_rfl) (by kernel_rfl) (fun _ _ _ h => h) (Or.inl ⟨by rfl, ?hy11⟩) (by assumption) (by rfl) ?rest11
      case hy11 => first | (intro w hSw; (try dsimp only at hSw); obtain ⟨q0, q1, q2, q3⟩ := hSw; go_simp; done) | (intro w hSw; (try dsimp only at hSw); obtain ⟨q0, q1, q2, q3⟩ := hSw; go_simp; with_reducible rfl)
      try simp only [Act.put, List.setIfInBounds_toArray, List.set_cons_zero, List.set_cons_succ]
      refine takeD (i := 12) (v := ?v12) (some 28) rfl (by kernel_rfl) (by kernel_rfl) (by kernel_rfl) (fun _ _ _ h => h) (Or.inl ⟨by rfl, ?hy12⟩) (by assumption) (by rfl) ?rest12
      case hy12 => first | (intro w hSw; (try dsimp only at hSw); obtain ⟨q0, q1, q2, q3⟩ := hSw; go_simp; done) | (intro w hSw; (try dsimp only at hSw); obtain ⟨q0, q1, q2, q3⟩ := hSw; go_simp; with_reducible rfl)
      try simp only [Act.put, List.setIfInBounds_toArray, List.set_cons_zero, List.set_cons_succ]
      refine takeD (i := 13) (v := ?v13) (some 29) rfl (by kernel_rfl) (by kernel_rfl) (by kernel_rfl) (fun _ _ _ h => h) (Or.inl ⟨by rfl, ?hy13⟩) (by assumption) (by rfl) ?rest13
      case hy13 => first | (intro w hSw; (try dsimp only at hSw); obtain ⟨q0, q1, q2, q3⟩ := hSw; go_simp; done) | (intro w hSw; (try dsimp only at hSw); obtain ⟨q0, q1, q2, q3⟩ := hSw; go_simp; with_reducible rfl)
      try simp only [Act.put, List.setIfInBounds_toArray, List.set_cons_zero, List.set_cons_succ]
      refine wpAnyH_ready (rs := [0, 14]) (by kernel_rfl) (by simp) ?_
      refine AllReadyH.cons rfl (fun K hK => ?_) (AllReadyH.cons rfl (fun K hK => ?_) AllReadyH.nil)
      · obtain ⟨s0, s1, _, _, _, _⟩ := (HTN.out.keep (by first | exact (Below.refl _ wr) | exact ((Below.refl _ wr)).drew)).every
        go_simp
        refine hK.out _ _ (HS.out _ (by first | exact (Below.refl _ wr) | exact ((Below.refl _ wr)).drew)) (fun hHeld => ?_)
        clear hK K
        try simp only [Act.put, List.setIfInBounds_toArray, List.set_cons_zero, List.set_cons_succ]
        clear s0 s1
        refine wpAnyH_ready (rs := [14]) (by kernel_rfl) (by simp) ?_
        refine AllReadyH.cons rfl (fun K hK => ?_) AllReadyH.nil
        go_simp
        refine (HVAL.out _ (by first | exact (Below.refl _ wr) | exact ((Below.refl _ wr)).drew)).mono ?_
        rintro e w4 ⟨v4, rfl, hr4, hb4⟩
        obtain ⟨pb, pa4, pL, pk, rfl⟩ := hr4.form
        have HB4 : Hid (Below wr.heap.size wr w4) := bafter (by first | exact (Below.refl _ wr) | exact ((Below.refl _ wr)).drew) hb4 (Nat.le_refl _)
        have HR4 := hide hr4
        clear hr4 hb4 hHeld
        go_wp2_with fail
        refine hK.out _ _ (HS.out _ HB4.out) (fun hHeld => ?_)
        clear hK K
        try simp only [Act.put, List.setIfInBounds_toArray, List.set_cons_zero, List.set_cons_succ]
        refine wpAnyH_ready (rs := [15]) (by kernel_rfl) (by simp) ?_
        refine AllReadyH.cons rfl (fun K hK => ?_) AllReadyH.nil
        go_simp
        refine (rnmul_calls ((HGM.out.below HB4.out).arg HZB.out) (HR4.out.arg HVB.out) (by omega)).mono ?_
        rintro e w5 ⟨v5, rfl, hr5, hb5⟩
        obtain ⟨tb5, ta5, tL5, tk5, rfl⟩ := hr5.form
        have HB5 : Hid (Below wr.heap.size wr w5) := bafter HB4.out hb5 (Nat.le_refl _)
        have HR5 := hide hr5
        clear hr5 hb5 hHeld
        go_wp2_with fail
        refine hK.out _ _ (HS.out _ HB5.out) (fun hHeld => ?_)
        clear hK K
        try simp only [Act.put, List.setIfInBounds_toArray, List.set_cons_zero, List.set_cons_succ]
        refine wpAnyH_ready (rs := [16]) (by kernel_rfl) (by simp) ?_
        refine AllReadyH.cons rfl (fun K hK => ?_) AllReadyH.nil
        go_simp
        refine (rnadd_calls (K := K3) ((HRN.out.below HB5.out).arg HSB.out) (HR5.out.arg HPB.out) (by omega)).mono ?_
        rintro e w6 ⟨v6, rfl, hr6, hb6⟩
        obtain ⟨rb, ra, rL, rc, rfl⟩ := hr6.form
        have HB6 : Hid (Below wr.heap.size wr w6) := bafter HB5.out hb6 (Nat.le_refl _)
        have HR6 := hide hr6
        clear hr6 hb6 hHeld
        go_wp2_with fail
        refine hK.out _ _ (HS.out _ HB6.out) (fun hHeld => ?_)
        clear hK K
        try simp only [Act.put, List.setIfInBounds_toArray, List.set_cons_zero, List.set_cons_succ]
        have HT6 := hide (HTN.out.keep HB6.out)
        obtain ⟨p0, p1, p2, p3, _, _⟩ := HT6.out.every
        have HBF := hide (below_put (bafter HBW.out HB6.out (Nat.le_refl _)) (show w.heap.size ≤ w.heap.size + 1 + 1 by omega) (.bool rb) (.slice ra rL rc))
        have HBU := hide (HT6.out.but (.bool rb) (.slice ra rL rc))
        have HS6 : Hid (let X := (w6.setCell ⟨w.heap.size + 1 + 1, 0, none⟩ (.bool rb)).setCell ⟨w.heap.size + 1 + 1, 1, none⟩ (.slice ra rL rc); X.cell? ⟨w.heap.size, 2, none⟩ = some (.slice (some ⟨b, o, none⟩) Ln pc) ∧ X.cell? ⟨b, o + i * 3, none⟩ = some (.int .i64 vr) ∧ X.cell? ⟨b, o + i * 3 + 1, none⟩ = some (.bool neg) ∧ X.cell? ⟨b, o + i * 3 + 2, none⟩ = some (.slice ma mL mc)) := by
          have hne := HBU.out.no.off (a := ⟨b, o + i * 3, none⟩) (HC.out.below HB6.out).1
          obtain ⟨h2, h3, h4⟩ := (HC.out.below HB6.out).keep (W' := (w6.setCell ⟨w.heap.size + 1 + 1, 0, none⟩ (.bool rb)).setCell ⟨w.heap.size + 1 + 1, 1, none⟩ (.slice ra rL rc)) (fun a u hu ha => (World.cell?_of_block (HBU.out.same a.block (by rw [ha]; exact hne))).trans hu)
          have h1 : Thr _ w.heap.size _ _ _ _ := (HBU.out.same w.heap.size (by omega)).trans (HTA.out.keep HB6.out)
          exact ⟨h1.c2, h2, h3, h4⟩
        refine wpAnyH_ready (rs := [17]) (by kernel_rfl) (by simp) ?_
        refine AllReadyH.cons rfl (fun K hK => ?_) AllReadyH.nil
        go_simp
        refine hK.out _ _ (HS6.out) (fun hHeld => ?_)
        clear hK K hHeld
        try simp only [Act.put, List.setIfInBounds_toArray, List.set_cons_zero, List.set_cons_succ]
        refine wpAnyH_done (by kernel_rfl) ?_ _
        clear p0 p1 p2 p3
        go_wp2
        go_roundw
        case rel =>
          refine ⟨i + 1, _, _, _, _, by omega, by go_num, HT6.out.put _ _, ?_, (HBU.out.same _ (by omega)).trans (HTA.out.keep HB6.out), (HTZ.out.keep HB6.out).other (by omega) _ _, HBU.out.row (HROW.out.below HB6.out), (HGD.out.below HB6.out).kr HBU.out.kr, HBU.out.row (HRX.out.below HB6.out), (HGX.out.below HB6.out).kr HBU.out.kr, HBF.out⟩
          rw [HEV.out]
          exact HR6.out.put HT6.out (.bool rb) (.slice ra rL rc)
        case measure => simp [RowKit.intOf]; omega
      · go_simp
        refine (HVAL.out _ (by first | exact (Below.refl _ wr) | exact ((Below.refl _ wr)).drew)).mono ?_
        rintro e w4 ⟨v4, rfl, hr4, hb4⟩
        obtain ⟨pb, pa4, pL, pk, rfl⟩ := hr4.form
        have HB4 : Hid (Below wr.heap.size wr w4) := bafter (by first | exact (Below.refl _ wr) | exact ((Below.refl _ wr)).drew) hb4 (Nat.le_refl _)
        have HR4 := hide hr4
        clear hr4 hb4 hHeld
        go_wp2_with fail
        refine hK.out _ _ (HS.out _ HB4.out) (fun hHeld => ?_)
        clear hK K
        try simp only [Act.put, List.setIfInBounds_toArray, List.set_cons_zero, List.set_cons_succ]
        refine wpAnyH_ready (rs := [0, 15]) (by kernel_rfl) (by simp) ?_
        refine AllReadyH.cons rfl (fun K hK => ?_) (AllReadyH.cons rfl (fun K hK => ?_) AllReadyH.nil)
        · obtain ⟨s0, s1, _, _, _, _⟩ := (HTN.out.keep (by first | exact HB4.out | exact (HB4.out).drew)).every
          go_simp
          refine hK.out _ _ (HS.out _ (by first | exact HB4.out | exact (HB4.out).drew)) (fun hHeld => ?_)
          clear hK K
          try simp only [Act.put, List.setIfInBounds_toArray, List.set_cons_zero, List.set_cons_succ]
          clear s0 s1
          refine wpAnyH_ready (rs := [15]) (by kernel_rfl) (by simp) ?_
          refine AllReadyH.cons rfl (fun K hK => ?_) AllReadyH.nil
          go_simp
          refine (rnmul_calls ((HGM.out.below HB4.out).arg HZB.out) (HR4.out.arg HVB.out) (by omega)).mono ?_
          rintro e w5 ⟨v5, rfl, hr5, hb5⟩
          obtain ⟨tb5, ta5, tL5, tk5, rfl⟩ := hr5.form
          have HB5 : Hid (Below wr.heap.size wr w5) := bafter HB4.out hb5 (Nat.le_refl _)
          have HR5 := hide hr5
          clear hr5 hb5 hHeld
          go_wp2_with fail
          refine hK.out _ _ (HS.out _ HB5.out) (fun hHeld => ?_)
          clear hK K
          try simp only [Act.put, List.setIfInBounds_toArray, List.set_cons_zero, List.set_cons_succ]
          refine wpAnyH_ready (rs := [16]) (by kernel_rfl) (by simp) ?_
          refine AllReadyH.cons rfl (fun K hK => ?_) AllReadyH.nil
          go_simp
          refine (rnadd_calls (K := K3) ((HRN.out.below HB5.out).arg HSB.out) (HR5.out.arg HPB.out) (by omega)).mono ?_
          rintro e w6 ⟨v6, rfl, hr6, hb6⟩
          obtain ⟨rb, ra, rL, rc, rfl⟩ := hr6.form
          have HB6 : Hid (Below wr.heap.size wr w6) := bafter HB5.out hb6 (Nat.le_refl _)
          have HR6 := hide hr6
          clear hr6 hb6 hHeld
          go_wp2_with fail
          refine hK.out _ _ (HS.out _ HB6.out) (fun hHeld => ?_)
          clear hK K
          try simp only [Act.put, List.setIfInBounds_toArray, List.set_cons_zero, List.set_cons_succ]
          have HT6 := hide (HTN.out.keep HB6.out)
          obtain ⟨p0, p1, p2, p3, _, _⟩ := HT6.out.every
          have HBF := hide (below_put (bafter HBW.out HB6.out (Nat.le_refl _)) (show w.heap.size ≤ w.heap.size + 1 + 1 by omega) (.bool rb) (.slice ra rL rc))
          have HBU := hide (HT6.out.but (.bool rb) (.slice ra rL rc))
          have HS6 : Hid (let X := (w6.setCell ⟨w.heap.size + 1 + 1, 0, none⟩ (.bool rb)).setCell ⟨w.heap.size + 1 + 1, 1, none⟩ (.slice ra rL rc); X.cell? ⟨w.heap.size, 2, none⟩ = some (.slice (some ⟨b, o, none⟩) Ln pc) ∧ X.cell? ⟨b, o + i * 3, none⟩ = some (.int .i64 vr) ∧ X.cell? ⟨b, o + i * 3 + 1, none⟩ = some (.bool neg) ∧ X.cell? ⟨b, o + i * 3 + 2, none⟩ = some (.slice ma mL mc)) := by
            have hne := HBU.out.no.off (a := ⟨b, o + i * 3, none⟩) (HC.out.below HB6.out).1
            obtain ⟨h2, h3, h4⟩ := (HC.out.below HB6.out).keep (W' := (w6.setCell ⟨w.heap.size + 1 + 1, 0, none⟩ (.bool rb)).setCell ⟨w.heap.size + 1 + 1, 1, none⟩ (.slice ra rL rc)) (fun a u hu ha => (World.cell?_of_block (HBU.out.same a.block (by rw [ha]; exact hne))).trans hu)
            have h1 : Thr _ w.heap.size _ _ _ _ := (HBU.out.same w.heap.size (by omega)).trans (HTA.out.keep HB6.out)
            exact ⟨h1.c2, h2, h3, h4⟩
          refine wpAnyH_ready (rs := [17]) (by kernel_rfl) (by simp) ?_
          refine AllReadyH.cons rfl (fun K hK => ?_) AllReadyH.nil
          go_simp
          refine hK.out _ _ (HS6.out) (fun hHeld => ?_)
          clear hK K hHeld
          try simp only [Act.put, List.setIfInBounds_toArray, List.set_cons_zero, List.set_cons_succ]
          refine wpAnyH_done (by kernel_rfl) ?_ _
          clear p0 p1 p2 p3
          go_wp2
          go_roundw
          case rel =>
            refine ⟨i + 1, _, _, _, _, by omega, by go_num, HT6.out.put _ _, ?_, (HBU.out.same _ (by omega)).trans (HTA.out.keep HB6.out), (HTZ.out.keep HB6.out).other (by omega) _ _, HBU.out.row (HROW.out.below HB6.out), (HGD.out.below HB6.out).kr HBU.out.kr, HBU.out.row (HRX.out.below HB6.out), (HGX.out.below HB6.out).kr HBU.out.kr, HBF.out⟩
            rw [HEV.out]
            exact HR6.out.put HT6.out (.bool rb) (.slice ra rL rc)
          case measure => simp [RowKit.intOf]; omega
        · go_simp
          refine (rnmul_calls ((HGM.out.below HB4.out).arg HZB.out) (HR4.out.arg HVB.out) (by omega)).mono ?_
          rintro e w5 ⟨v5, rfl, hr5, hb5⟩
          obtain ⟨tb5, ta5, tL5, tk5, rfl⟩ := hr5.form
          have HB5 : Hid (Below wr.heap.size wr w5) := bafter HB4.out hb5 (Nat.le_refl _)
          have HR5 := hide hr5
          clear hr5 hb5 hHeld
          go_wp2_with fail
          refine hK.out _ _ (HS.out _ HB5.out) (fun hHeld => ?_)
          clear hK K
          try simp only [Act.put, List.setIfInBounds_toArray, List.set_cons_zero, List.set_cons_succ]
          refine wpAnyH_ready (rs := [0]) (by kernel_rfl) (by simp) ?_
          refine AllReadyH.cons rfl (fun K hK => ?_) AllReadyH.nil
          obtain ⟨s0, s1, _, _, _, _⟩ := (HTN.out.keep (by first | exact HB5.out | exact (HB5.out).drew)).every
          go_simp
          refine hK.out _ _ (HS.out _ (by first | exact HB5.out | exact (HB5.out).drew)) (fun hHeld => ?_)
          clear hK K
          try simp only [Act.put, List.setIfInBounds_toArray, List.set_cons_zero, List.set_cons_succ]
          clear s0 s1
          refine wpAnyH_ready (rs := [16]) (by kernel_rfl) (by simp) ?_
          refine AllReadyH.cons rfl (fun K hK => ?_) AllReadyH.nil
          go_simp
          refine (rnadd_calls (K := K3) ((HRN.out.below HB5.out).arg HSB.out) (HR5.out.arg HPB.out) (by omega)).mono ?_
          rintro e w6 ⟨v6, rfl, hr6, hb6⟩
          obtain ⟨rb, ra, rL, rc, rfl⟩ := hr6.form
          have HB6 : Hid (Below wr.heap.size wr w6) := bafter HB5.out hb6 (Nat.le_refl _)
          have HR6 := hide hr6
          clear hr6 hb6 hHeld
          go_wp2_with fail
          refine hK.out _ _ (HS.out _ HB6.out) (fun hHeld => ?_)
          clear hK K
          try simp only [Act.put, List.setIfInBounds_toArray, List.set_cons_zero, List.set_cons_succ]
          have HT6 := hide (HTN.out.keep HB6.out)
          obtain ⟨p0, p1, p2, p3, _, _⟩ := HT6.out.every
          have HBF := hide (below_put (bafter HBW.out HB6.out (Nat.le_refl _)) (show w.heap.size ≤ w.heap.size + 1 + 1 by omega) (.bool rb) (.slice ra rL rc))
          have HBU := hide (HT6.out.but (.bool rb) (.slice ra rL rc))
          have HS6 : Hid (let X := (w6.setCell ⟨w.heap.size + 1 + 1, 0, none⟩ (.bool rb)).setCell ⟨w.heap.size + 1 + 1, 1, none⟩ (.slice ra rL rc); X.cell? ⟨w.heap.size, 2, none⟩ = some (.slice (some ⟨b, o, none⟩) Ln pc) ∧ X.cell? ⟨b, o + i * 3, none⟩ = some (.int .i64 vr) ∧ X.cell? ⟨b, o + i * 3 + 1, none⟩ = some (.bool neg) ∧ X.cell? ⟨b, o + i * 3 + 2, none⟩ = some (.slice ma mL mc)) := by
            have hne := HBU.out.no.off (a := ⟨b, o + i * 3, none⟩) (HC.out.below HB6.out).1
            obtain ⟨h2, h3, h4⟩ := (HC.out.below HB6.out).keep (W' := (w6.setCell ⟨w.heap.size + 1 + 1, 0, none⟩ (.bool rb)).setCell ⟨w.heap.size + 1 + 1, 1, none⟩ (.slice ra rL rc)) (fun a u hu ha => (World.cell?_of_block (HBU.out.same a.block (by rw [ha]; exact hne))).trans hu)
            have h1 : Thr _ w.heap.size _ _ _ _ := (HBU.out.same w.heap.size (by omega)).trans (HTA.out.keep HB6.out)
            exact ⟨h1.c2, h2, h3, h4⟩
          refine wpAnyH_ready (rs := [17]) (by kernel_rfl) (by simp) ?_
          refine AllReadyH.cons rfl (fun K hK => ?_) AllReadyH.nil
          go_simp
          refine hK.out _ _ (HS6.out) (fun hHeld => ?_)
          clear hK K hHeld
          try simp only [Act.put, List.setIfInBounds_toArray, List.set_cons_zero, List.set_cons_succ]
          refine wpAnyH_done (by kernel_rfl) ?_ _
          clear p0 p1 p2 p3
          go_wp2
          go_roundw
          case rel =>
            refine ⟨i + 1, _, _, _, _, by omega, by go_num, HT6.out.put _ _, ?_, (HBU.out.same _ (by omega)).trans (HTA.out.keep HB6.out), (HTZ.out.keep HB6.out).other (by omega) _ _, HBU.out.row (HROW.out.below HB6.out), (HGD.out.below HB6.out).kr HBU.out.kr, HBU.out.row (HRX.out.below HB6.out), (HGX.out.below HB6.out).kr HBU.out.kr, HBF.out⟩
            rw [HEV.out]
            exact HR6.out.put HT6.out (.bool rb) (.slice ra rL rc)
          case measure => simp [RowKit.intOf]; omega
    · obtain rfl : i = Ln := by omega
      have d1 : ¬ (i : Int) < (i : Int) := by omega
      have hta2 : M.take i = M := List.take_of_length_le (by rw [HLN.out]; omega)
      rw [hta2] at hrn
      have hb9 : (c + ev (lookZ X) (ps M)).natAbs < 10 ^ K3 := by
        have h9 : (ps M).length ≤ 100 := by rw [ps_length, HLN.out]; omega
        have h8 := ten_up (ev_bndT (lookZ_bndT HXB.out) HBD.out) (show _ ≤ K + K + 100 by omega)
        exact ten_up (ten_add (ten_up HCB.out (show K ≤ K + K + 100 by omega)) h8) (by have := HK3.out; omega)
      have hno := rnorm_calls (hrn.arg hb9) (by omega)
      obtain ⟨c0, c1, c2, _, _, _⟩ := hta.every
      obtain ⟨s0, s1, _, _, _, _⟩ := htn.every
      have HTZ := hide htz
      have HBW := hide hbw
      generalize hzs : c + ev (lookZ X) (ps M) = zs at *
      have HZS := hide hzs
      clear hzs htn hrn hta htz hrow hgd hrx hgx hbw hta2 hb9
      go_wp2_with fail
      refine hno.mono ?_
      rintro e w4 ⟨v4, rfl, hr4, hb4⟩
      obtain ⟨rb, ra, rL, rc, rfl⟩ := hr4.form
      have HT4 := hide (HTZ.out.keep hb4)
      obtain ⟨z0, z1, z2, z3, _, _⟩ := HT4.out.every
      have HR4 := hide hr4
      have HB4 := hide (bafter HBW.out hb4 (Nat.le_refl _))
      clear hno hr4 hb4 c0 c1 c2 s0 s1
      go_wp2
      refine bodyPost_ret (results_num rfl rfl (HT4.out.put _ _)) rfl ?_
      refine ⟨_, rfl, ?_, below_put HB4.out (by omega) _ _⟩
      rw [HZS.out]
      exact HR4.out.put HT4.out _ _

end Go.Proofs.YtkdhcpfmlelfcaaGreatDoor

namespace Go.Proofs.YtkdhcpfmlelfcaaGreatDoor
set_option linter.unusedVariables false
set_option linter.unusedSimpArgs false
set_option maxRecDepth 100000
open Go Go.RowKit Go.Shelf Go.Lib Go.ChangeShapes Go.WideShapes Go.ChangeAt

theorem cellsBind : Tryz.prog.cellsOf 79 = 3 := by kernel_rfl
theorem cellsBinds : Tryz.prog.cellsOf 60 = 1 := by kernel_rfl
theorem bind_of {H : Type} {enc : TypeId × Value → H} {W : World} {n : Nat} {b off i : Nat} {cs : List Value} {x : DataW H × List MemPlace}
    (h1 : W.cells? 0 ((⟨b, off, none⟩ : Addr).add (i * 3)) 3 = some cs) (h2 : DataW.trod enc Tryz.prog W 0 (fun _ => true) true n 79 cs = some x) :
    ∃ m : Pt, PIn W m ∧ CellsP W b (off + i * 3) m := by
  obtain ⟨_, hlen, hcell⟩ := World.cells?_some h1
  match cs, hlen with
  | [v0, v1, v2], _ =>
    obtain ⟨y0, y1, k, _, _, g0, g1⟩ := trod_struct2 Tryz.underlying79 h2
    simp [cellsInt, cellsBig] at g0 g1
    obtain ⟨z, e0, _, hz⟩ := DataW.trod_int Tryz.underlying3 g0
    simp at e0
    obtain ⟨sg0, a, L, cap, e1, e2, hlim⟩ := big_few g1
    subst e0 e1 e2
    have k0 := hcell 0 (by omega)
    have k1 := hcell 1 (by omega)
    have k2 := hcell 2 (by omega)
    rw [addr_add, addr_add] at k0 k1 k2
    have hrg : Rng z := by
      simp [Lit.wf, IntKind.min, IntKind.max, IntKind.signed, IntKind.bits] at hz
      unfold Rng
      omega
    by_cases h8 : L ≤ 8
    · obtain ⟨xs, hx, hxl⟩ := hlim h8
      exact ⟨(z, sg0, .slice a L cap, sgn sg0 (val R xs)), ⟨hrg, a, L, cap, rfl, fun _ => ⟨xs, hx, hxl, rfl⟩⟩, by simpa using k0, by simpa using k1, by simpa using k2⟩
    · exact ⟨(z, sg0, .slice a L cap, 0), ⟨hrg, a, L, cap, rfl, fun h => absurd h h8⟩, by simpa using k0, by simpa using k1, by simpa using k2⟩
theorem binds_cells {H : Type} {enc : TypeId × Value → H} {W : World} {fuel : Nat} {v : Value} {x : DataW H × List MemPlace}
    (hf : DataW.trod enc Tryz.prog W 0 (fun _ => true) true fuel 60 [v] = some x) : ∃ pa pl pc M, v = .slice pa pl pc ∧ RowP W (.slice pa pl pc) M ∧ ∀ m ∈ M, PIn W m := by
  rcases Go.Deep.open_slice Tryz.underlying60 hf with ⟨h0, _⟩ | ⟨a, len, cap, m, n, D, Pl, hcs, hb, hl, hm, hmm, hx, hel⟩
  · simp at h0
    subst h0
    exact ⟨none, 0, 0, [], rfl, row_nil W, fun m hm => by cases hm⟩
  · simp at hcs
    subst hcs
    simp only [if_true] at hmm
    subst hmm
    rw [cellsBind] at hel
    rcases Nat.eq_zero_or_pos len with h0 | hpos
    · subst h0
      exact ⟨some a, 0, m, [], rfl, ⟨some a, m, rfl, Nat.zero_le _, hm, fun j x hj => by simp at hj⟩, fun m hm => by cases hm⟩
    · obtain ⟨cs0, hc0, _⟩ := hel 0 (by omega)
      rw [Nat.zero_mul] at hc0
      obtain ⟨b, off, rfl⟩ : ∃ b o, a = ⟨b, o, none⟩ := by
        obtain ⟨b, o, e⟩ := spot_none3 (by omega) hc0
        obtain ⟨ab, ao, sp⟩ := a
        simp [Addr.add] at e
        exact ⟨b, o, by simp [e]⟩
      obtain ⟨f, hff⟩ := Go.Deep.choose_lt (α := Pt) (n := len) (p := fun i y => PIn W y ∧ CellsP W b (off + i * 3) y) (fun i hi => by
        obtain ⟨cs', h1, h2⟩ := hel i (by omega)
        exact bind_of h1 h2)
      refine ⟨some ⟨b, off, none⟩, len, m, (List.range len).map f, rfl, ⟨some ⟨b, off, none⟩, m, by simp, by simpa using hl, hm, fun j y hj => ?_⟩, fun y hy => ?_⟩
      · simp only [List.getElem?_map, Option.map_eq_some_iff] at hj
        obtain ⟨i, hi, rfl⟩ := hj
        obtain ⟨hi1, rfl⟩ := List.getElem?_eq_some_iff.1 hi
        simp only [List.length_range] at hi1
        simp only [List.getElem_range]
        exact ⟨b, off, rfl, (hff j hi1).2⟩
      · obtain ⟨i, hi, rfl⟩ := List.mem_map.1 hy
        exact (hff i (by simpa using hi)).1
/-- Bindings that came in. -/
def BindI (W : World) (v : Value) (pa : Option Addr) (pl pc : Nat) (L : List Pt) : Prop := v = .slice pa pl pc ∧ RowP W (.slice pa pl pc) L ∧ ∀ m ∈ L, PIn W m
theorem binds_in {H : Type} {enc : TypeId × Value → H} {W : World} {base : Nat} {v : Value} {d : DataW H} {ps : List MemPlace}
    (hval : Value.okWide Tryz.prog W .any base 60 v) (h : DataW.Trod enc Tryz.prog W 0 (fun _ => true) true 60 v d ps) : ∃ pa pl pc L, BindI W v pa pl pc L := by
  obtain ⟨a0, len0, cap0, rfl⟩ := okWide_slice Tryz.underlying60 hval
  obtain ⟨fuel, hf⟩ := h
  obtain ⟨pa, pl, pc, M, e, h1, h2⟩ := binds_cells (v := .slice a0 len0 cap0) hf
  exact ⟨pa, pl, pc, M, e, h1, h2⟩
theorem BindI.sl {W : World} {v : Value} {pa : Option Addr} {pl pc : Nat} {L : List Pt} (h : BindI W v pa pl pc L) : Sl L := fun m hm => by
  obtain ⟨_, a, l, c, e, _⟩ := h.2.2 m hm
  exact ⟨a, l, c, e⟩
theorem PIn.lim {W : World} {m : Pt} (h : PIn W m) : Rng m.1 ∧ (lenV m.2.2.1 ≤ 4 → Lim 8 W m) := by
  obtain ⟨h1, a, l, c, e, h2⟩ := h
  refine ⟨h1, fun h3 => ?_⟩
  rw [e] at h3
  simp only [lenV] at h3
  obtain ⟨ys, hy, hyl, hz⟩ := h2 (by omega)
  exact ⟨ys, hy, by omega, hz⟩
theorem BindI.calls {w W : World} {v : Value} {pa : Option Addr} {pl pc : Nat} {L : List Pt} (h : BindI w v pa pl pc L) (hb : Below w.heap.size w W) : Calls Tryz.prog 35 #[.slice pa pl pc] W fun e w' => BindE W L e w' :=
  bindings_calls (h.2.1.below hb) h.sl (fun m hm => ⟨(h.2.2 m hm).lim.1, fun h4 => ((h.2.2 m hm).lim.2 h4).below hb⟩)
/-- Few bindings of small numbers, for both sides. -/
structure BindsB (w : World) (pa : Option Addr) (pl pc : Nat) (L : List Pt) : Prop where
  row : RowP w (.slice pa pl pc) L
  good : GoodA w L
  bnd : Bnd 8 (ps L)
  bndT : BndT 80 (ps L)
  len : L.length ≤ 13
theorem BindI.both {w : World} {v : Value} {pa : Option Addr} {pl pc : Nat} {L : List Pt} (h : BindI w v pa pl pc L) (hl : BindP L) : BindsB w pa pl pc L := by
  have hlim : ∀ m ∈ L, Rng m.1 ∧ Lim 8 w m := fun m hm => ⟨(h.2.2 m hm).lim.1, (h.2.2 m hm).lim.2 (hl.2 m hm)⟩
  have hbp : ∀ p ∈ ps L, p.2.natAbs < R ^ 8 := fun p hp => by
    obtain ⟨m, hm, rfl⟩ := List.mem_map.1 hp
    obtain ⟨_, ys, hy, hyl, hz⟩ := hlim m hm
    show m.2.2.2.natAbs < _
    rw [hz]
    exact bl_limbs hy.small hyl
  refine ⟨h.2.1, fun m hm => ?_, hbp, fun p hp => bl10 (hbp p hp), hl.1⟩
  obtain ⟨h1, ys, hy, hyl, hz⟩ := hlim m hm
  refine ⟨h1, ?_⟩
  rw [hz]
  exact ⟨_, _, _, rfl, ⟨ys, hy, by omega, rfl⟩, rfl⟩

end Go.Proofs.YtkdhcpfmlelfcaaGreatDoor
