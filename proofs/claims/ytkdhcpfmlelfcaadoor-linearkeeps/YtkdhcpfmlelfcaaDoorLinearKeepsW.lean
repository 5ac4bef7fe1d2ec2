/- The law LinearKeeps, walked. -/
import Derived.Test.YtkdhcpfmlelfcaaDoorLnP2
import Derived.Test.YtkdhcpfmlelfcaaDoorBLimbs
import Derived.Laws.OwnMore
namespace Go.Proofs.YtkdhcpfmlelfcaaDoor
set_option linter.unusedVariables false
set_option linter.unusedSimpArgs false
set_option maxRecDepth 100000
open Go Go.RowKit Go.Shelf Go.Lib

theorem own_none (w : World) : OwnP w.heap.size (w.alloc (.cells #[] 31)) (.slice (some ⟨w.heap.size, 0, none⟩) 0 0) [] := by
  refine ⟨World.ownsRow_lit w #[] 0 (Nat.le_refl _) (by simp [maxLen]) rfl, fun g i u hg hi hc => ?_⟩
  simp only [Value.ownBlock, Option.some.injEq] at hg
  subst hg
  have h1 : (w.alloc (.cells #[] 31)).heap[w.heap.size]? = some (.cells #[] 31 (0, 0)) := World.alloc_heap_new w _
  rw [cell_of_row _ _ _ _ _ _ h1] at hc
  simp at hc
theorem OwnP.apartT {n b : Nat} {W : World} {v : Value} {M : List Pt} (h : OwnP n W v M) {x y z : Value} {t : TypeId} (hb : Thr W b x y z t) (ht : t ≠ 31) : v.ownBlock ≠ some b := h.apart hb ht
theorem RowP.grown1 {W W' : World} {g n c : Nat} {M : List Pt} {row : Option Nat} (h : RowP W (.slice (some ⟨g, 0, none⟩) n c) M) (hg : W.grownBy W' row) (hlt : g < W.heap.size) (hne : row ≠ some g) : RowP W' (.slice (some ⟨g, 0, none⟩) n c) M := by
  obtain ⟨ao, cap, e, h1, h2, h3⟩ := h
  refine ⟨ao, cap, e, h1, h2, fun j m hj => ?_⟩
  obtain ⟨b, o, e2, hc⟩ := h3 j m hj
  subst e2
  simp only [Value.slice.injEq, Option.some.injEq, Addr.mk.injEq] at e
  obtain ⟨⟨rfl, _⟩, _⟩ := e
  exact ⟨g, o, rfl, hc.keep (fun a u hu ha => (World.cell?_of_block (by rw [ha]; exact hg.block g hlt (fun e => hne e.symm))).trans hu)⟩
theorem cut_parts (W : World) (co : Option Addr) (n cc C : Nat) (h : C ≤ cc) : (Instr.slice 25 (.slice co n cc) none (some (.int .i64 (C : Int))) none).run Tryd.prog W = .ok (.slice co C cc) W := by
  have h1 := run_slice_h (P := Tryd.prog) (w := W) 25 co n cc (by kernel_rfl) .i64 (C : Int) (by omega) (by omega)
  rw [h1]
  go_simp
/-- A row of parts behind a place, that may be written. -/
def RowW (n : Nat) (W : World) (p : Option Addr × Nat × Nat) : Prop := p.2.1 = 0 ∨ ∃ g cur, p.1 = some ⟨g, 0, none⟩ ∧ n ≤ g ∧ W.heap[g]? = some (.cells cur 31 (0, 0)) ∧ p.2.1 * 3 ≤ cur.size ∧ p.2.1 ≤ p.2.2 ∧ p.2.2 ≤ maxLen
theorem rowW_of {n : Nat} {W : World} {pa : Option Addr} {pl pc : Nat} {M : List Pt} (h : OwnP n W (.slice pa pl pc) M) : RowW n W (pa, pl, pc) := by
  rcases h.1.2 with ⟨hv, _⟩ | ⟨g, cap, cur, hv, hg, hh, hc1, hc2, hc3, _⟩
  · simp only [Value.slice.injEq] at hv
    exact .inl hv.2.1
  · simp only [Value.slice.injEq] at hv
    obtain ⟨rfl, rfl, rfl⟩ := hv
    refine .inr ⟨g, cur, rfl, hg, hh, ?_, hc1, hc2⟩
    rw [hc3]
    exact Nat.mul_le_mul hc1 (Nat.le_refl _)
def AllW (n : Nat) (w0 : World) (bL : Nat) (cs : Array Value) (R : List (Option Addr × Nat × Nat)) (W : World) : Prop := Below n w0 W ∧ W.heap[bL]? = some (.cells cs 27 (0, 0)) ∧ ∀ (j : Nat) (p : Option Addr × Nat × Nat), R[j]? = some p → RowW n W p
theorem AllW.step {n : Nat} {w0 : World} {bL : Nat} {cs : Array Value} {R : List (Option Addr × Nat × Nat)} {W : World} (h : AllW n w0 bL cs R W) {g : Nat} {cur : Array Value} (hn : n ≤ g) (hc : W.heap[g]? = some (.cells cur 31 (0, 0))) (i j k : Nat) (a b c : Value) :
    AllW n w0 bL cs R (((W.setCell ⟨g, i, none⟩ a).setCell ⟨g, j, none⟩ b).setCell ⟨g, k, none⟩ c) := by
  have h1 := heap_setCell_same W g i _ _ a hc
  have h2 := heap_setCell_same _ g j _ _ b h1
  have h3 := heap_setCell_same _ g k _ _ c h2
  have ho : ∀ x, x ≠ g → (((W.setCell ⟨g, i, none⟩ a).setCell ⟨g, j, none⟩ b).setCell ⟨g, k, none⟩ c).heap[x]? = W.heap[x]? := fun x hx =>
    (heap_setCell_other _ ⟨g, k, none⟩ x c hx).trans ((heap_setCell_other _ ⟨g, j, none⟩ x b hx).trans (heap_setCell_other W ⟨g, i, none⟩ x a hx))
  refine ⟨((h.1.setCell (p := ⟨g, i, none⟩) hn a).setCell (p := ⟨g, j, none⟩) hn b).setCell (p := ⟨g, k, none⟩) hn c, (ho bL ?_).trans h.2.1, fun x p hp => ?_⟩
  · intro e
    have h4 := h.2.1
    rw [e, hc] at h4
    simp only [Option.some.injEq, Obj.cells.injEq] at h4
    exact absurd h4.2.1 (by decide)
  · rcases h.2.2 x p hp with h5 | ⟨g', cur', e1, e2, e3, e4, e5⟩
    · exact .inl h5
    · by_cases e : g' = g
      · subst e
        rw [hc] at e3
        simp only [Option.some.injEq, Obj.cells.injEq] at e3
        obtain ⟨rfl, _⟩ := e3
        exact .inr ⟨g', _, e1, e2, h3, by simpa using e4, e5⟩
      · exact .inr ⟨g', cur', e1, e2, (ho g' e).trans e3, e4, e5⟩
theorem TermA.swap {k : Nat} {W : World} {cn : Bool} {cm pv pw : Value} {c : Int} {M : List Pt} (h : TermA k W (.agg #[.bool cn, cm, pv]) c M) (hr : RowP W pw M) : TermA k W (.agg #[.bool cn, cm, pw]) c M := by
  obtain ⟨cn', ca, cL, cc, pa, pl, pc, e, h1, h2, h3, h4⟩ := h
  simp only [Value.agg.injEq, Array.mk.injEq, List.cons.injEq, and_true] at e
  obtain ⟨e0, e1, _⟩ := e
  cases e0
  subst e1
  obtain ⟨a, cp, e2, h5⟩ := hr
  subst e2
  exact ⟨cn, ca, cL, cc, a, _, _, rfl, h1, h2, ⟨a, cp, rfl, h5⟩, h4⟩
theorem RowP.front {W : World} {oa : Option Addr} {n c : Nat} {M : List Pt} {m : Pt} (h : RowP W (.slice oa n c) (M ++ [m])) : RowP W (.slice oa M.length c) M := by
  obtain ⟨ao, cap, e, h1, h2, h3⟩ := h
  simp only [Value.slice.injEq] at e
  obtain ⟨rfl, _, rfl⟩ := e
  rw [List.length_append] at h1
  exact ⟨oa, c, rfl, by omega, h2, fun j x hj => h3 j x (by rw [List.getElem?_append_left (List.getElem?_eq_some_iff.1 hj).1]; exact hj)⟩
def KeepC (w3 : World) (an : Bool) (aa : Option Addr) (aL ac Ln : Nat) (A : List Pt) (s7 : Value) (wx : World) : Prop :=
  ∃ bX oX cX, s7 = .pointer (some ⟨bX, 0, none⟩) ∧ Thr wx bX (.bool an) (.slice aa aL ac) (.slice oX Ln cX) 27 ∧ OwnP w3.heap.size wx (.slice oX (Ln + 1) cX) (A ++ [(99, false, .slice none 0 0, 0)]) ∧ Below w3.heap.size w3 wx

set_option maxHeartbeats 16000000 in
theorem lkeeps_calls (w : World) (v0 v1 : Value) (x : Int) {an : Bool} {aa : Option Addr} {aL ac : Nat} {ap : Option Addr} {al ak : Nat} {A : List Pt} {bn : Bool} {ba : Option Addr} {bL bc : Nat} {bp : Option Addr} {bl bk : Nat} {B : List Pt}
    (h : TermI w v0 an aa aL ac ap al ak A) (g : TermI w v1 bn ba bL bc bp bl bk B) (htab : TabIs Tryd.prog w "internal/strconv.uint64pow10" .u64 pow10Tab) :
    Calls Tryd.prog 3 #[v0, v1, .int .i64 x] w fun e w' => e = .returned (.bool true) ∧ Below w.heap.size w w' := by
  have e0 := h.1
  have e2 := g.1
  subst e0 e2
  obtain rfl : al = A.length := by
    obtain ⟨_, _, e, _⟩ := h.2.1
    simp only [Value.slice.injEq] at e
    exact e.2.1
  generalize hLn : A.length = Ln at *
  have HLN := hide hLn
  have tb := (Thr.new w (.bool an) (.slice aa aL ac) (.slice ap Ln ak) 27).alloc (.cells #[.bool bn, .slice ba bL bc, .slice bp bl bk] 27)
  have tc := Thr.new1 w (.cells #[.bool an, .slice aa aL ac, .slice ap Ln ak] 27) (.bool bn) (.slice ba bL bc) (.slice bp bl bk) 27
  have hba : Below w.heap.size w ((w.alloc (.cells #[.bool an, .slice aa aL ac, .slice ap Ln ak] 27)).alloc (.cells #[.bool bn, .slice ba bL bc, .slice bp bl bk] 27)) := (bel _ _).trans ((bel _ _).mono (by simp))
  generalize hwA : (w.alloc (.cells #[.bool an, .slice aa aL ac, .slice ap Ln ak] 27)).alloc (.cells #[.bool bn, .slice ba bL bc, .slice bp bl bk] 27) = wA at *
  have HWA := hide hwA
  have TB := hide tb
  have TC := hide tc
  have HBA := hide hba
  have HA := hide h
  have HB := hide g
  have HTAB := hide htab
  have hsm := summed_calls wA (tab_keep htab hba)
  clear hwA tb tc hba h g htab hLn
  go_enter Tryd.func3, Tryd.ntmps3
  go_upto_region 1 with fail
  rw [HWA.out]
  go_wp2_with fail
  refine hsm.mono ?_
  rintro e w1 ⟨rfl, hb1⟩
  have HB1 := hide hb1
  have HW1 := hide (bafter HBA.out hb1 (Nat.le_refl _))
  have hlt := HA.out.light HW1.out
  obtain ⟨c0, c1, c2, _, _, _⟩ := (TB.out.keep hb1).every
  clear hsm hb1
  go_wp2_with fail
  refine hlt.mono ?_
  rintro e w2 ⟨r2, rfl, hl2, hb2⟩
  have HB2 := hide (bafter HB1.out hb2 (Nat.le_refl _))
  have HW2 := hide (bafter HW1.out hb2 (Nat.le_refl _))
  cases r2 with
  | false =>
    have hsm := summed_calls w2 (tab_keep HTAB.out HW2.out)
    clear hlt hl2 hb2 c0 c1 c2
    go_wp2_with fail
    refine hsm.mono ?_
    rintro e w3 ⟨rfl, hb3⟩
    have HW3 := hide (bafter HW2.out hb3 (Nat.le_refl _))
    clear hsm hb3
    go_wp2
    go_ret
    exact ⟨rfl, HW3.out⟩
  | true =>
    obtain ⟨c, hta, hra, hl12, hlim⟩ := HA.out.small (hl2.1 rfl)
    have HTA := hide hta
    have HRA := hide hra
    have HLIM := hide hlim
    have HL12 : Hid (A.length ≤ 12) := hl12
    have hlt2 := HB.out.light HW2.out
    obtain ⟨y0, y1, y2, _, _, _⟩ := (TC.out.keep HB2.out).every
    clear hlt hl2 hb2 c0 c1 c2 hta hra hl12 hlim
    go_wp2_with fail
    refine hlt2.mono ?_
    rintro e w3 ⟨r3, rfl, hl3, hb3⟩
    have HB3 := hide (bafter HB2.out hb3 (Nat.le_refl _))
    have HW3 := hide (bafter HW2.out hb3 (Nat.le_refl _))
    cases r3 with
    | false =>
      have hsm := summed_calls w3 (tab_keep HTAB.out HW3.out)
      clear hlt2 hl3 hb3 y0 y1 y2
      go_wp2_with fail
      refine hsm.mono ?_
      rintro e w4 ⟨rfl, hb4⟩
      have HW4 := hide (bafter HW3.out hb4 (Nat.le_refl _))
      clear hsm hb4
      go_wp2
      go_ret
      exact ⟨rfl, HW4.out⟩
    | true =>
      obtain ⟨d, htb, _, _, _⟩ := HB.out.small (hl3.1 rfl)
      have HTB := hide htb
      have hLN : Ln ≤ 12 := by have := HL12.out; rw [HLN.out] at this; exact this
      have HONE : Hid (∀ m ∈ A, m.2.2.1.oneCell' = true) := fun m hm => by
        obtain ⟨a, l, c, e⟩ := HA.out.sl m hm
        rw [e]
        rfl
      have HS3 : Hid (∀ X : World, Below w3.heap.size w3 X → X.cell? ⟨w.heap.size, 0, none⟩ = some (.bool an) ∧ X.cell? ⟨w.heap.size, 1, none⟩ = some (.slice aa aL ac) ∧ X.cell? ⟨w.heap.size, 2, none⟩ = some (.slice ap Ln ak)) := fun X hX => by
        have t1 := (TB.out.keep HB3.out).keep hX
        exact ⟨t1.c0, t1.c1, t1.c2⟩
      clear hlt2 hl3 hb3 y0 y1 y2 htb
      go_upto_region 3 with fail
      go_cut [7] from 25 to 38 (fun s7 wx => KeepC w3 an aa aL ac Ln A s7 wx)
      case first =>
        refine wp_region_held_drew (S := fun X : World => X.cell? ⟨w.heap.size, 0, none⟩ = some (.bool an) ∧ X.cell? ⟨w.heap.size, 1, none⟩ = some (.slice aa aL ac) ∧ X.cell? ⟨w.heap.size, 2, none⟩ = some (.slice ap Ln ak)) (by kernel_rfl) ?_ (fun hHeld => ?_)
        · exact HS3.out _ (by (first | exact (Below.refl _ _).drew | exact Below.refl _ _))
        refine takeD (i := 0) (v := ?v1) (some 25) rfl (by kernel_rfl) (by kernel_rfl) (by kernel_rfl) (fun _ _ _ h => h) (Or.inl ⟨by rfl, ?hy1⟩) (by assumption) (by rfl) ?rest1
        case hy1 => first | (intro w hSw; (try dsimp only at hSw); obtain ⟨q0, q1, q2⟩ := hSw; go_simp; done) | (intro w hSw; (try dsimp only at hSw); obtain ⟨q0, q1, q2⟩ := hSw; go_simp; with_reducible rfl)
        try simp only [Act.put, List.setIfInBounds_toArray, List.set_cons_zero, List.set_cons_succ]
        refine takeD (i := 1) (v := ?v2) (some 26) rfl (by kernel_rfl) (by kernel_rfl) (by kernel_rfl) (fun _ _ _ h => h) (Or.inl ⟨by rfl, ?hy2⟩) (by assumption) (by rfl) ?rest2
        case hy2 => first | (intro w hSw; (try dsimp only at hSw); obtain ⟨q0, q1, q2⟩ := hSw; go_simp; done) | (intro w hSw; (try dsimp only at hSw); obtain ⟨q0, q1, q2⟩ := hSw; go_simp; with_reducible rfl)
        try simp only [Act.put, List.setIfInBounds_toArray, List.set_cons_zero, List.set_cons_succ]
        refine takeD (i := 3) (v := ?v3) (some 28) rfl (by kernel_rfl) (by kernel_rfl) (by kernel_rfl) (fun _ _ _ h => h) (Or.inl ⟨by rfl, ?hy3⟩) (by assumption) (by rfl) ?rest3
        case hy3 => first | (intro w hSw; (try dsimp only at hSw); obtain ⟨q0, q1, q2⟩ := hSw; go_simp; done) | (intro w hSw; (try dsimp only at hSw); obtain ⟨q0, q1, q2⟩ := hSw; go_simp; with_reducible rfl)
        try simp only [Act.put, List.setIfInBounds_toArray, List.set_cons_zero, List.set_cons_succ]
        refine takeD (i := 4) (v := ?v4) (some 29) rfl (by kernel_rfl) (by kernel_rfl) (by kernel_rfl) (fun _ _ _ h => h) (Or.inl ⟨by rfl, ?hy4⟩) (by assumption) (by rfl) ?rest4
        case hy4 => first | (intro w hSw; (try dsimp only at hSw); obtain ⟨q0, q1, q2⟩ := hSw; go_simp; done) | (intro w hSw; (try dsimp only at hSw); obtain ⟨q0, q1, q2⟩ := hSw; go_simp; with_reducible rfl)
        try simp only [Act.put, List.setIfInBounds_toArray, List.set_cons_zero, List.set_cons_succ]
        refine takeD (i := 6) (v := ?v5) (some 31) rfl (by kernel_rfl) (by kernel_rfl) (by kernel_rfl) (fun _ _ _ h => h) (Or.inl ⟨by rfl, ?hy5⟩) (by assumption) (by rfl) ?rest5
        case hy5 => first | (intro w hSw; (try dsimp only at hSw); obtain ⟨q0, q1, q2⟩ := hSw; go_simp; done) | (intro w hSw; (try dsimp only at hSw); obtain ⟨q0, q1, q2⟩ := hSw; go_simp; with_reducible rfl)
        try simp only [Act.put, List.setIfInBounds_toArray, List.set_cons_zero, List.set_cons_succ]
        refine takeD (i := 9) (v := ?v6) (some 34) rfl (by kernel_rfl) (by kernel_rfl) (by kernel_rfl) (fun _ _ _ h => h) (Or.inl ⟨by rfl, ?hy6⟩) (by assumption) (by rfl) ?rest6
        case hy6 => first | (intro w hSw; (try dsimp only at hSw); obtain ⟨q0, q1, q2⟩ := hSw; go_simp; done) | (intro w hSw; (try dsimp only at hSw); obtain ⟨q0, q1, q2⟩ := hSw; go_simp; with_reducible rfl)
        try simp only [Act.put, List.setIfInBounds_toArray, List.set_cons_zero, List.set_cons_succ]
        refine takeD (i := 10) (v := ?v7) (some 35) rfl (by kernel_rfl) (by kernel_rfl) (by kernel_rfl) (fun _ _ _ h => h) (Or.inl ⟨by rfl, ?hy7⟩) (by assumption) (by rfl) ?rest7
        case hy7 => first | (intro w hSw; (try dsimp only at hSw); obtain ⟨q0, q1, q2⟩ := hSw; go_simp; done) | (intro w hSw; (try dsimp only at hSw); obtain ⟨q0, q1, q2⟩ := hSw; go_simp; with_reducible rfl)
        try simp only [Act.put, List.setIfInBounds_toArray, List.set_cons_zero, List.set_cons_succ]
        refine takeD (i := 11) (v := ?v8) (some 36) rfl (by kernel_rfl) (by kernel_rfl) (by kernel_rfl) (fun _ _ _ h => h) (Or.inl ⟨by rfl, ?hy8⟩) (by assumption) (by rfl) ?rest8
        case hy8 => first | (intro w hSw; (try dsimp only at hSw); obtain ⟨q0, q1, q2⟩ := hSw; go_simp; done) | (intro w hSw; (try dsimp only at hSw); obtain ⟨q0, q1, q2⟩ := hSw; go_simp; with_reducible rfl)
        try simp only [Act.put, List.setIfInBounds_toArray, List.set_cons_zero, List.set_cons_succ]
        have bwd : Below w3.heap.size w3 w3.drew := (Below.refl _ _).drew
        generalize w3.drew = wd at *
        have BX0 := hide bwd
        clear bwd hHeld
        refine wpAnyH_ready (rs := [2, 7, 14]) (by kernel_rfl) (by simp) ?_
        refine AllReadyH.cons rfl (fun K hK => ?_) (AllReadyH.cons rfl (fun K hK => ?_) (AllReadyH.cons rfl (fun K hK => ?_) AllReadyH.nil))
        · go_simp
          have ho := own_none wd
          have hb := bel wd (.cells #[] 31)
          have BX1 := hide (bafter BX0.out hb (Nat.le_refl _))
          have OW_1 := hide (ho.down BX0.out.size)
          have LG0_1 : Hid (wd.heap.size < (wd.alloc (.cells #[] 31)).heap.size) := by show _ < _; rw [World.size_alloc]; omega
          clear ho hb
          generalize wd.heap.size = g0 at *
          generalize wd.alloc (.cells #[] 31) = x1 at *
          refine hK.out _ _ (HS3.out _ BX1.out) (fun hHeld => ?_)
          clear hK K hHeld
          try simp only [Act.put, List.setIfInBounds_toArray, List.set_cons_zero, List.set_cons_succ]
          refine wpAnyH_ready (rs := [5, 7, 14]) (by kernel_rfl) (by simp) ?_
          refine AllReadyH.cons rfl (fun K hK => ?_) (AllReadyH.cons rfl (fun K hK => ?_) (AllReadyH.cons rfl (fun K hK => ?_) AllReadyH.nil))
          · obtain ⟨v5, x2, hrun5, ho5, hg5, ha5, hk5⟩ := run_appP x1 w3.heap.size 25 _ [] OW_1.out (.slice ap Ln ak) A (HRA.out.below (bafter HW3.out BX1.out (Nat.le_refl _))) HONE.out (by have := HL12.out; have := HLN.out; simp only [List.length_nil]; omega) BX1.out.size
            rw [List.nil_append] at ho5
            obtain ⟨oa5, oc5, rfl, _, _⟩ := ho5.len
            rw [HLN.out] at ho5 hrun5 ha5
            have OW_2 := hide ho5
            have BX2 : Hid (Below w3.heap.size w3 x2) := BX1.out.grown hg5 BX1.out.size (fun j hj => (OW_1.out.lt hj).1)
            clear ho5 hg5 ha5 hk5
            refine Lib.wp_append_run _ _ _ _ _ rfl _ _ rfl rfl _ _ hrun5 ?_
            clear hrun5
            refine hK.out _ _ (HS3.out _ BX2.out) (fun hHeld => ?_)
            clear hK K hHeld
            try simp only [Act.put, List.setIfInBounds_toArray, List.set_cons_zero, List.set_cons_succ]
            refine wpAnyH_ready (rs := [7, 14]) (by kernel_rfl) (by simp) ?_
            refine AllReadyH.cons rfl (fun K hK => ?_) (AllReadyH.cons rfl (fun K hK => ?_) AllReadyH.nil)
            · go_simp
              have hl := row_lit x2 99 false (.slice none 0 0) 0
              have hb := bel x2 (.cells #[.int .i64 99, .bool false, .slice none 0 0] 31)
              have BX3 := hide (bafter BX2.out hb (Nat.le_refl _))
              have RL_3 := hide hl
              have OW_3 := hide (OW_2.out.below hb)
              have NB : Hid ((Value.slice oa5 Ln oc5).ownBlock ≠ some x2.heap.size) := fun e => by have := (OW_2.out.lt e).2; omega
              have LG1_3 : Hid (x2.heap.size < (x2.alloc (.cells #[.int .i64 99, .bool false, .slice none 0 0] 31)).heap.size) := by show _ < _; rw [World.size_alloc]; omega
              clear hl hb
              generalize x2.heap.size = g1 at *
              generalize x2.alloc (.cells #[.int .i64 99, .bool false, .slice none 0 0] 31) = x3 at *
              refine hK.out _ _ (HS3.out _ BX3.out) (fun hHeld => ?_)
              clear hK K hHeld
              try simp only [Act.put, List.setIfInBounds_toArray, List.set_cons_zero, List.set_cons_succ]
              refine wpAnyH_ready (rs := [8, 14]) (by kernel_rfl) (by simp) ?_
              refine AllReadyH.cons rfl (fun K hK => ?_) (AllReadyH.cons rfl (fun K hK => ?_) AllReadyH.nil)
              · have hrl : RowP x3 (.slice (some ⟨g1, 0, none⟩) 1 1) [((99, false, .slice none 0 0, 0) : Pt)] := RL_3.out
                have how : OwnP w3.heap.size x3 (.slice oa5 A.length oc5) A := by rw [HLN.out]; exact OW_3.out
                obtain ⟨v8, x4, hrun8, ho8, hg8, ha8, hk8⟩ := run_appP x3 w3.heap.size 25 _ A how (.slice (some ⟨g1, 0, none⟩) 1 1) [((99, false, .slice none 0 0, 0) : Pt)] hrl (fun m hm => by simp at hm; subst hm; rfl) (by have := HL12.out; simp only [List.length_cons, List.length_nil]; omega) BX3.out.size
                obtain ⟨oa8, oc8, rfl, hcap1, _⟩ := ho8.len
                have hle : (A ++ [((99, false, .slice none 0 0, 0) : Pt)]).length = Ln + 1 := by rw [List.length_append, HLN.out]; rfl
                rw [hle] at ho8 hrun8 hcap1
                rw [HLN.out] at hrun8 hg8
                have OW_4 := hide ho8
                have BX4 : Hid (Below w3.heap.size w3 x4) := BX3.out.grown hg8 BX3.out.size (fun j hj => (OW_3.out.lt hj).1)
                have hsl := fun W : World => cut_parts W oa8 (Ln + 1) oc8 Ln (by omega)
                clear ho8 hg8 ha8 hk8 hle hrl how hcap1
                refine Lib.wp_append_run _ _ _ _ _ rfl _ _ rfl rfl _ _ hrun8 ?_
                clear hrun8
                refine hK.out _ _ (HS3.out _ BX4.out) (fun hHeld => ?_)
                clear hK K hHeld
                try simp only [Act.put, List.setIfInBounds_toArray, List.set_cons_zero, List.set_cons_succ]
                have hHeld := HS3.out _ BX4.out
                refine takeD (i := 12) (v := ?v9) (some 37) rfl (by kernel_rfl) (by kernel_rfl) (by kernel_rfl) (fun _ _ _ h => h) (Or.inl ⟨by rfl, ?hy9⟩) (by assumption) (by rfl) ?rest9
                case hy9 => first | (intro w hSw; (try dsimp only at hSw); obtain ⟨q0, q1, q2⟩ := hSw; go_simp; done) | (intro w hSw; (try dsimp only at hSw); obtain ⟨q0, q1, q2⟩ := hSw; go_simp; with_reducible rfl)
                try simp only [Act.put, List.setIfInBounds_toArray, List.set_cons_zero, List.set_cons_succ]
                refine takeD (i := 13) (v := ?v10) (some 38) rfl (by kernel_rfl) (by kernel_rfl) (by kernel_rfl) (fun _ _ _ h => h) (Or.inl ⟨by rfl, ?hy10⟩) (by assumption) (by rfl) ?rest10
                case hy10 => first | (intro w hSw; (try dsimp only at hSw); obtain ⟨q0, q1, q2⟩ := hSw; go_simp; done) | (intro w hSw; (try dsimp only at hSw); obtain ⟨q0, q1, q2⟩ := hSw; go_simp; with_reducible rfl)
                try simp only [Act.put, List.setIfInBounds_toArray, List.set_cons_zero, List.set_cons_succ]
                clear hHeld hsl
                refine wpAnyH_ready (rs := [14]) (by kernel_rfl) (by simp) ?_
                refine AllReadyH.cons rfl (fun K hK => ?_) AllReadyH.nil
                go_simp
                have tn := Thr.new x4 (.bool false) (.slice none 0 0) (.slice none 0 0) 27
                have hb := bel x4 (.cells #[.bool false, .slice none 0 0, .slice none 0 0] 27)
                have BX5 := hide (bafter BX4.out hb (Nat.le_refl _))
                have LBX : Hid (w3.heap.size ≤ x4.heap.size) := BX4.out.size
                have TX_5 := hide tn
                have OW_5 := hide (OW_4.out.below hb)
                clear tn hb
                generalize x4.heap.size = bX at *
                generalize x4.alloc (.cells #[.bool false, .slice none 0 0, .slice none 0 0] 27) = x5 at *
                refine hK.out _ _ (HS3.out _ BX5.out) (fun hHeld => ?_)
                clear hK K hHeld
                try simp only [Act.put, List.setIfInBounds_toArray, List.set_cons_zero, List.set_cons_succ]
                refine wpAnyH_ready (rs := [15]) (by kernel_rfl) (by simp) ?_
                refine AllReadyH.cons rfl (fun K hK => ?_) AllReadyH.nil
                have z0 := Thr.c0 (W := x5) (b := bX) (x := .bool false) (y := .slice none 0 0) (z := .slice none 0 0) (t := 27) TX_5.out
                have z1 := Thr.c1 (W := x5) (b := bX) (x := .bool false) (y := .slice none 0 0) (z := .slice none 0 0) (t := 27) TX_5.out
                have z2 := Thr.c2 (W := x5) (b := bX) (x := .bool false) (y := .slice none 0 0) (z := .slice none 0 0) (t := 27) TX_5.out
                have f0 := Thr.f0 (W := x5) (b := bX) (x := .bool false) (y := .slice none 0 0) (z := .slice none 0 0) (t := 27) TX_5.out 0
                have f1 := Thr.f0 (W := x5) (b := bX) (x := .bool false) (y := .slice none 0 0) (z := .slice none 0 0) (t := 27) TX_5.out 1
                have f2 := Thr.f0 (W := x5) (b := bX) (x := .bool false) (y := .slice none 0 0) (z := .slice none 0 0) (t := 27) TX_5.out 2
                go_simp
                have TX_6 := hide (TX_5.out.put (.bool an) (.slice aa aL ac) (.slice oa8 Ln oc8))
                have OW_6 := hide (OW_5.out.off TX_5.out (by decide) (fun k hk => put3_other (W := x5) hk (.bool an) (.slice aa aL ac) (.slice oa8 Ln oc8)))
                have BX6 := hide (put3_below BX5.out LBX.out (.bool an) (.slice aa aL ac) (.slice oa8 Ln oc8))
                clear z0 z1 z2 f0 f1 f2
                refine hK.out _ (put3 x5 bX (.bool an) (.slice aa aL ac) (.slice oa8 Ln oc8)) (HS3.out _ BX6.out) (fun hHeld => ?_)
                clear hK K hHeld
                generalize put3 x5 bX (.bool an) (.slice aa aL ac) (.slice oa8 Ln oc8) = x6 at *
                try simp only [Act.put, List.setIfInBounds_toArray, List.set_cons_zero, List.set_cons_succ]
                refine wpAnyH_done (by kernel_rfl) ?_ _
                go_wp2_with fail
                go_meet
                exact ⟨bX, oa8, oc8, rfl, TX_6.out, OW_6.out, BX6.out⟩
              · go_simp
                have tn := Thr.new x3 (.bool false) (.slice none 0 0) (.slice none 0 0) 27
                have hb := bel x3 (.cells #[.bool false, .slice none 0 0, .slice none 0 0] 27)
                have BX4 := hide (bafter BX3.out hb (Nat.le_refl _))
                have LBX : Hid (w3.heap.size ≤ x3.heap.size) := BX3.out.size
                have TX_4 := hide tn
                have OW_4 := hide (OW_3.out.below hb)
                have RL_4 := hide (RL_3.out.below hb)
                have LG1_4 : Hid (g1 < (x3.alloc (.cells #[.bool false, .slice none 0 0, .slice none 0 0] 27)).heap.size) := Nat.lt_of_lt_of_le LG1_3.out hb.size
                clear tn hb
                generalize x3.heap.size = bX at *
                generalize x3.alloc (.cells #[.bool false, .slice none 0 0, .slice none 0 0] 27) = x4 at *
                refine hK.out _ _ (HS3.out _ BX4.out) (fun hHeld => ?_)
                clear hK K hHeld
                try simp only [Act.put, List.setIfInBounds_toArray, List.set_cons_zero, List.set_cons_succ]
                refine wpAnyH_ready (rs := [8]) (by kernel_rfl) (by simp) ?_
                refine AllReadyH.cons rfl (fun K hK => ?_) AllReadyH.nil
                have hrl : RowP x4 (.slice (some ⟨g1, 0, none⟩) 1 1) [((99, false, .slice none 0 0, 0) : Pt)] := RL_4.out
                have how : OwnP w3.heap.size x4 (.slice oa5 A.length oc5) A := by rw [HLN.out]; exact OW_4.out
                obtain ⟨v8, x5, hrun8, ho8, hg8, ha8, hk8⟩ := run_appP x4 w3.heap.size 25 _ A how (.slice (some ⟨g1, 0, none⟩) 1 1) [((99, false, .slice none 0 0, 0) : Pt)] hrl (fun m hm => by simp at hm; subst hm; rfl) (by have := HL12.out; simp only [List.length_cons, List.length_nil]; omega) BX4.out.size
                obtain ⟨oa8, oc8, rfl, hcap1, _⟩ := ho8.len
                have hle : (A ++ [((99, false, .slice none 0 0, 0) : Pt)]).length = Ln + 1 := by rw [List.length_append, HLN.out]; rfl
                rw [hle] at ho8 hrun8 hcap1
                rw [HLN.out] at hrun8 hg8
                have OW_5 := hide ho8
                have BX5 : Hid (Below w3.heap.size w3 x5) := BX4.out.grown hg8 BX4.out.size (fun j hj => (OW_4.out.lt hj).1)
                have TX_5 : Hid (Thr x5 bX (.bool false) (.slice none 0 0) (.slice none 0 0) 27) := (hg8.block bX TX_4.out.lt (fun e => OW_4.out.apartT TX_4.out (by decide) e.symm)).trans TX_4.out
                have hsl := fun W : World => cut_parts W oa8 (Ln + 1) oc8 Ln (by omega)
                clear ho8 hg8 ha8 hk8 hle hrl how hcap1
                refine Lib.wp_append_run _ _ _ _ _ rfl _ _ rfl rfl _ _ hrun8 ?_
                clear hrun8
                refine hK.out _ _ (HS3.out _ BX5.out) (fun hHeld => ?_)
                clear hK K hHeld
                try simp only [Act.put, List.setIfInBounds_toArray, List.set_cons_zero, List.set_cons_succ]
                have hHeld := HS3.out _ BX5.out
                refine takeD (i := 12) (v := ?v11) (some 37) rfl (by kernel_rfl) (by kernel_rfl) (by kernel_rfl) (fun _ _ _ h => h) (Or.inl ⟨by rfl, ?hy11⟩) (by assumption) (by rfl) ?rest11
                case hy11 => first | (intro w hSw; (try dsimp only at hSw); obtain ⟨q0, q1, q2⟩ := hSw; go_simp; done) | (intro w hSw; (try dsimp only at hSw); obtain ⟨q0, q1, q2⟩ := hSw; go_simp; with_reducible rfl)
                try simp only [Act.put, List.setIfInBounds_toArray, List.set_cons_zero, List.set_cons_succ]
                refine takeD (i := 13) (v := ?v12) (some 38) rfl (by kernel_rfl) (by kernel_rfl) (by kernel_rfl) (fun _ _ _ h => h) (Or.inl ⟨by rfl, ?hy12⟩) (by assumption) (by rfl) ?rest12
                case hy12 => first | (intro w hSw; (try dsimp only at hSw); obtain ⟨q0, q1, q2⟩ := hSw; go_simp; done) | (intro w hSw; (try dsimp only at hSw); obtain ⟨q0, q1, q2⟩ := hSw; go_simp; with_reducible rfl)
                try simp only [Act.put, List.setIfInBounds_toArray, List.set_cons_zero, List.set_cons_succ]
                clear hHeld hsl
                refine wpAnyH_ready (rs := [15]) (by kernel_rfl) (by simp) ?_
                refine AllReadyH.cons rfl (fun K hK => ?_) AllReadyH.nil
                have z0 := Thr.c0 (W := x5) (b := bX) (x := .bool false) (y := .slice none 0 0) (z := .slice none 0 0) (t := 27) TX_5.out
                have z1 := Thr.c1 (W := x5) (b := bX) (x := .bool false) (y := .slice none 0 0) (z := .slice none 0 0) (t := 27) TX_5.out
                have z2 := Thr.c2 (W := x5) (b := bX) (x := .bool false) (y := .slice none 0 0) (z := .slice none 0 0) (t := 27) TX_5.out
                have f0 := Thr.f0 (W := x5) (b := bX) (x := .bool false) (y := .slice none 0 0) (z := .slice none 0 0) (t := 27) TX_5.out 0
                have f1 := Thr.f0 (W := x5) (b := bX) (x := .bool false) (y := .slice none 0 0) (z := .slice none 0 0) (t := 27) TX_5.out 1
                have f2 := Thr.f0 (W := x5) (b := bX) (x := .bool false) (y := .slice none 0 0) (z := .slice none 0 0) (t := 27) TX_5.out 2
                go_simp
                have TX_6 := hide (TX_5.out.put (.bool an) (.slice aa aL ac) (.slice oa8 Ln oc8))
                have OW_6 := hide (OW_5.out.off TX_5.out (by decide) (fun k hk => put3_other (W := x5) hk (.bool an) (.slice aa aL ac) (.slice oa8 Ln oc8)))
                have BX6 := hide (put3_below BX5.out LBX.out (.bool an) (.slice aa aL ac) (.slice oa8 Ln oc8))
                clear z0 z1 z2 f0 f1 f2
                refine hK.out _ (put3 x5 bX (.bool an) (.slice aa aL ac) (.slice oa8 Ln oc8)) (HS3.out _ BX6.out) (fun hHeld => ?_)
                clear hK K hHeld
                generalize put3 x5 bX (.bool an) (.slice aa aL ac) (.slice oa8 Ln oc8) = x6 at *
                try simp only [Act.put, List.setIfInBounds_toArray, List.set_cons_zero, List.set_cons_succ]
                refine wpAnyH_done (by kernel_rfl) ?_ _
                go_wp2_with fail
                go_meet
                exact ⟨bX, oa8, oc8, rfl, TX_6.out, OW_6.out, BX6.out⟩
            · go_simp
              have tn := Thr.new x2 (.bool false) (.slice none 0 0) (.slice none 0 0) 27
              have hb := bel x2 (.cells #[.bool false, .slice none 0 0, .slice none 0 0] 27)
              have BX3 := hide (bafter BX2.out hb (Nat.le_refl _))
              have LBX : Hid (w3.heap.size ≤ x2.heap.size) := BX2.out.size
              have TX_3 := hide tn
              have OW_3 := hide (OW_2.out.below hb)
              clear tn hb
              generalize x2.heap.size = bX at *
              generalize x2.alloc (.cells #[.bool false, .slice none 0 0, .slice none 0 0] 27) = x3 at *
              refine hK.out _ _ (HS3.out _ BX3.out) (fun hHeld => ?_)
              clear hK K hHeld
              try simp only [Act.put, List.setIfInBounds_toArray, List.set_cons_zero, List.set_cons_succ]
              refine wpAnyH_ready (rs := [7]) (by kernel_rfl) (by simp) ?_
              refine AllReadyH.cons rfl (fun K hK => ?_) AllReadyH.nil
              go_simp
              have hl := row_lit x3 99 false (.slice none 0 0) 0
              have hb := bel x3 (.cells #[.int .i64 99, .bool false, .slice none 0 0] 31)
              have BX4 := hide (bafter BX3.out hb (Nat.le_refl _))
              have RL_4 := hide hl
              have OW_4 := hide (OW_3.out.below hb)
              have TX_4 := hide (TX_3.out.keep hb)
              have NB : Hid ((Value.slice oa5 Ln oc5).ownBlock ≠ some x3.heap.size) := fun e => by have := (OW_3.out.lt e).2; omega
              have LG1_4 : Hid (x3.heap.size < (x3.alloc (.cells #[.int .i64 99, .bool false, .slice none 0 0] 31)).heap.size) := by show _ < _; rw [World.size_alloc]; omega
              clear hl hb
              generalize x3.heap.size = g1 at *
              generalize x3.alloc (.cells #[.int .i64 99, .bool false, .slice none 0 0] 31) = x4 at *
              refine hK.out _ _ (HS3.out _ BX4.out) (fun hHeld => ?_)
              clear hK K hHeld
              try simp only [Act.put, List.setIfInBounds_toArray, List.set_cons_zero, List.set_cons_succ]
              refine wpAnyH_ready (rs := [8]) (by kernel_rfl) (by simp) ?_
              refine AllReadyH.cons rfl (fun K hK => ?_) AllReadyH.nil
              have hrl : RowP x4 (.slice (some ⟨g1, 0, none⟩) 1 1) [((99, false, .slice none 0 0, 0) : Pt)] := RL_4.out
              have how : OwnP w3.heap.size x4 (.slice oa5 A.length oc5) A := by rw [HLN.out]; exact OW_4.out
              obtain ⟨v8, x5, hrun8, ho8, hg8, ha8, hk8⟩ := run_appP x4 w3.heap.size 25 _ A how (.slice (some ⟨g1, 0, none⟩) 1 1) [((99, false, .slice none 0 0, 0) : Pt)] hrl (fun m hm => by simp at hm; subst hm; rfl) (by have := HL12.out; simp only [List.length_cons, List.length_nil]; omega) BX4.out.size
              obtain ⟨oa8, oc8, rfl, hcap1, _⟩ := ho8.len
              have hle : (A ++ [((99, false, .slice none 0 0, 0) : Pt)]).length = Ln + 1 := by rw [List.length_append, HLN.out]; rfl
              rw [hle] at ho8 hrun8 hcap1
              rw [HLN.out] at hrun8 hg8
              have OW_5 := hide ho8
              have BX5 : Hid (Below w3.heap.size w3 x5) := BX4.out.grown hg8 BX4.out.size (fun j hj => (OW_4.out.lt hj).1)
              have TX_5 : Hid (Thr x5 bX (.bool false) (.slice none 0 0) (.slice none 0 0) 27) := (hg8.block bX TX_4.out.lt (fun e => OW_4.out.apartT TX_4.out (by decide) e.symm)).trans TX_4.out
              have hsl := fun W : World => cut_parts W oa8 (Ln + 1) oc8 Ln (by omega)
              clear ho8 hg8 ha8 hk8 hle hrl how hcap1
              refine Lib.wp_append_run _ _ _ _ _ rfl _ _ rfl rfl _ _ hrun8 ?_
              clear hrun8
              refine hK.out _ _ (HS3.out _ BX5.out) (fun hHeld => ?_)
              clear hK K hHeld
              try simp only [Act.put, List.setIfInBounds_toArray, List.set_cons_zero, List.set_cons_succ]
              have hHeld := HS3.out _ BX5.out
              refine takeD (i := 12) (v := ?v13) (some 37) rfl (by kernel_rfl) (by kernel_rfl) (by kernel_rfl) (fun _ _ _ h => h) (Or.inl ⟨by rfl, ?hy13⟩) (by assumption) (by rfl) ?rest13
              case hy13 => first | (intro w hSw; (try dsimp only at hSw); obtain ⟨q0, q1, q2⟩ := hSw; go_simp; done) | (intro w hSw; (try dsimp only at hSw); obtain ⟨q0, q1, q2⟩ := hSw; go_simp; with_reducible rfl)
              try simp only [Act.put, List.setIfInBounds_toArray, List.set_cons_zero, List.set_cons_succ]
              refine takeD (i := 13) (v := ?v14) (some 38) rfl (by kernel_rfl) (by kernel_rfl) (by kernel_rfl) (fun _ _ _ h => h) (Or.inl ⟨by rfl, ?hy14⟩) (by assumption) (by rfl) ?rest14
              case hy14 => first | (intro w hSw; (try dsimp only at hSw); obtain ⟨q0, q1, q2⟩ := hSw; go_simp; done) | (intro w hSw; (try dsimp only at hSw); obtain ⟨q0, q1, q2⟩ := hSw; go_simp; with_reducible rfl)
              try simp only [Act.put, List.setIfInBounds_toArray, List.set_cons_zero, List.set_cons_succ]
              clear hHeld hsl
              refine wpAnyH_ready (rs := [15]) (by kernel_rfl) (by simp) ?_
              refine AllReadyH.cons rfl (fun K hK => ?_) AllReadyH.nil
              have z0 := Thr.c0 (W := x5) (b := bX) (x := .bool false) (y := .slice none 0 0) (z := .slice none 0 0) (t := 27) TX_5.out
              have z1 := Thr.c1 (W := x5) (b := bX) (x := .bool false) (y := .slice none 0 0) (z := .slice none 0 0) (t := 27) TX_5.out
              have z2 := Thr.c2 (W := x5) (b := bX) (x := .bool false) (y := .slice none 0 0) (z := .slice none 0 0) (t := 27) TX_5.out
              have f0 := Thr.f0 (W := x5) (b := bX) (x := .bool false) (y := .slice none 0 0) (z := .slice none 0 0) (t := 27) TX_5.out 0
              have f1 := Thr.f0 (W := x5) (b := bX) (x := .bool false) (y := .slice none 0 0) (z := .slice none 0 0) (t := 27) TX_5.out 1
              have f2 := Thr.f0 (W := x5) (b := bX) (x := .bool false) (y := .slice none 0 0) (z := .slice none 0 0) (t := 27) TX_5.out 2
              go_simp
              have TX_6 := hide (TX_5.out.put (.bool an) (.slice aa aL ac) (.slice oa8 Ln oc8))
              have OW_6 := hide (OW_5.out.off TX_5.out (by decide) (fun k hk => put3_other (W := x5) hk (.bool an) (.slice aa aL ac) (.slice oa8 Ln oc8)))
              have BX6 := hide (put3_below BX5.out LBX.out (.bool an) (.slice aa aL ac) (.slice oa8 Ln oc8))
              clear z0 z1 z2 f0 f1 f2
              refine hK.out _ (put3 x5 bX (.bool an) (.slice aa aL ac) (.slice oa8 Ln oc8)) (HS3.out _ BX6.out) (fun hHeld => ?_)
              clear hK K hHeld
              generalize put3 x5 bX (.bool an) (.slice aa aL ac) (.slice oa8 Ln oc8) = x6 at *
              try simp only [Act.put, List.setIfInBounds_toArray, List.set_cons_zero, List.set_cons_succ]
              refine wpAnyH_done (by kernel_rfl) ?_ _
              go_wp2_with fail
              go_meet
              exact ⟨bX, oa8, oc8, rfl, TX_6.out, OW_6.out, BX6.out⟩
          · go_simp
            have hl := row_lit x1 99 false (.slice none 0 0) 0
            have hb := bel x1 (.cells #[.int .i64 99, .bool false, .slice none 0 0] 31)
            have BX2 := hide (bafter BX1.out hb (Nat.le_refl _))
            have RL_2 := hide hl
            have OW_2 := hide (OW_1.out.below hb)
            have NE : Hid (x1.heap.size ≠ g0) := (Nat.ne_of_lt LG0_1.out).symm
            have LG0_2 : Hid (g0 < (x1.alloc (.cells #[.int .i64 99, .bool false, .slice none 0 0] 31)).heap.size) := Nat.lt_of_lt_of_le LG0_1.out hb.size
            have LG1_2 : Hid (x1.heap.size < (x1.alloc (.cells #[.int .i64 99, .bool false, .slice none 0 0] 31)).heap.size) := by show _ < _; rw [World.size_alloc]; omega
            clear hl hb
            generalize x1.heap.size = g1 at *
            generalize x1.alloc (.cells #[.int .i64 99, .bool false, .slice none 0 0] 31) = x2 at *
            refine hK.out _ _ (HS3.out _ BX2.out) (fun hHeld => ?_)
            clear hK K hHeld
            try simp only [Act.put, List.setIfInBounds_toArray, List.set_cons_zero, List.set_cons_succ]
            refine wpAnyH_ready (rs := [5, 14]) (by kernel_rfl) (by simp) ?_
            refine AllReadyH.cons rfl (fun K hK => ?_) (AllReadyH.cons rfl (fun K hK => ?_) AllReadyH.nil)
            · obtain ⟨v5, x3, hrun5, ho5, hg5, ha5, hk5⟩ := run_appP x2 w3.heap.size 25 _ [] OW_2.out (.slice ap Ln ak) A (HRA.out.below (bafter HW3.out BX2.out (Nat.le_refl _))) HONE.out (by have := HL12.out; have := HLN.out; simp only [List.length_nil]; omega) BX2.out.size
              rw [List.nil_append] at ho5
              obtain ⟨oa5, oc5, rfl, _, _⟩ := ho5.len
              rw [HLN.out] at ho5 hrun5 ha5
              have OW_3 := hide ho5
              have BX3 : Hid (Below w3.heap.size w3 x3) := BX2.out.grown hg5 BX2.out.size (fun j hj => (OW_2.out.lt hj).1)
              have RL_3 := hide (RL_2.out.grown1 hg5 LG1_2.out (by intro e; simp only [Value.ownBlock, Option.some.injEq] at e; exact NE.out (by first | exact e | exact e.symm)))
              have NB : Hid ((Value.slice oa5 Ln oc5).ownBlock ≠ some g1) := by
                intro e
                rcases ha5 with h | h
                · rw [h] at e; simp only [Value.ownBlock, Option.some.injEq] at e; exact NE.out (by first | exact e | exact e.symm)
                · rw [h] at e; simp only [Option.some.injEq] at e; have := LG1_2.out; omega
              have LG1_3 : Hid (g1 < x3.heap.size) := Nat.lt_of_lt_of_le LG1_2.out hg5.size
              clear ho5 hg5 ha5 hk5
              refine Lib.wp_append_run _ _ _ _ _ rfl _ _ rfl rfl _ _ hrun5 ?_
              clear hrun5
              refine hK.out _ _ (HS3.out _ BX3.out) (fun hHeld => ?_)
              clear hK K hHeld
              try simp only [Act.put, List.setIfInBounds_toArray, List.set_cons_zero, List.set_cons_succ]
              refine wpAnyH_ready (rs := [8, 14]) (by kernel_rfl) (by simp) ?_
              refine AllReadyH.cons rfl (fun K hK => ?_) (AllReadyH.cons rfl (fun K hK => ?_) AllReadyH.nil)
              · have hrl : RowP x3 (.slice (some ⟨g1, 0, none⟩) 1 1) [((99, false, .slice none 0 0, 0) : Pt)] := RL_3.out
                have how : OwnP w3.heap.size x3 (.slice oa5 A.length oc5) A := by rw [HLN.out]; exact OW_3.out
                obtain ⟨v8, x4, hrun8, ho8, hg8, ha8, hk8⟩ := run_appP x3 w3.heap.size 25 _ A how (.slice (some ⟨g1, 0, none⟩) 1 1) [((99, false, .slice none 0 0, 0) : Pt)] hrl (fun m hm => by simp at hm; subst hm; rfl) (by have := HL12.out; simp only [List.length_cons, List.length_nil]; omega) BX3.out.size
                obtain ⟨oa8, oc8, rfl, hcap1, _⟩ := ho8.len
                have hle : (A ++ [((99, false, .slice none 0 0, 0) : Pt)]).length = Ln + 1 := by rw [List.length_append, HLN.out]; rfl
                rw [hle] at ho8 hrun8 hcap1
                rw [HLN.out] at hrun8 hg8
                have OW_4 := hide ho8
                have BX4 : Hid (Below w3.heap.size w3 x4) := BX3.out.grown hg8 BX3.out.size (fun j hj => (OW_3.out.lt hj).1)
                have hsl := fun W : World => cut_parts W oa8 (Ln + 1) oc8 Ln (by omega)
                clear ho8 hg8 ha8 hk8 hle hrl how hcap1
                refine Lib.wp_append_run _ _ _ _ _ rfl _ _ rfl rfl _ _ hrun8 ?_
                clear hrun8
                refine hK.out _ _ (HS3.out _ BX4.out) (fun hHeld => ?_)
                clear hK K hHeld
                try simp only [Act.put, List.setIfInBounds_toArray, List.set_cons_zero, List.set_cons_succ]
                have hHeld := HS3.out _ BX4.out
                refine takeD (i := 12) (v := ?v15) (some 37) rfl (by kernel_rfl) (by kernel_rfl) (by kernel_rfl) (fun _ _ _ h => h) (Or.inl ⟨by rfl, ?hy15⟩) (by assumption) (by rfl) ?rest15
                case hy15 => first | (intro w hSw; (try dsimp only at hSw); obtain ⟨q0, q1, q2⟩ := hSw; go_simp; done) | (intro w hSw; (try dsimp only at hSw); obtain ⟨q0, q1, q2⟩ := hSw; go_simp; with_reducible rfl)
                try simp only [Act.put, List.setIfInBounds_toArray, List.set_cons_zero, List.set_cons_succ]
                refine takeD (i := 13) (v := ?v16) (some 38) rfl (by kernel_rfl) (by kernel_rfl) (by kernel_rfl) (fun _ _ _ h => h) (Or.inl ⟨by rfl, ?hy16⟩) (by assumption) (by rfl) ?rest16
                case hy16 => first | (intro w hSw; (try dsimp only at hSw); obtain ⟨q0, q1, q2⟩ := hSw; go_simp; done) | (intro w hSw; (try dsimp only at hSw); obtain ⟨q0, q1, q2⟩ := hSw; go_simp; with_reducible rfl)
                try simp only [Act.put, List.setIfInBounds_toArray, List.set_cons_zero, List.set_cons_succ]
                clear hHeld hsl
                refine wpAnyH_ready (rs := [14]) (by kernel_rfl) (by simp) ?_
                refine AllReadyH.cons rfl (fun K hK => ?_) AllReadyH.nil
                go_simp
                have tn := Thr.new x4 (.bool false) (.slice none 0 0) (.slice none 0 0) 27
                have hb := bel x4 (.cells #[.bool false, .slice none 0 0, .slice none 0 0] 27)
                have BX5 := hide (bafter BX4.out hb (Nat.le_refl _))
                have LBX : Hid (w3.heap.size ≤ x4.heap.size) := BX4.out.size
                have TX_5 := hide tn
                have OW_5 := hide (OW_4.out.below hb)
                clear tn hb
                generalize x4.heap.size = bX at *
                generalize x4.alloc (.cells #[.bool false, .slice none 0 0, .slice none 0 0] 27) = x5 at *
                refine hK.out _ _ (HS3.out _ BX5.out) (fun hHeld => ?_)
                clear hK K hHeld
                try simp only [Act.put, List.setIfInBounds_toArray, List.set_cons_zero, List.set_cons_succ]
                refine wpAnyH_ready (rs := [15]) (by kernel_rfl) (by simp) ?_
                refine AllReadyH.cons rfl (fun K hK => ?_) AllReadyH.nil
                have z0 := Thr.c0 (W := x5) (b := bX) (x := .bool false) (y := .slice none 0 0) (z := .slice none 0 0) (t := 27) TX_5.out
                have z1 := Thr.c1 (W := x5) (b := bX) (x := .bool false) (y := .slice none 0 0) (z := .slice none 0 0) (t := 27) TX_5.out
                have z2 := Thr.c2 (W := x5) (b := bX) (x := .bool false) (y := .slice none 0 0) (z := .slice none 0 0) (t := 27) TX_5.out
                have f0 := Thr.f0 (W := x5) (b := bX) (x := .bool false) (y := .slice none 0 0) (z := .slice none 0 0) (t := 27) TX_5.out 0
                have f1 := Thr.f0 (W := x5) (b := bX) (x := .bool false) (y := .slice none 0 0) (z := .slice none 0 0) (t := 27) TX_5.out 1
                have f2 := Thr.f0 (W := x5) (b := bX) (x := .bool false) (y := .slice none 0 0) (z := .slice none 0 0) (t := 27) TX_5.out 2
                go_simp
                have TX_6 := hide (TX_5.out.put (.bool an) (.slice aa aL ac) (.slice oa8 Ln oc8))
                have OW_6 := hide (OW_5.out.off TX_5.out (by decide) (fun k hk => put3_other (W := x5) hk (.bool an) (.slice aa aL ac) (.slice oa8 Ln oc8)))
                have BX6 := hide (put3_below BX5.out LBX.out (.bool an) (.slice aa aL ac) (.slice oa8 Ln oc8))
                clear z0 z1 z2 f0 f1 f2
                refine hK.out _ (put3 x5 bX (.bool an) (.slice aa aL ac) (.slice oa8 Ln oc8)) (HS3.out _ BX6.out) (fun hHeld => ?_)
                clear hK K hHeld
                generalize put3 x5 bX (.bool an) (.slice aa aL ac) (.slice oa8 Ln oc8) = x6 at *
                try simp only [Act.put, List.setIfInBounds_toArray, List.set_cons_zero, List.set_cons_succ]
                refine wpAnyH_done (by kernel_rfl) ?_ _
                go_wp2_with fail
                go_meet
                exact ⟨bX, oa8, oc8, rfl, TX_6.out, OW_6.out, BX6.out⟩
              · go_simp
                have tn := Thr.new x3 (.bool false) (.slice none 0 0) (.slice none 0 0) 27
                have hb := bel x3 (.cells #[.bool false, .slice none 0 0, .slice none 0 0] 27)
                have BX4 := hide (bafter BX3.out hb (Nat.le_refl _))
                have LBX : Hid (w3.heap.size ≤ x3.heap.size) := BX3.out.size
                have TX_4 := hide tn
                have OW_4 := hide (OW_3.out.below hb)
                have RL_4 := hide (RL_3.out.below hb)
                have LG1_4 : Hid (g1 < (x3.alloc (.cells #[.bool false, .slice none 0 0, .slice none 0 0] 27)).heap.size) := Nat.lt_of_lt_of_le LG1_3.out hb.size
                clear tn hb
                generalize x3.heap.size = bX at *
                generalize x3.alloc (.cells #[.bool false, .slice none 0 0, .slice none 0 0] 27) = x4 at *
                refine hK.out _ _ (HS3.out _ BX4.out) (fun hHeld => ?_)
                clear hK K hHeld
                try simp only [Act.put, List.setIfInBounds_toArray, List.set_cons_zero, List.set_cons_succ]
                refine wpAnyH_ready (rs := [8]) (by kernel_rfl) (by simp) ?_
                refine AllReadyH.cons rfl (fun K hK => ?_) AllReadyH.nil
                have hrl : RowP x4 (.slice (some ⟨g1, 0, none⟩) 1 1) [((99, false, .slice none 0 0, 0) : Pt)] := RL_4.out
                have how : OwnP w3.heap.size x4 (.slice oa5 A.length oc5) A := by rw [HLN.out]; exact OW_4.out
                obtain ⟨v8, x5, hrun8, ho8, hg8, ha8, hk8⟩ := run_appP x4 w3.heap.size 25 _ A how (.slice (some ⟨g1, 0, none⟩) 1 1) [((99, false, .slice none 0 0, 0) : Pt)] hrl (fun m hm => by simp at hm; subst hm; rfl) (by have := HL12.out; simp only [List.length_cons, List.length_nil]; omega) BX4.out.size
                obtain ⟨oa8, oc8, rfl, hcap1, _⟩ := ho8.len
                have hle : (A ++ [((99, false, .slice none 0 0, 0) : Pt)]).length = Ln + 1 := by rw [List.length_append, HLN.out]; rfl
                rw [hle] at ho8 hrun8 hcap1
                rw [HLN.out] at hrun8 hg8
                have OW_5 := hide ho8
                have BX5 : Hid (Below w3.heap.size w3 x5) := BX4.out.grown hg8 BX4.out.size (fun j hj => (OW_4.out.lt hj).1)
                have TX_5 : Hid (Thr x5 bX (.bool false) (.slice none 0 0) (.slice none 0 0) 27) := (hg8.block bX TX_4.out.lt (fun e => OW_4.out.apartT TX_4.out (by decide) e.symm)).trans TX_4.out
                have hsl := fun W : World => cut_parts W oa8 (Ln + 1) oc8 Ln (by omega)
                clear ho8 hg8 ha8 hk8 hle hrl how hcap1
                refine Lib.wp_append_run _ _ _ _ _ rfl _ _ rfl rfl _ _ hrun8 ?_
                clear hrun8
                refine hK.out _ _ (HS3.out _ BX5.out) (fun hHeld => ?_)
                clear hK K hHeld
                try simp only [Act.put, List.setIfInBounds_toArray, List.set_cons_zero, List.set_cons_succ]
                have hHeld := HS3.out _ BX5.out
                refine takeD (i := 12) (v := ?v17) (some 37) rfl (by kernel_rfl) (by kernel_rfl) (by kernel_rfl) (fun _ _ _ h => h) (Or.inl ⟨by rfl, ?hy17⟩) (by assumption) (by rfl) ?rest17
                case hy17 => first | (intro w hSw; (try dsimp only at hSw); obtain ⟨q0, q1, q2⟩ := hSw; go_simp; done) | (intro w hSw; (try dsimp only at hSw); obtain ⟨q0, q1, q2⟩ := hSw; go_simp; with_reducible rfl)
                try simp only [Act.put, List.setIfInBounds_toArray, List.set_cons_zero, List.set_cons_succ]
                refine takeD (i := 13) (v := ?v18) (some 38) rfl (by kernel_rfl) (by kernel_rfl) (by kernel_rfl) (fun _ _ _ h => h) (Or.inl ⟨by rfl, ?hy18⟩) (by assumption) (by rfl) ?rest18
                case hy18 => first | (intro w hSw; (try dsimp only at hSw); obtain ⟨q0, q1, q2⟩ := hSw; go_simp; done) | (intro w hSw; (try dsimp only at hSw); obtain ⟨q0, q1, q2⟩ := hSw; go_simp; with_reducible rfl)
                try simp only [Act.put, List.setIfInBounds_toArray, List.set_cons_zero, List.set_cons_succ]
                clear hHeld hsl
                refine wpAnyH_ready (rs := [15]) (by kernel_rfl) (by simp) ?_
                refine AllReadyH.cons rfl (fun K hK => ?_) AllReadyH.nil
                have z0 := Thr.c0 (W := x5) (b := bX) (x := .bool false) (y := .slice none 0 0) (z := .slice none 0 0) (t := 27) TX_5.out
                have z1 := Thr.c1 (W := x5) (b := bX) (x := .bool false) (y := .slice none 0 0) (z := .slice none 0 0) (t := 27) TX_5.out
                have z2 := Thr.c2 (W := x5) (b := bX) (x := .bool false) (y := .slice none 0 0) (z := .slice none 0 0) (t := 27) TX_5.out
                have f0 := Thr.f0 (W := x5) (b := bX) (x := .bool false) (y := .slice none 0 0) (z := .slice none 0 0) (t := 27) TX_5.out 0
                have f1 := Thr.f0 (W := x5) (b := bX) (x := .bool false) (y := .slice none 0 0) (z := .slice none 0 0) (t := 27) TX_5.out 1
                have f2 := Thr.f0 (W := x5) (b := bX) (x := .bool false) (y := .slice none 0 0) (z := .slice none 0 0) (t := 27) TX_5.out 2
                go_simp
                have TX_6 := hide (TX_5.out.put (.bool an) (.slice aa aL ac) (.slice oa8 Ln oc8))
                have OW_6 := hide (OW_5.out.off TX_5.out (by decide) (fun k hk => put3_other (W := x5) hk (.bool an) (.slice aa aL ac) (.slice oa8 Ln oc8)))
                have BX6 := hide (put3_below BX5.out LBX.out (.bool an) (.slice aa aL ac) (.slice oa8 Ln oc8))
                clear z0 z1 z2 f0 f1 f2
                refine hK.out _ (put3 x5 bX (.bool an) (.slice aa aL ac) (.slice oa8 Ln oc8)) (HS3.out _ BX6.out) (fun hHeld => ?_)
                clear hK K hHeld
                generalize put3 x5 bX (.bool an) (.slice aa aL ac) (.slice oa8 Ln oc8) = x6 at *
                try simp only [Act.put, List.setIfInBounds_toArray, List.set_cons_zero, List.set_cons_succ]
                refine wpAnyH_done (by kernel_rfl) ?_ _
                go_wp2_with fail
                go_meet
                exact ⟨bX, oa8, oc8, rfl, TX_6.out, OW_6.out, BX6.out⟩
            · go_simp
              have tn := Thr.new x2 (.bool false) (.slice none 0 0) (.slice none 0 0) 27
              have hb := bel x2 (.cells #[.bool false, .slice none 0 0, .slice none 0 0] 27)
              have BX3 := hide (bafter BX2.out hb (Nat.le_refl _))
              have LBX : Hid (w3.heap.size ≤ x2.heap.size) := BX2.out.size
              have TX_3 := hide tn
              have OW_3 := hide (OW_2.out.below hb)
              have RL_3 := hide (RL_2.out.below hb)
              have LG0_3 : Hid (g0 < (x2.alloc (.cells #[.bool false, .slice none 0 0, .slice none 0 0] 27)).heap.size) := Nat.lt_of_lt_of_le LG0_2.out hb.size
              have LG1_3 : Hid (g1 < (x2.alloc (.cells #[.bool false, .slice none 0 0, .slice none 0 0] 27)).heap.size) := Nat.lt_of_lt_of_le LG1_2.out hb.size
              clear tn hb
              generalize x2.heap.size = bX at *
              generalize x2.alloc (.cells #[.bool false, .slice none 0 0, .slice none 0 0] 27) = x3 at *
              refine hK.out _ _ (HS3.out _ BX3.out) (fun hHeld => ?_)
              clear hK K hHeld
              try simp only [Act.put, List.setIfInBounds_toArray, List.set_cons_zero, List.set_cons_succ]
              refine wpAnyH_ready (rs := [5]) (by kernel_rfl) (by simp) ?_
              refine AllReadyH.cons rfl (fun K hK => ?_) AllReadyH.nil
              obtain ⟨v5, x4, hrun5, ho5, hg5, ha5, hk5⟩ := run_appP x3 w3.heap.size 25 _ [] OW_3.out (.slice ap Ln ak) A (HRA.out.below (bafter HW3.out BX3.out (Nat.le_refl _))) HONE.out (by have := HL12.out; have := HLN.out; simp only [List.length_nil]; omega) BX3.out.size
              rw [List.nil_append] at ho5
              obtain ⟨oa5, oc5, rfl, _, _⟩ := ho5.len
              rw [HLN.out] at ho5 hrun5 ha5
              have OW_4 := hide ho5
              have BX4 : Hid (Below w3.heap.size w3 x4) := BX3.out.grown hg5 BX3.out.size (fun j hj => (OW_3.out.lt hj).1)
              have RL_4 := hide (RL_3.out.grown1 hg5 LG1_3.out (by intro e; simp only [Value.ownBlock, Option.some.injEq] at e; exact NE.out (by first | exact e | exact e.symm)))
              have NB : Hid ((Value.slice oa5 Ln oc5).ownBlock ≠ some g1) := by
                intro e
                rcases ha5 with h | h
                · rw [h] at e; simp only [Value.ownBlock, Option.some.injEq] at e; exact NE.out (by first | exact e | exact e.symm)
                · rw [h] at e; simp only [Option.some.injEq] at e; have := LG1_3.out; omega
              have LG1_4 : Hid (g1 < x4.heap.size) := Nat.lt_of_lt_of_le LG1_3.out hg5.size
              have TX_4 : Hid (Thr x4 bX (.bool false) (.slice none 0 0) (.slice none 0 0) 27) := (hg5.block bX TX_3.out.lt (fun e => OW_3.out.apartT TX_3.out (by decide) e.symm)).trans TX_3.out
              clear ho5 hg5 ha5 hk5
              refine Lib.wp_append_run _ _ _ _ _ rfl _ _ rfl rfl _ _ hrun5 ?_
              clear hrun5
              refine hK.out _ _ (HS3.out _ BX4.out) (fun hHeld => ?_)
              clear hK K hHeld
              try simp only [Act.put, List.setIfInBounds_toArray, List.set_cons_zero, List.set_cons_succ]
              refine wpAnyH_ready (rs := [8]) (by kernel_rfl) (by simp) ?_
              refine AllReadyH.cons rfl (fun K hK => ?_) AllReadyH.nil
              have hrl : RowP x4 (.slice (some ⟨g1, 0, none⟩) 1 1) [((99, false, .slice none 0 0, 0) : Pt)] := RL_4.out
              have how : OwnP w3.heap.size x4 (.slice oa5 A.length oc5) A := by rw [HLN.out]; exact OW_4.out
              obtain ⟨v8, x5, hrun8, ho8, hg8, ha8, hk8⟩ := run_appP x4 w3.heap.size 25 _ A how (.slice (some ⟨g1, 0, none⟩) 1 1) [((99, false, .slice none 0 0, 0) : Pt)] hrl (fun m hm => by simp at hm; subst hm; rfl) (by have := HL12.out; simp only [List.length_cons, List.length_nil]; omega) BX4.out.size
              obtain ⟨oa8, oc8, rfl, hcap1, _⟩ := ho8.len
              have hle : (A ++ [((99, false, .slice none 0 0, 0) : Pt)]).length = Ln + 1 := by rw [List.length_append, HLN.out]; rfl
              rw [hle] at ho8 hrun8 hcap1
              rw [HLN.out] at hrun8 hg8
              have OW_5 := hide ho8
              have BX5 : Hid (Below w3.heap.size w3 x5) := BX4.out.grown hg8 BX4.out.size (fun j hj => (OW_4.out.lt hj).1)
              have TX_5 : Hid (Thr x5 bX (.bool false) (.slice none 0 0) (.slice none 0 0) 27) := (hg8.block bX TX_4.out.lt (fun e => OW_4.out.apartT TX_4.out (by decide) e.symm)).trans TX_4.out
              have hsl := fun W : World => cut_parts W oa8 (Ln + 1) oc8 Ln (by omega)
              clear ho8 hg8 ha8 hk8 hle hrl how hcap1
              refine Lib.wp_append_run _ _ _ _ _ rfl _ _ rfl rfl _ _ hrun8 ?_
              clear hrun8
              refine hK.out _ _ (HS3.out _ BX5.out) (fun hHeld => ?_)
              clear hK K hHeld
              try simp only [Act.put, List.setIfInBounds_toArray, List.set_cons_zero, List.set_cons_succ]
              have hHeld := HS3.out _ BX5.out
              refine takeD (i := 12) (v := ?v19) (some 37) rfl (by kernel_rfl) (by kernel_rfl) (by kernel_rfl) (fun _ _ _ h => h) (Or.inl ⟨by rfl, ?hy19⟩) (by assumption) (by rfl) ?rest19
              case hy19 => first | (intro w hSw; (try dsimp only at hSw); obtain ⟨q0, q1, q2⟩ := hSw; go_simp; done) | (intro w hSw; (try dsimp only at hSw); obtain ⟨q0, q1, q2⟩ := hSw; go_simp; with_reducible rfl)
              try simp only [Act.put, List.setIfInBounds_toArray, List.set_cons_zero, List.set_cons_succ]
              refine takeD (i := 13) (v := ?v20) (some 38) rfl (by kernel_rfl) (by kernel_rfl) (by kernel_rfl) (fun _ _ _ h => h) (Or.inl ⟨by rfl, ?hy20⟩) (by assumption) (by rfl) ?rest20
              case hy20 => first | (intro w hSw; (try dsimp only at hSw); obtain ⟨q0, q1, q2⟩ := hSw; go_simp; done) | (intro w hSw; (try dsimp only at hSw); obtain ⟨q0, q1, q2⟩ := hSw; go_simp; with_reducible rfl)
              try simp only [Act.put, List.setIfInBounds_toArray, List.set_cons_zero, List.set_cons_succ]
              clear hHeld hsl
              refine wpAnyH_ready (rs := [15]) (by kernel_rfl) (by simp) ?_
              refine AllReadyH.cons rfl (fun K hK => ?_) AllReadyH.nil
              have z0 := Thr.c0 (W := x5) (b := bX) (x := .bool false) (y := .slice none 0 0) (z := .slice none 0 0) (t := 27) TX_5.out
              have z1 := Thr.c1 (W := x5) (b := bX) (x := .bool false) (y := .slice none 0 0) (z := .slice none 0 0) (t := 27) TX_5.out
              have z2 := Thr.c2 (W := x5) (b := bX) (x := .bool false) (y := .slice none 0 0) (z := .slice none 0 0) (t := 27) TX_5.out
              have f0 := Thr.f0 (W := x5) (b := bX) (x := .bool false) (y := .slice none 0 0) (z := .slice none 0 0) (t := 27) TX_5.out 0
              have f1 := Thr.f0 (W := x5) (b := bX) (x := .bool false) (y := .slice none 0 0) (z := .slice none 0 0) (t := 27) TX_5.out 1
              have f2 := Thr.f0 (W := x5) (b := bX) (x := .bool false) (y := .slice none 0 0) (z := .slice none 0 0) (t := 27) TX_5.out 2
              go_simp
              have TX_6 := hide (TX_5.out.put (.bool an) (.slice aa aL ac) (.slice oa8 Ln oc8))
              have OW_6 := hide (OW_5.out.off TX_5.out (by decide) (fun k hk => put3_other (W := x5) hk (.bool an) (.slice aa aL ac) (.slice oa8 Ln oc8)))
              have BX6 := hide (put3_below BX5.out LBX.out (.bool an) (.slice aa aL ac) (.slice oa8 Ln oc8))
              clear z0 z1 z2 f0 f1 f2
              refine hK.out _ (put3 x5 bX (.bool an) (.slice aa aL ac) (.slice oa8 Ln oc8)) (HS3.out _ BX6.out) (fun hHeld => ?_)
              clear hK K hHeld
              generalize put3 x5 bX (.bool an) (.slice aa aL ac) (.slice oa8 Ln oc8) = x6 at *
              try simp only [Act.put, List.setIfInBounds_toArray, List.set_cons_zero, List.set_cons_succ]
              refine wpAnyH_done (by kernel_rfl) ?_ _
              go_wp2_with fail
              go_meet
              exact ⟨bX, oa8, oc8, rfl, TX_6.out, OW_6.out, BX6.out⟩
          · go_simp
            have tn := Thr.new x1 (.bool false) (.slice none 0 0) (.slice none 0 0) 27
            have hb := bel x1 (.cells #[.bool false, .slice none 0 0, .slice none 0 0] 27)
            have BX2 := hide (bafter BX1.out hb (Nat.le_refl _))
            have LBX : Hid (w3.heap.size ≤ x1.heap.size) := BX1.out.size
            have TX_2 := hide tn
            have OW_2 := hide (OW_1.out.below hb)
            have LG0_2 : Hid (g0 < (x1.alloc (.cells #[.bool false, .slice none 0 0, .slice none 0 0] 27)).heap.size) := Nat.lt_of_lt_of_le LG0_1.out hb.size
            clear tn hb
            generalize x1.heap.size = bX at *
            generalize x1.alloc (.cells #[.bool false, .slice none 0 0, .slice none 0 0] 27) = x2 at *
            refine hK.out _ _ (HS3.out _ BX2.out) (fun hHeld => ?_)
            clear hK K hHeld
            try simp only [Act.put, List.setIfInBounds_toArray, List.set_cons_zero, List.set_cons_succ]
            refine wpAnyH_ready (rs := [5, 7]) (by kernel_rfl) (by simp) ?_
            refine AllReadyH.cons rfl (fun K hK => ?_) (AllReadyH.cons rfl (fun K hK => ?_) AllReadyH.nil)
            · obtain ⟨v5, x3, hrun5, ho5, hg5, ha5, hk5⟩ := run_appP x2 w3.heap.size 25 _ [] OW_2.out (.slice ap Ln ak) A (HRA.out.below (bafter HW3.out BX2.out (Nat.le_refl _))) HONE.out (by have := HL12.out; have := HLN.out; simp only [List.length_nil]; omega) BX2.out.size
              rw [List.nil_append] at ho5
              obtain ⟨oa5, oc5, rfl, _, _⟩ := ho5.len
              rw [HLN.out] at ho5 hrun5 ha5
              have OW_3 := hide ho5
              have BX3 : Hid (Below w3.heap.size w3 x3) := BX2.out.grown hg5 BX2.out.size (fun j hj => (OW_2.out.lt hj).1)
              have TX_3 : Hid (Thr x3 bX (.bool false) (.slice none 0 0) (.slice none 0 0) 27) := (hg5.block bX TX_2.out.lt (fun e => OW_2.out.apartT TX_2.out (by decide) e.symm)).trans TX_2.out
              clear ho5 hg5 ha5 hk5
              refine Lib.wp_append_run _ _ _ _ _ rfl _ _ rfl rfl _ _ hrun5 ?_
              clear hrun5
              refine hK.out _ _ (HS3.out _ BX3.out) (fun hHeld => ?_)
              clear hK K hHeld
              try simp only [Act.put, List.setIfInBounds_toArray, List.set_cons_zero, List.set_cons_succ]
              refine wpAnyH_ready (rs := [7]) (by kernel_rfl) (by simp) ?_
              refine AllReadyH.cons rfl (fun K hK => ?_) AllReadyH.nil
              go_simp
              have hl := row_lit x3 99 false (.slice none 0 0) 0
              have hb := bel x3 (.cells #[.int .i64 99, .bool false, .slice none 0 0] 31)
              have BX4 := hide (bafter BX3.out hb (Nat.le_refl _))
              have RL_4 := hide hl
              have OW_4 := hide (OW_3.out.below hb)
              have TX_4 := hide (TX_3.out.keep hb)
              have NB : Hid ((Value.slice oa5 Ln oc5).ownBlock ≠ some x3.heap.size) := fun e => by have := (OW_3.out.lt e).2; omega
              have LG1_4 : Hid (x3.heap.size < (x3.alloc (.cells #[.int .i64 99, .bool false, .slice none 0 0] 31)).heap.size) := by show _ < _; rw [World.size_alloc]; omega
              clear hl hb
              generalize x3.heap.size = g1 at *
              generalize x3.alloc (.cells #[.int .i64 99, .bool false, .slice none 0 0] 31) = x4 at *
              refine hK.out _ _ (HS3.out _ BX4.out) (fun hHeld => ?_)
              clear hK K hHeld
              try simp only [Act.put, List.setIfInBounds_toArray, List.set_cons_zero, List.set_cons_succ]
              refine wpAnyH_ready (rs := [8]) (by kernel_rfl) (by simp) ?_
              refine AllReadyH.cons rfl (fun K hK => ?_) AllReadyH.nil
              have hrl : RowP x4 (.slice (some ⟨g1, 0, none⟩) 1 1) [((99, false, .slice none 0 0, 0) : Pt)] := RL_4.out
              have how : OwnP w3.heap.size x4 (.slice oa5 A.length oc5) A := by rw [HLN.out]; exact OW_4.out
              obtain ⟨v8, x5, hrun8, ho8, hg8, ha8, hk8⟩ := run_appP x4 w3.heap.size 25 _ A how (.slice (some ⟨g1, 0, none⟩) 1 1) [((99, false, .slice none 0 0, 0) : Pt)] hrl (fun m hm => by simp at hm; subst hm; rfl) (by have := HL12.out; simp only [List.length_cons, List.length_nil]; omega) BX4.out.size
              obtain ⟨oa8, oc8, rfl, hcap1, _⟩ := ho8.len
              have hle : (A ++ [((99, false, .slice none 0 0, 0) : Pt)]).length = Ln + 1 := by rw [List.length_append, HLN.out]; rfl
              rw [hle] at ho8 hrun8 hcap1
              rw [HLN.out] at hrun8 hg8
              have OW_5 := hide ho8
              have BX5 : Hid (Below w3.heap.size w3 x5) := BX4.out.grown hg8 BX4.out.size (fun j hj => (OW_4.out.lt hj).1)
              have TX_5 : Hid (Thr x5 bX (.bool false) (.slice none 0 0) (.slice none 0 0) 27) := (hg8.block bX TX_4.out.lt (fun e => OW_4.out.apartT TX_4.out (by decide) e.symm)).trans TX_4.out
              have hsl := fun W : World => cut_parts W oa8 (Ln + 1) oc8 Ln (by omega)
              clear ho8 hg8 ha8 hk8 hle hrl how hcap1
              refine Lib.wp_append_run _ _ _ _ _ rfl _ _ rfl rfl _ _ hrun8 ?_
              clear hrun8
              refine hK.out _ _ (HS3.out _ BX5.out) (fun hHeld => ?_)
              clear hK K hHeld
              try simp only [Act.put, List.setIfInBounds_toArray, List.set_cons_zero, List.set_cons_succ]
              have hHeld := HS3.out _ BX5.out
              refine takeD (i := 12) (v := ?v21) (some 37) rfl (by kernel_rfl) (by kernel_rfl) (by kernel_rfl) (fun _ _ _ h => h) (Or.inl ⟨by rfl, ?hy21⟩) (by assumption) (by rfl) ?rest21
              case hy21 => first | (intro w hSw; (try dsimp only at hSw); obtain ⟨q0, q1, q2⟩ := hSw; go_simp; done) | (intro w hSw; (try dsimp only at hSw); obtain ⟨q0, q1, q2⟩ := hSw; go_simp; with_reducible rfl)
              try simp only [Act.put, List.setIfInBounds_toArray, List.set_cons_zero, List.set_cons_succ]
              refine takeD (i := 13) (v := ?v22) (some 38) rfl (by kernel_rfl) (by kernel_rfl) (by kernel_rfl) (fun _ _ _ h => h) (Or.inl ⟨by rfl, ?hy22⟩) (by assumption) (by rfl) ?rest22
              case hy22 => first | (intro w hSw; (try dsimp only at hSw); obtain ⟨q0, q1, q2⟩ := hSw; go_simp; done) | (intro w hSw; (try dsimp only at hSw); obtain ⟨q0, q1, q2⟩ := hSw; go_simp; with_reducible rfl)
              try simp only [Act.put, List.setIfInBounds_toArray, List.set_cons_zero, List.set_cons_succ]
              clear hHeld hsl
              refine wpAnyH_ready (rs := [15]) (by kernel_rfl) (by simp) ?_
              refine AllReadyH.cons rfl (fun K hK => ?_) AllReadyH.nil
              have z0 := Thr.c0 (W := x5) (b := bX) (x := .bool false) (y := .slice none 0 0) (z := .slice none 0 0) (t := 27) TX_5.out
              have z1 := Thr.c1 (W := x5) (b := bX) (x := .bool false) (y := .slice none 0 0) (z := .slice none 0 0) (t := 27) TX_5.out
              have z2 := Thr.c2 (W := x5) (b := bX) (x := .bool false) (y := .slice none 0 0) (z := .slice none 0 0) (t := 27) TX_5.out
              have f0 := Thr.f0 (W := x5) (b := bX) (x := .bool false) (y := .slice none 0 0) (z := .slice none 0 0) (t := 27) TX_5.out 0
              have f1 := Thr.f0 (W := x5) (b := bX) (x := .bool false) (y := .slice none 0 0) (z := .slice none 0 0) (t := 27) TX_5.out 1
              have f2 := Thr.f0 (W := x5) (b := bX) (x := .bool false) (y := .slice none 0 0) (z := .slice none 0 0) (t := 27) TX_5.out 2
              go_simp
              have TX_6 := hide (TX_5.out.put (.bool an) (.slice aa aL ac) (.slice oa8 Ln oc8))
              have OW_6 := hide (OW_5.out.off TX_5.out (by decide) (fun k hk => put3_other (W := x5) hk (.bool an) (.slice aa aL ac) (.slice oa8 Ln oc8)))
              have BX6 := hide (put3_below BX5.out LBX.out (.bool an) (.slice aa aL ac) (.slice oa8 Ln oc8))
              clear z0 z1 z2 f0 f1 f2
              refine hK.out _ (put3 x5 bX (.bool an) (.slice aa aL ac) (.slice oa8 Ln oc8)) (HS3.out _ BX6.out) (fun hHeld => ?_)
              clear hK K hHeld
              generalize put3 x5 bX (.bool an) (.slice aa aL ac) (.slice oa8 Ln oc8) = x6 at *
              try simp only [Act.put, List.setIfInBounds_toArray, List.set_cons_zero, List.set_cons_succ]
              refine wpAnyH_done (by kernel_rfl) ?_ _
              go_wp2_with fail
              go_meet
              exact ⟨bX, oa8, oc8, rfl, TX_6.out, OW_6.out, BX6.out⟩
            · go_simp
              have hl := row_lit x2 99 false (.slice none 0 0) 0
              have hb := bel x2 (.cells #[.int .i64 99, .bool false, .slice none 0 0] 31)
              have BX3 := hide (bafter BX2.out hb (Nat.le_refl _))
              have RL_3 := hide hl
              have OW_3 := hide (OW_2.out.below hb)
              have TX_3 := hide (TX_2.out.keep hb)
              have NE : Hid (x2.heap.size ≠ g0) := (Nat.ne_of_lt LG0_2.out).symm
              have LG0_3 : Hid (g0 < (x2.alloc (.cells #[.int .i64 99, .bool false, .slice none 0 0] 31)).heap.size) := Nat.lt_of_lt_of_le LG0_2.out hb.size
              have LG1_3 : Hid (x2.heap.size < (x2.alloc (.cells #[.int .i64 99, .bool false, .slice none 0 0] 31)).heap.size) := by show _ < _; rw [World.size_alloc]; omega
              clear hl hb
              generalize x2.heap.size = g1 at *
              generalize x2.alloc (.cells #[.int .i64 99, .bool false, .slice none 0 0] 31) = x3 at *
              refine hK.out _ _ (HS3.out _ BX3.out) (fun hHeld => ?_)
              clear hK K hHeld
              try simp only [Act.put, List.setIfInBounds_toArray, List.set_cons_zero, List.set_cons_succ]
              refine wpAnyH_ready (rs := [5]) (by kernel_rfl) (by simp) ?_
              refine AllReadyH.cons rfl (fun K hK => ?_) AllReadyH.nil
              obtain ⟨v5, x4, hrun5, ho5, hg5, ha5, hk5⟩ := run_appP x3 w3.heap.size 25 _ [] OW_3.out (.slice ap Ln ak) A (HRA.out.below (bafter HW3.out BX3.out (Nat.le_refl _))) HONE.out (by have := HL12.out; have := HLN.out; simp only [List.length_nil]; omega) BX3.out.size
              rw [List.nil_append] at ho5
              obtain ⟨oa5, oc5, rfl, _, _⟩ := ho5.len
              rw [HLN.out] at ho5 hrun5 ha5
              have OW_4 := hide ho5
              have BX4 : Hid (Below w3.heap.size w3 x4) := BX3.out.grown hg5 BX3.out.size (fun j hj => (OW_3.out.lt hj).1)
              have RL_4 := hide (RL_3.out.grown1 hg5 LG1_3.out (by intro e; simp only [Value.ownBlock, Option.some.injEq] at e; exact NE.out (by first | exact e | exact e.symm)))
              have NB : Hid ((Value.slice oa5 Ln oc5).ownBlock ≠ some g1) := by
                intro e
                rcases ha5 with h | h
                · rw [h] at e; simp only [Value.ownBlock, Option.some.injEq] at e; exact NE.out (by first | exact e | exact e.symm)
                · rw [h] at e; simp only [Option.some.injEq] at e; have := LG1_3.out; omega
              have LG1_4 : Hid (g1 < x4.heap.size) := Nat.lt_of_lt_of_le LG1_3.out hg5.size
              have TX_4 : Hid (Thr x4 bX (.bool false) (.slice none 0 0) (.slice none 0 0) 27) := (hg5.block bX TX_3.out.lt (fun e => OW_3.out.apartT TX_3.out (by decide) e.symm)).trans TX_3.out
              clear ho5 hg5 ha5 hk5
              refine Lib.wp_append_run _ _ _ _ _ rfl _ _ rfl rfl _ _ hrun5 ?_
              clear hrun5
              refine hK.out _ _ (HS3.out _ BX4.out) (fun hHeld => ?_)
              clear hK K hHeld
              try simp only [Act.put, List.setIfInBounds_toArray, List.set_cons_zero, List.set_cons_succ]
              refine wpAnyH_ready (rs := [8]) (by kernel_rfl) (by simp) ?_
              refine AllReadyH.cons rfl (fun K hK => ?_) AllReadyH.nil
              have hrl : RowP x4 (.slice (some ⟨g1, 0, none⟩) 1 1) [((99, false, .slice none 0 0, 0) : Pt)] := RL_4.out
              have how : OwnP w3.heap.size x4 (.slice oa5 A.length oc5) A := by rw [HLN.out]; exact OW_4.out
              obtain ⟨v8, x5, hrun8, ho8, hg8, ha8, hk8⟩ := run_appP x4 w3.heap.size 25 _ A how (.slice (some ⟨g1, 0, none⟩) 1 1) [((99, false, .slice none 0 0, 0) : Pt)] hrl (fun m hm => by simp at hm; subst hm; rfl) (by have := HL12.out; simp only [List.length_cons, List.length_nil]; omega) BX4.out.size
              obtain ⟨oa8, oc8, rfl, hcap1, _⟩ := ho8.len
              have hle : (A ++ [((99, false, .slice none 0 0, 0) : Pt)]).length = Ln + 1 := by rw [List.length_append, HLN.out]; rfl
              rw [hle] at ho8 hrun8 hcap1
              rw [HLN.out] at hrun8 hg8
              have OW_5 := hide ho8
              have BX5 : Hid (Below w3.heap.size w3 x5) := BX4.out.grown hg8 BX4.out.size (fun j hj => (OW_4.out.lt hj).1)
              have TX_5 : Hid (Thr x5 bX (.bool false) (.slice none 0 0) (.slice none 0 0) 27) := (hg8.block bX TX_4.out.lt (fun e => OW_4.out.apartT TX_4.out (by decide) e.symm)).trans TX_4.out
              have hsl := fun W : World => cut_parts W oa8 (Ln + 1) oc8 Ln (by omega)
              clear ho8 hg8 ha8 hk8 hle hrl how hcap1
              refine Lib.wp_append_run _ _ _ _ _ rfl _ _ rfl rfl _ _ hrun8 ?_
              clear hrun8
              refine hK.out _ _ (HS3.out _ BX5.out) (fun hHeld => ?_)
              clear hK K hHeld
              try simp only [Act.put, List.setIfInBounds_toArray, List.set_cons_zero, List.set_cons_succ]
              have hHeld := HS3.out _ BX5.out
              refine takeD (i := 12) (v := ?v23) (some 37) rfl (by kernel_rfl) (by kernel_rfl) (by kernel_rfl) (fun _ _ _ h => h) (Or.inl ⟨by rfl, ?hy23⟩) (by assumption) (by rfl) ?rest23
              case hy23 => first | (intro w hSw; (try dsimp only at hSw); obtain ⟨q0, q1, q2⟩ := hSw; go_simp; done) | (intro w hSw; (try dsimp only at hSw); obtain ⟨q0, q1, q2⟩ := hSw; go_simp; with_reducible rfl)
              try simp only [Act.put, List.setIfInBounds_toArray, List.set_cons_zero, List.set_cons_succ]
              refine takeD (i := 13) (v := ?v24) (some 38) rfl (by kernel_rfl) (by kernel_rfl) (by kernel_rfl) (fun _ _ _ h => h) (Or.inl ⟨by rfl, ?hy24⟩) (by assumption) (by rfl) ?rest24
              case hy24 => first | (intro w hSw; (try dsimp only at hSw); obtain ⟨q0, q1, q2⟩ := hSw; go_simp; done) | (intro w hSw; (try dsimp only at hSw); obtain ⟨q0, q1, q2⟩ := hSw; go_simp; with_reducible rfl)
              try simp only [Act.put, List.setIfInBounds_toArray, List.set_cons_zero, List.set_cons_succ]
              clear hHeld hsl
              refine wpAnyH_ready (rs := [15]) (by kernel_rfl) (by simp) ?_
              refine AllReadyH.cons rfl (fun K hK => ?_) AllReadyH.nil
              have z0 := Thr.c0 (W := x5) (b := bX) (x := .bool false) (y := .slice none 0 0) (z := .slice none 0 0) (t := 27) TX_5.out
              have z1 := Thr.c1 (W := x5) (b := bX) (x := .bool false) (y := .slice none 0 0) (z := .slice none 0 0) (t := 27) TX_5.out
              have z2 := Thr.c2 (W := x5) (b := bX) (x := .bool false) (y := .slice none 0 0) (z := .slice none 0 0) (t := 27) TX_5.out
              have f0 := Thr.f0 (W := x5) (b := bX) (x := .bool false) (y := .slice none 0 0) (z := .slice none 0 0) (t := 27) TX_5.out 0
              have f1 := Thr.f0 (W := x5) (b := bX) (x := .bool false) (y := .slice none 0 0) (z := .slice none 0 0) (t := 27) TX_5.out 1
              have f2 := Thr.f0 (W := x5) (b := bX) (x := .bool false) (y := .slice none 0 0) (z := .slice none 0 0) (t := 27) TX_5.out 2
              go_simp
              have TX_6 := hide (TX_5.out.put (.bool an) (.slice aa aL ac) (.slice oa8 Ln oc8))
              have OW_6 := hide (OW_5.out.off TX_5.out (by decide) (fun k hk => put3_other (W := x5) hk (.bool an) (.slice aa aL ac) (.slice oa8 Ln oc8)))
              have BX6 := hide (put3_below BX5.out LBX.out (.bool an) (.slice aa aL ac) (.slice oa8 Ln oc8))
              clear z0 z1 z2 f0 f1 f2
              refine hK.out _ (put3 x5 bX (.bool an) (.slice aa aL ac) (.slice oa8 Ln oc8)) (HS3.out _ BX6.out) (fun hHeld => ?_)
              clear hK K hHeld
              generalize put3 x5 bX (.bool an) (.slice aa aL ac) (.slice oa8 Ln oc8) = x6 at *
              try simp only [Act.put, List.setIfInBounds_toArray, List.set_cons_zero, List.set_cons_succ]
              refine wpAnyH_done (by kernel_rfl) ?_ _
              go_wp2_with fail
              go_meet
              exact ⟨bX, oa8, oc8, rfl, TX_6.out, OW_6.out, BX6.out⟩
        · go_simp
          have hl := row_lit wd 99 false (.slice none 0 0) 0
          have hb := bel wd (.cells #[.int .i64 99, .bool false, .slice none 0 0] 31)
          have BX1 := hide (bafter BX0.out hb (Nat.le_refl _))
          have RL_1 := hide hl
          have LG1_1 : Hid (wd.heap.size < (wd.alloc (.cells #[.int .i64 99, .bool false, .slice none 0 0] 31)).heap.size) := by show _ < _; rw [World.size_alloc]; omega
          clear hl hb
          generalize wd.heap.size = g1 at *
          generalize wd.alloc (.cells #[.int .i64 99, .bool false, .slice none 0 0] 31) = x1 at *
          refine hK.out _ _ (HS3.out _ BX1.out) (fun hHeld => ?_)
          clear hK K hHeld
          try simp only [Act.put, List.setIfInBounds_toArray, List.set_cons_zero, List.set_cons_succ]
          refine wpAnyH_ready (rs := [2, 14]) (by kernel_rfl) (by simp) ?_
          refine AllReadyH.cons rfl (fun K hK => ?_) (AllReadyH.cons rfl (fun K hK => ?_) AllReadyH.nil)
          · go_simp
            have ho := own_none x1
            have hb := bel x1 (.cells #[] 31)
            have BX2 := hide (bafter BX1.out hb (Nat.le_refl _))
            have OW_2 := hide (ho.down BX1.out.size)
            have RL_2 := hide (RL_1.out.below hb)
            have NE : Hid (g1 ≠ x1.heap.size) := Nat.ne_of_lt LG1_1.out
            have LG1_2 : Hid (g1 < (x1.alloc (.cells #[] 31)).heap.size) := Nat.lt_of_lt_of_le LG1_1.out hb.size
            have LG0_2 : Hid (x1.heap.size < (x1.alloc (.cells #[] 31)).heap.size) := by show _ < _; rw [World.size_alloc]; omega
            clear ho hb
            generalize x1.heap.size = g0 at *
            generalize x1.alloc (.cells #[] 31) = x2 at *
            refine hK.out _ _ (HS3.out _ BX2.out) (fun hHeld => ?_)
            clear hK K hHeld
            try simp only [Act.put, List.setIfInBounds_toArray, List.set_cons_zero, List.set_cons_succ]
            refine wpAnyH_ready (rs := [5, 14]) (by kernel_rfl) (by simp) ?_
            refine AllReadyH.cons rfl (fun K hK => ?_) (AllReadyH.cons rfl (fun K hK => ?_) AllReadyH.nil)
            · obtain ⟨v5, x3, hrun5, ho5, hg5, ha5, hk5⟩ := run_appP x2 w3.heap.size 25 _ [] OW_2.out (.slice ap Ln ak) A (HRA.out.below (bafter HW3.out BX2.out (Nat.le_refl _))) HONE.out (by have := HL12.out; have := HLN.out; simp only [List.length_nil]; omega) BX2.out.size
              rw [List.nil_append] at ho5
              obtain ⟨oa5, oc5, rfl, _, _⟩ := ho5.len
              rw [HLN.out] at ho5 hrun5 ha5
              have OW_3 := hide ho5
              have BX3 : Hid (Below w3.heap.size w3 x3) := BX2.out.grown hg5 BX2.out.size (fun j hj => (OW_2.out.lt hj).1)
              have RL_3 := hide (RL_2.out.grown1 hg5 LG1_2.out (by intro e; simp only [Value.ownBlock, Option.some.injEq] at e; exact NE.out (by first | exact e | exact e.symm)))
              have NB : Hid ((Value.slice oa5 Ln oc5).ownBlock ≠ some g1) := by
                intro e
                rcases ha5 with h | h
                · rw [h] at e; simp only [Value.ownBlock, Option.some.injEq] at e; exact NE.out (by first | exact e | exact e.symm)
                · rw [h] at e; simp only [Option.some.injEq] at e; have := LG1_2.out; omega
              have LG1_3 : Hid (g1 < x3.heap.size) := Nat.lt_of_lt_of_le LG1_2.out hg5.size
              clear ho5 hg5 ha5 hk5
              refine Lib.wp_append_run _ _ _ _ _ rfl _ _ rfl rfl _ _ hrun5 ?_
              clear hrun5
              refine hK.out _ _ (HS3.out _ BX3.out) (fun hHeld => ?_)
              clear hK K hHeld
              try simp only [Act.put, List.setIfInBounds_toArray, List.set_cons_zero, List.set_cons_succ]
              refine wpAnyH_ready (rs := [8, 14]) (by kernel_rfl) (by simp) ?_
              refine AllReadyH.cons rfl (fun K hK => ?_) (AllReadyH.cons rfl (fun K hK => ?_) AllReadyH.nil)
              · have hrl : RowP x3 (.slice (some ⟨g1, 0, none⟩) 1 1) [((99, false, .slice none 0 0, 0) : Pt)] := RL_3.out
                have how : OwnP w3.heap.size x3 (.slice oa5 A.length oc5) A := by rw [HLN.out]; exact OW_3.out
                obtain ⟨v8, x4, hrun8, ho8, hg8, ha8, hk8⟩ := run_appP x3 w3.heap.size 25 _ A how (.slice (some ⟨g1, 0, none⟩) 1 1) [((99, false, .slice none 0 0, 0) : Pt)] hrl (fun m hm => by simp at hm; subst hm; rfl) (by have := HL12.out; simp only [List.length_cons, List.length_nil]; omega) BX3.out.size
                obtain ⟨oa8, oc8, rfl, hcap1, _⟩ := ho8.len
                have hle : (A ++ [((99, false, .slice none 0 0, 0) : Pt)]).length = Ln + 1 := by rw [List.length_append, HLN.out]; rfl
                rw [hle] at ho8 hrun8 hcap1
                rw [HLN.out] at hrun8 hg8
                have OW_4 := hide ho8
                have BX4 : Hid (Below w3.heap.size w3 x4) := BX3.out.grown hg8 BX3.out.size (fun j hj => (OW_3.out.lt hj).1)
                have hsl := fun W : World => cut_parts W oa8 (Ln + 1) oc8 Ln (by omega)
                clear ho8 hg8 ha8 hk8 hle hrl how hcap1
                refine Lib.wp_append_run _ _ _ _ _ rfl _ _ rfl rfl _ _ hrun8 ?_
                clear hrun8
                refine hK.out _ _ (HS3.out _ BX4.out) (fun hHeld => ?_)
                clear hK K hHeld
                try simp only [Act.put, List.setIfInBounds_toArray, List.set_cons_zero, List.set_cons_succ]
                have hHeld := HS3.out _ BX4.out
                refine takeD (i := 12) (v := ?v25) (some 37) rfl (by kernel_rfl) (by kernel_rfl) (by kernel_rfl) (fun _ _ _ h => h) (Or.inl ⟨by rfl, ?hy25⟩) (by assumption) (by rfl) ?rest25
                case hy25 => first | (intro w hSw; (try dsimp only at hSw); obtain ⟨q0, q1, q2⟩ := hSw; go_simp; done) | (intro w hSw; (try dsimp only at hSw); obtain ⟨q0, q1, q2⟩ := hSw; go_simp; with_reducible rfl)
                try simp only [Act.put, List.setIfInBounds_toArray, List.set_cons_zero, List.set_cons_succ]
                refine takeD (i := 13) (v := ?v26) (some 38) rfl (by kernel_rfl) (by kernel_rfl) (by kernel_rfl) (fun _ _ _ h => h) (Or.inl ⟨by rfl, ?hy26⟩) (by assumption) (by rfl) ?rest26
                case hy26 => first | (intro w hSw; (try dsimp only at hSw); obtain ⟨q0, q1, q2⟩ := hSw; go_simp; done) | (intro w hSw; (try dsimp only at hSw); obtain ⟨q0, q1, q2⟩ := hSw; go_simp; with_reducible rfl)
                try simp only [Act.put, List.setIfInBounds_toArray, List.set_cons_zero, List.set_cons_succ]
                clear hHeld hsl
                refine wpAnyH_ready (rs := [14]) (by kernel_rfl) (by simp) ?_
                refine AllReadyH.cons rfl (fun K hK => ?_) AllReadyH.nil
                go_simp
                have tn := Thr.new x4 (.bool false) (.slice none 0 0) (.slice none 0 0) 27
                have hb := bel x4 (.cells #[.bool false, .slice none 0 0, .slice none 0 0] 27)
                have BX5 := hide (bafter BX4.out hb (Nat.le_refl _))
                have LBX : Hid (w3.heap.size ≤ x4.heap.size) := BX4.out.size
                have TX_5 := hide tn
                have OW_5 := hide (OW_4.out.below hb)
                clear tn hb
                generalize x4.heap.size = bX at *
                generalize x4.alloc (.cells #[.bool false, .slice none 0 0, .slice none 0 0] 27) = x5 at *
                refine hK.out _ _ (HS3.out _ BX5.out) (fun hHeld => ?_)
                clear hK K hHeld
                try simp only [Act.put, List.setIfInBounds_toArray, List.set_cons_zero, List.set_cons_succ]
                refine wpAnyH_ready (rs := [15]) (by kernel_rfl) (by simp) ?_
                refine AllReadyH.cons rfl (fun K hK => ?_) AllReadyH.nil
                have z0 := Thr.c0 (W := x5) (b := bX) (x := .bool false) (y := .slice none 0 0) (z := .slice none 0 0) (t := 27) TX_5.out
                have z1 := Thr.c1 (W := x5) (b := bX) (x := .bool false) (y := .slice none 0 0) (z := .slice none 0 0) (t := 27) TX_5.out
                have z2 := Thr.c2 (W := x5) (b := bX) (x := .bool false) (y := .slice none 0 0) (z := .slice none 0 0) (t := 27) TX_5.out
                have f0 := Thr.f0 (W := x5) (b := bX) (x := .bool false) (y := .slice none 0 0) (z := .slice none 0 0) (t := 27) TX_5.out 0
                have f1 := Thr.f0 (W := x5) (b := bX) (x := .bool false) (y := .slice none 0 0) (z := .slice none 0 0) (t := 27) TX_5.out 1
                have f2 := Thr.f0 (W := x5) (b := bX) (x := .bool false) (y := .slice none 0 0) (z := .slice none 0 0) (t := 27) TX_5.out 2
                go_simp
                have TX_6 := hide (TX_5.out.put (.bool an) (.slice aa aL ac) (.slice oa8 Ln oc8))
                have OW_6 := hide (OW_5.out.off TX_5.out (by decide) (fun k hk => put3_other (W := x5) hk (.bool an) (.slice aa aL ac) (.slice oa8 Ln oc8)))
                have BX6 := hide (put3_below BX5.out LBX.out (.bool an) (.slice aa aL ac) (.slice oa8 Ln oc8))
                clear z0 z1 z2 f0 f1 f2
                refine hK.out _ (put3 x5 bX (.bool an) (.slice aa aL ac) (.slice oa8 Ln oc8)) (HS3.out _ BX6.out) (fun hHeld => ?_)
                clear hK K hHeld
                generalize put3 x5 bX (.bool an) (.slice aa aL ac) (.slice oa8 Ln oc8) = x6 at *
                try simp only [Act.put, List.setIfInBounds_toArray, List.set_cons_zero, List.set_cons_succ]
                refine wpAnyH_done (by kernel_rfl) ?_ _
                go_wp2_with fail
                go_meet
                exact ⟨bX, oa8, oc8, rfl, TX_6.out, OW_6.out, BX6.out⟩
              · go_simp
                have tn := Thr.new x3 (.bool false) (.slice none 0 0) (.slice none 0 0) 27
                have hb := bel x3 (.cells #[.bool false, .slice none 0 0, .slice none 0 0] 27)
                have BX4 := hide (bafter BX3.out hb (Nat.le_refl _))
                have LBX : Hid (w3.heap.size ≤ x3.heap.size) := BX3.out.size
                have TX_4 := hide tn
                have OW_4 := hide (OW_3.out.below hb)
                have RL_4 := hide (RL_3.out.below hb)
                have LG1_4 : Hid (g1 < (x3.alloc (.cells #[.bool false, .slice none 0 0, .slice none 0 0] 27)).heap.size) := Nat.lt_of_lt_of_le LG1_3.out hb.size
                clear tn hb
                generalize x3.heap.size = bX at *
                generalize x3.alloc (.cells #[.bool false, .slice none 0 0, .slice none 0 0] 27) = x4 at *
                refine hK.out _ _ (HS3.out _ BX4.out) (fun hHeld => ?_)
                clear hK K hHeld
                try simp only [Act.put, List.setIfInBounds_toArray, List.set_cons_zero, List.set_cons_succ]
                refine wpAnyH_ready (rs := [8]) (by kernel_rfl) (by simp) ?_
                refine AllReadyH.cons rfl (fun K hK => ?_) AllReadyH.nil
                have hrl : RowP x4 (.slice (some ⟨g1, 0, none⟩) 1 1) [((99, false, .slice none 0 0, 0) : Pt)] := RL_4.out
                have how : OwnP w3.heap.size x4 (.slice oa5 A.length oc5) A := by rw [HLN.out]; exact OW_4.out
                obtain ⟨v8, x5, hrun8, ho8, hg8, ha8, hk8⟩ := run_appP x4 w3.heap.size 25 _ A how (.slice (some ⟨g1, 0, none⟩) 1 1) [((99, false, .slice none 0 0, 0) : Pt)] hrl (fun m hm => by simp at hm; subst hm; rfl) (by have := HL12.out; simp only [List.length_cons, List.length_nil]; omega) BX4.out.size
                obtain ⟨oa8, oc8, rfl, hcap1, _⟩ := ho8.len
                have hle : (A ++ [((99, false, .slice none 0 0, 0) : Pt)]).length = Ln + 1 := by rw [List.length_append, HLN.out]; rfl
                rw [hle] at ho8 hrun8 hcap1
                rw [HLN.out] at hrun8 hg8
                have OW_5 := hide ho8
                have BX5 : Hid (Below w3.heap.size w3 x5) := BX4.out.grown hg8 BX4.out.size (fun j hj => (OW_4.out.lt hj).1)
                have TX_5 : Hid (Thr x5 bX (.bool false) (.slice none 0 0) (.slice none 0 0) 27) := (hg8.block bX TX_4.out.lt (fun e => OW_4.out.apartT TX_4.out (by decide) e.symm)).trans TX_4.out
                have hsl := fun W : World => cut_parts W oa8 (Ln + 1) oc8 Ln (by omega)
                clear ho8 hg8 ha8 hk8 hle hrl how hcap1
                refine Lib.wp_append_run _ _ _ _ _ rfl _ _ rfl rfl _ _ hrun8 ?_
                clear hrun8
                refine hK.out _ _ (HS3.out _ BX5.out) (fun hHeld => ?_)
                clear hK K hHeld
                try simp only [Act.put, List.setIfInBounds_toArray, List.set_cons_zero, List.set_cons_succ]
                have hHeld := HS3.out _ BX5.out
                refine takeD (i := 12) (v := ?v27) (some 37) rfl (by kernel_rfl) (by kernel_rfl) (by kernel_rfl) (fun _ _ _ h => h) (Or.inl ⟨by rfl, ?hy27⟩) (by assumption) (by rfl) ?rest27
                case hy27 => first | (intro w hSw; (try dsimp only at hSw); obtain ⟨q0, q1, q2⟩ := hSw; go_simp; done) | (intro w hSw; (try dsimp only at hSw); obtain ⟨q0, q1, q2⟩ := hSw; go_simp; with_reducible rfl)
                try simp only [Act.put, List.setIfInBounds_toArray, List.set_cons_zero, List.set_cons_succ]
                refine takeD (i := 13) (v := ?v28) (some 38) rfl (by kernel_rfl) (by kernel_rfl) (by kernel_rfl) (fun _ _ _ h => h) (Or.inl ⟨by rfl, ?hy28⟩) (by assumption) (by rfl) ?rest28
                case hy28 => first | (intro w hSw; (try dsimp only at hSw); obtain ⟨q0, q1, q2⟩ := hSw; go_simp; done) | (intro w hSw; (try dsimp only at hSw); obtain ⟨q0, q1, q2⟩ := hSw; go_simp; with_reducible rfl)
                try simp only [Act.put, List.setIfInBounds_toArray, List.set_cons_zero, List.set_cons_succ]
                clear hHeld hsl
                refine wpAnyH_ready (rs := [15]) (by kernel_rfl) (by simp) ?_
                refine AllReadyH.cons rfl (fun K hK => ?_) AllReadyH.nil
                have z0 := Thr.c0 (W := x5) (b := bX) (x := .bool false) (y := .slice none 0 0) (z := .slice none 0 0) (t := 27) TX_5.out
                have z1 := Thr.c1 (W := x5) (b := bX) (x := .bool false) (y := .slice none 0 0) (z := .slice none 0 0) (t := 27) TX_5.out
                have z2 := Thr.c2 (W := x5) (b := bX) (x := .bool false) (y := .slice none 0 0) (z := .slice none 0 0) (t := 27) TX_5.out
                have f0 := Thr.f0 (W := x5) (b := bX) (x := .bool false) (y := .slice none 0 0) (z := .slice none 0 0) (t := 27) TX_5.out 0
                have f1 := Thr.f0 (W := x5) (b := bX) (x := .bool false) (y := .slice none 0 0) (z := .slice none 0 0) (t := 27) TX_5.out 1
                have f2 := Thr.f0 (W := x5) (b := bX) (x := .bool false) (y := .slice none 0 0) (z := .slice none 0 0) (t := 27) TX_5.out 2
                go_simp
                have TX_6 := hide (TX_5.out.put (.bool an) (.slice aa aL ac) (.slice oa8 Ln oc8))
                have OW_6 := hide (OW_5.out.off TX_5.out (by decide) (fun k hk => put3_other (W := x5) hk (.bool an) (.slice aa aL ac) (.slice oa8 Ln oc8)))
                have BX6 := hide (put3_below BX5.out LBX.out (.bool an) (.slice aa aL ac) (.slice oa8 Ln oc8))
                clear z0 z1 z2 f0 f1 f2
                refine hK.out _ (put3 x5 bX (.bool an) (.slice aa aL ac) (.slice oa8 Ln oc8)) (HS3.out _ BX6.out) (fun hHeld => ?_)
                clear hK K hHeld
                generalize put3 x5 bX (.bool an) (.slice aa aL ac) (.slice oa8 Ln oc8) = x6 at *
                try simp only [Act.put, List.setIfInBounds_toArray, List.set_cons_zero, List.set_cons_succ]
                refine wpAnyH_done (by kernel_rfl) ?_ _
                go_wp2_with fail
                go_meet
                exact ⟨bX, oa8, oc8, rfl, TX_6.out, OW_6.out, BX6.out⟩
            · go_simp
              have tn := Thr.new x2 (.bool false) (.slice none 0 0) (.slice none 0 0) 27
              have hb := bel x2 (.cells #[.bool false, .slice none 0 0, .slice none 0 0] 27)
              have BX3 := hide (bafter BX2.out hb (Nat.le_refl _))
              have LBX : Hid (w3.heap.size ≤ x2.heap.size) := BX2.out.size
              have TX_3 := hide tn
              have OW_3 := hide (OW_2.out.below hb)
              have RL_3 := hide (RL_2.out.below hb)
              have LG0_3 : Hid (g0 < (x2.alloc (.cells #[.bool false, .slice none 0 0, .slice none 0 0] 27)).heap.size) := Nat.lt_of_lt_of_le LG0_2.out hb.size
              have LG1_3 : Hid (g1 < (x2.alloc (.cells #[.bool false, .slice none 0 0, .slice none 0 0] 27)).heap.size) := Nat.lt_of_lt_of_le LG1_2.out hb.size
              clear tn hb
              generalize x2.heap.size = bX at *
              generalize x2.alloc (.cells #[.bool false, .slice none 0 0, .slice none 0 0] 27) = x3 at *
              refine hK.out _ _ (HS3.out _ BX3.out) (fun hHeld => ?_)
              clear hK K hHeld
              try simp only [Act.put, List.setIfInBounds_toArray, List.set_cons_zero, List.set_cons_succ]
              refine wpAnyH_ready (rs := [5]) (by kernel_rfl) (by simp) ?_
              refine AllReadyH.cons rfl (fun K hK => ?_) AllReadyH.nil
              obtain ⟨v5, x4, hrun5, ho5, hg5, ha5, hk5⟩ := run_appP x3 w3.heap.size 25 _ [] OW_3.out (.slice ap Ln ak) A (HRA.out.below (bafter HW3.out BX3.out (Nat.le_refl _))) HONE.out (by have := HL12.out; have := HLN.out; simp only [List.length_nil]; omega) BX3.out.size
              rw [List.nil_append] at ho5
              obtain ⟨oa5, oc5, rfl, _, _⟩ := ho5.len
              rw [HLN.out] at ho5 hrun5 ha5
              have OW_4 := hide ho5
              have BX4 : Hid (Below w3.heap.size w3 x4) := BX3.out.grown hg5 BX3.out.size (fun j hj => (OW_3.out.lt hj).1)
              have RL_4 := hide (RL_3.out.grown1 hg5 LG1_3.out (by intro e; simp only [Value.ownBlock, Option.some.injEq] at e; exact NE.out (by first | exact e | exact e.symm)))
              have NB : Hid ((Value.slice oa5 Ln oc5).ownBlock ≠ some g1) := by
                intro e
                rcases ha5 with h | h
                · rw [h] at e; simp only [Value.ownBlock, Option.some.injEq] at e; exact NE.out (by first | exact e | exact e.symm)
                · rw [h] at e; simp only [Option.some.injEq] at e; have := LG1_3.out; omega
              have LG1_4 : Hid (g1 < x4.heap.size) := Nat.lt_of_lt_of_le LG1_3.out hg5.size
              have TX_4 : Hid (Thr x4 bX (.bool false) (.slice none 0 0) (.slice none 0 0) 27) := (hg5.block bX TX_3.out.lt (fun e => OW_3.out.apartT TX_3.out (by decide) e.symm)).trans TX_3.out
              clear ho5 hg5 ha5 hk5
              refine Lib.wp_append_run _ _ _ _ _ rfl _ _ rfl rfl _ _ hrun5 ?_
              clear hrun5
              refine hK.out _ _ (HS3.out _ BX4.out) (fun hHeld => ?_)
              clear hK K hHeld
              try simp only [Act.put, List.setIfInBounds_toArray, List.set_cons_zero, List.set_cons_succ]
              refine wpAnyH_ready (rs := [8]) (by kernel_rfl) (by simp) ?_
              refine AllReadyH.cons rfl (fun K hK => ?_) AllReadyH.nil
              have hrl : RowP x4 (.slice (some ⟨g1, 0, none⟩) 1 1) [((99, false, .slice none 0 0, 0) : Pt)] := RL_4.out
              have how : OwnP w3.heap.size x4 (.slice oa5 A.length oc5) A := by rw [HLN.out]; exact OW_4.out
              obtain ⟨v8, x5, hrun8, ho8, hg8, ha8, hk8⟩ := run_appP x4 w3.heap.size 25 _ A how (.slice (some ⟨g1, 0, none⟩) 1 1) [((99, false, .slice none 0 0, 0) : Pt)] hrl (fun m hm => by simp at hm; subst hm; rfl) (by have := HL12.out; simp only [List.length_cons, List.length_nil]; omega) BX4.out.size
              obtain ⟨oa8, oc8, rfl, hcap1, _⟩ := ho8.len
              have hle : (A ++ [((99, false, .slice none 0 0, 0) : Pt)]).length = Ln + 1 := by rw [List.length_append, HLN.out]; rfl
              rw [hle] at ho8 hrun8 hcap1
              rw [HLN.out] at hrun8 hg8
              have OW_5 := hide ho8
              have BX5 : Hid (Below w3.heap.size w3 x5) := BX4.out.grown hg8 BX4.out.size (fun j hj => (OW_4.out.lt hj).1)
              have TX_5 : Hid (Thr x5 bX (.bool false) (.slice none 0 0) (.slice none 0 0) 27) := (hg8.block bX TX_4.out.lt (fun e => OW_4.out.apartT TX_4.out (by decide) e.symm)).trans TX_4.out
              have hsl := fun W : World => cut_parts W oa8 (Ln + 1) oc8 Ln (by omega)
              clear ho8 hg8 ha8 hk8 hle hrl how hcap1
              refine Lib.wp_append_run _ _ _ _ _ rfl _ _ rfl rfl _ _ hrun8 ?_
              clear hrun8
              refine hK.out _ _ (HS3.out _ BX5.out) (fun hHeld => ?_)
              clear hK K hHeld
              try simp only [Act.put, List.setIfInBounds_toArray, List.set_cons_zero, List.set_cons_succ]
              have hHeld := HS3.out _ BX5.out
              refine takeD (i := 12) (v := ?v29) (some 37) rfl (by kernel_rfl) (by kernel_rfl) (by kernel_rfl) (fun _ _ _ h => h) (Or.inl ⟨by rfl, ?hy29⟩) (by assumption) (by rfl) ?rest29
              case hy29 => first | (intro w hSw; (try dsimp only at hSw); obtain ⟨q0, q1, q2⟩ := hSw; go_simp; done) | (intro w hSw; (try dsimp only at hSw); obtain ⟨q0, q1, q2⟩ := hSw; go_simp; with_reducible rfl)
              try simp only [Act.put, List.setIfInBounds_toArray, List.set_cons_zero, List.set_cons_succ]
              refine takeD (i := 13) (v := ?v30) (some 38) rfl (by kernel_rfl) (by kernel_rfl) (by kernel_rfl) (fun _ _ _ h => h) (Or.inl ⟨by rfl, ?hy30⟩) (by assumption) (by rfl) ?rest30
              case hy30 => first | (intro w hSw; (try dsimp only at hSw); obtain ⟨q0, q1, q2⟩ := hSw; go_simp; done) | (intro w hSw; (try dsimp only at hSw); obtain ⟨q0, q1, q2⟩ := hSw; go_simp; with_reducible rfl)
              try simp only [Act.put, List.setIfInBounds_toArray, List.set_cons_zero, List.set_cons_succ]
              clear hHeld hsl
              refine wpAnyH_ready (rs := [15]) (by kernel_rfl) (by simp) ?_
              refine AllReadyH.cons rfl (fun K hK => ?_) AllReadyH.nil
              have z0 := Thr.c0 (W := x5) (b := bX) (x := .bool false) (y := .slice none 0 0) (z := .slice none 0 0) (t := 27) TX_5.out
              have z1 := Thr.c1 (W := x5) (b := bX) (x := .bool false) (y := .slice none 0 0) (z := .slice none 0 0) (t := 27) TX_5.out
              have z2 := Thr.c2 (W := x5) (b := bX) (x := .bool false) (y := .slice none 0 0) (z := .slice none 0 0) (t := 27) TX_5.out
              have f0 := Thr.f0 (W := x5) (b := bX) (x := .bool false) (y := .slice none 0 0) (z := .slice none 0 0) (t := 27) TX_5.out 0
              have f1 := Thr.f0 (W := x5) (b := bX) (x := .bool false) (y := .slice none 0 0) (z := .slice none 0 0) (t := 27) TX_5.out 1
              have f2 := Thr.f0 (W := x5) (b := bX) (x := .bool false) (y := .slice none 0 0) (z := .slice none 0 0) (t := 27) TX_5.out 2
              go_simp
              have TX_6 := hide (TX_5.out.put (.bool an) (.slice aa aL ac) (.slice oa8 Ln oc8))
              have OW_6 := hide (OW_5.out.off TX_5.out (by decide) (fun k hk => put3_other (W := x5) hk (.bool an) (.slice aa aL ac) (.slice oa8 Ln oc8)))
              have BX6 := hide (put3_below BX5.out LBX.out (.bool an) (.slice aa aL ac) (.slice oa8 Ln oc8))
              clear z0 z1 z2 f0 f1 f2
              refine hK.out _ (put3 x5 bX (.bool an) (.slice aa aL ac) (.slice oa8 Ln oc8)) (HS3.out _ BX6.out) (fun hHeld => ?_)
              clear hK K hHeld
              generalize put3 x5 bX (.bool an) (.slice aa aL ac) (.slice oa8 Ln oc8) = x6 at *
              try simp only [Act.put, List.setIfInBounds_toArray, List.set_cons_zero, List.set_cons_succ]
              refine wpAnyH_done (by kernel_rfl) ?_ _
              go_wp2_with fail
              go_meet
              exact ⟨bX, oa8, oc8, rfl, TX_6.out, OW_6.out, BX6.out⟩
          · go_simp
            have tn := Thr.new x1 (.bool false) (.slice none 0 0) (.slice none 0 0) 27
            have hb := bel x1 (.cells #[.bool false, .slice none 0 0, .slice none 0 0] 27)
            have BX2 := hide (bafter BX1.out hb (Nat.le_refl _))
            have LBX : Hid (w3.heap.size ≤ x1.heap.size) := BX1.out.size
            have TX_2 := hide tn
            have RL_2 := hide (RL_1.out.below hb)
            have LG1_2 : Hid (g1 < (x1.alloc (.cells #[.bool false, .slice none 0 0, .slice none 0 0] 27)).heap.size) := Nat.lt_of_lt_of_le LG1_1.out hb.size
            clear tn hb
            generalize x1.heap.size = bX at *
            generalize x1.alloc (.cells #[.bool false, .slice none 0 0, .slice none 0 0] 27) = x2 at *
            refine hK.out _ _ (HS3.out _ BX2.out) (fun hHeld => ?_)
            clear hK K hHeld
            try simp only [Act.put, List.setIfInBounds_toArray, List.set_cons_zero, List.set_cons_succ]
            refine wpAnyH_ready (rs := [2]) (by kernel_rfl) (by simp) ?_
            refine AllReadyH.cons rfl (fun K hK => ?_) AllReadyH.nil
            go_simp
            have ho := own_none x2
            have hb := bel x2 (.cells #[] 31)
            have BX3 := hide (bafter BX2.out hb (Nat.le_refl _))
            have OW_3 := hide (ho.down BX2.out.size)
            have RL_3 := hide (RL_2.out.below hb)
            have TX_3 := hide (TX_2.out.keep hb)
            have NE : Hid (g1 ≠ x2.heap.size) := Nat.ne_of_lt LG1_2.out
            have LG1_3 : Hid (g1 < (x2.alloc (.cells #[] 31)).heap.size) := Nat.lt_of_lt_of_le LG1_2.out hb.size
            have LG0_3 : Hid (x2.heap.size < (x2.alloc (.cells #[] 31)).heap.size) := by show _ < _; rw [World.size_alloc]; omega
            clear ho hb
            generalize x2.heap.size = g0 at *
            generalize x2.alloc (.cells #[] 31) = x3 at *
            refine hK.out _ _ (HS3.out _ BX3.out) (fun hHeld => ?_)
            clear hK K hHeld
            try simp only [Act.put, List.setIfInBounds_toArray, List.set_cons_zero, List.set_cons_succ]
            refine wpAnyH_ready (rs := [5]) (by kernel_rfl) (by simp) ?_
            refine AllReadyH.cons rfl (fun K hK => ?_) AllReadyH.nil
            obtain ⟨v5, x4, hrun5, ho5, hg5, ha5, hk5⟩ := run_appP x3 w3.heap.size 25 _ [] OW_3.out (.slice ap Ln ak) A (HRA.out.below (bafter HW3.out BX3.out (Nat.le_refl _))) HONE.out (by have := HL12.out; have := HLN.out; simp only [List.length_nil]; omega) BX3.out.size
            rw [List.nil_append] at ho5
            obtain ⟨oa5, oc5, rfl, _, _⟩ := ho5.len
            rw [HLN.out] at ho5 hrun5 ha5
            have OW_4 := hide ho5
            have BX4 : Hid (Below w3.heap.size w3 x4) := BX3.out.grown hg5 BX3.out.size (fun j hj => (OW_3.out.lt hj).1)
            have RL_4 := hide (RL_3.out.grown1 hg5 LG1_3.out (by intro e; simp only [Value.ownBlock, Option.some.injEq] at e; exact NE.out (by first | exact e | exact e.symm)))
            have NB : Hid ((Value.slice oa5 Ln oc5).ownBlock ≠ some g1) := by
              intro e
              rcases ha5 with h | h
              · rw [h] at e; simp only [Value.ownBlock, Option.some.injEq] at e; exact NE.out (by first | exact e | exact e.symm)
              · rw [h] at e; simp only [Option.some.injEq] at e; have := LG1_3.out; omega
            have LG1_4 : Hid (g1 < x4.heap.size) := Nat.lt_of_lt_of_le LG1_3.out hg5.size
            have TX_4 : Hid (Thr x4 bX (.bool false) (.slice none 0 0) (.slice none 0 0) 27) := (hg5.block bX TX_3.out.lt (fun e => OW_3.out.apartT TX_3.out (by decide) e.symm)).trans TX_3.out
            clear ho5 hg5 ha5 hk5
            refine Lib.wp_append_run _ _ _ _ _ rfl _ _ rfl rfl _ _ hrun5 ?_
            clear hrun5
            refine hK.out _ _ (HS3.out _ BX4.out) (fun hHeld => ?_)
            clear hK K hHeld
            try simp only [Act.put, List.setIfInBounds_toArray, List.set_cons_zero, List.set_cons_succ]
            refine wpAnyH_ready (rs := [8]) (by kernel_rfl) (by simp) ?_
            refine AllReadyH.cons rfl (fun K hK => ?_) AllReadyH.nil
            have hrl : RowP x4 (.slice (some ⟨g1, 0, none⟩) 1 1) [((99, false, .slice none 0 0, 0) : Pt)] := RL_4.out
            have how : OwnP w3.heap.size x4 (.slice oa5 A.length oc5) A := by rw [HLN.out]; exact OW_4.out
            obtain ⟨v8, x5, hrun8, ho8, hg8, ha8, hk8⟩ := run_appP x4 w3.heap.size 25 _ A how (.slice (some ⟨g1, 0, none⟩) 1 1) [((99, false, .slice none 0 0, 0) : Pt)] hrl (fun m hm => by simp at hm; subst hm; rfl) (by have := HL12.out; simp only [List.length_cons, List.length_nil]; omega) BX4.out.size
            obtain ⟨oa8, oc8, rfl, hcap1, _⟩ := ho8.len
            have hle : (A ++ [((99, false, .slice none 0 0, 0) : Pt)]).length = Ln + 1 := by rw [List.length_append, HLN.out]; rfl
            rw [hle] at ho8 hrun8 hcap1
            rw [HLN.out] at hrun8 hg8
            have OW_5 := hide ho8
            have BX5 : Hid (Below w3.heap.size w3 x5) := BX4.out.grown hg8 BX4.out.size (fun j hj => (OW_4.out.lt hj).1)
            have TX_5 : Hid (Thr x5 bX (.bool false) (.slice none 0 0) (.slice none 0 0) 27) := (hg8.block bX TX_4.out.lt (fun e => OW_4.out.apartT TX_4.out (by decide) e.symm)).trans TX_4.out
            have hsl := fun W : World => cut_parts W oa8 (Ln + 1) oc8 Ln (by omega)
            clear ho8 hg8 ha8 hk8 hle hrl how hcap1
            refine Lib.wp_append_run _ _ _ _ _ rfl _ _ rfl rfl _ _ hrun8 ?_
            clear hrun8
            refine hK.out _ _ (HS3.out _ BX5.out) (fun hHeld => ?_)
            clear hK K hHeld
            try simp only [Act.put, List.setIfInBounds_toArray, List.set_cons_zero, List.set_cons_succ]
            have hHeld := HS3.out _ BX5.out
            refine takeD (i := 12) (v := ?v31) (some 37) rfl (by kernel_rfl) (by kernel_rfl) (by kernel_rfl) (fun _ _ _ h => h) (Or.inl ⟨by rfl, ?hy31⟩) (by assumption) (by rfl) ?rest31
            case hy31 => first | (intro w hSw; (try dsimp only at hSw); obtain ⟨q0, q1, q2⟩ := hSw; go_simp; done) | (intro w hSw; (try dsimp only at hSw); obtain ⟨q0, q1, q2⟩ := hSw; go_simp; with_reducible rfl)
            try simp only [Act.put, List.setIfInBounds_toArray, List.set_cons_zero, List.set_cons_succ]
            refine takeD (i := 13) (v := ?v32) (some 38) rfl (by kernel_rfl) (by kernel_rfl) (by kernel_rfl) (fun _ _ _ h => h) (Or.inl ⟨by rfl, ?hy32⟩) (by assumption) (by rfl) ?rest32
            case hy32 => first | (intro w hSw; (try dsimp only at hSw); obtain ⟨q0, q1, q2⟩ := hSw; go_simp; done) | (intro w hSw; (try dsimp only at hSw); obtain ⟨q0, q1, q2⟩ := hSw; go_simp; with_reducible rfl)
            try simp only [Act.put, List.setIfInBounds_toArray, List.set_cons_zero, List.set_cons_succ]
            clear hHeld hsl
            refine wpAnyH_ready (rs := [15]) (by kernel_rfl) (by simp) ?_
            refine AllReadyH.cons rfl (fun K hK => ?_) AllReadyH.nil
            have z0 := Thr.c0 (W := x5) (b := bX) (x := .bool false) (y := .slice none 0 0) (z := .slice none 0 0) (t := 27) TX_5.out
            have z1 := Thr.c1 (W := x5) (b := bX) (x := .bool false) (y := .slice none 0 0) (z := .slice none 0 0) (t := 27) TX_5.out
            have z2 := Thr.c2 (W := x5) (b := bX) (x := .bool false) (y := .slice none 0 0) (z := .slice none 0 0) (t := 27) TX_5.out
            have f0 := Thr.f0 (W := x5) (b := bX) (x := .bool false) (y := .slice none 0 0) (z := .slice none 0 0) (t := 27) TX_5.out 0
            have f1 := Thr.f0 (W := x5) (b := bX) (x := .bool false) (y := .slice none 0 0) (z := .slice none 0 0) (t := 27) TX_5.out 1
            have f2 := Thr.f0 (W := x5) (b := bX) (x := .bool false) (y := .slice none 0 0) (z := .slice none 0 0) (t := 27) TX_5.out 2
            go_simp
            have TX_6 := hide (TX_5.out.put (.bool an) (.slice aa aL ac) (.slice oa8 Ln oc8))
            have OW_6 := hide (OW_5.out.off TX_5.out (by decide) (fun k hk => put3_other (W := x5) hk (.bool an) (.slice aa aL ac) (.slice oa8 Ln oc8)))
            have BX6 := hide (put3_below BX5.out LBX.out (.bool an) (.slice aa aL ac) (.slice oa8 Ln oc8))
            clear z0 z1 z2 f0 f1 f2
            refine hK.out _ (put3 x5 bX (.bool an) (.slice aa aL ac) (.slice oa8 Ln oc8)) (HS3.out _ BX6.out) (fun hHeld => ?_)
            clear hK K hHeld
            generalize put3 x5 bX (.bool an) (.slice aa aL ac) (.slice oa8 Ln oc8) = x6 at *
            try simp only [Act.put, List.setIfInBounds_toArray, List.set_cons_zero, List.set_cons_succ]
            refine wpAnyH_done (by kernel_rfl) ?_ _
            go_wp2_with fail
            go_meet
            exact ⟨bX, oa8, oc8, rfl, TX_6.out, OW_6.out, BX6.out⟩
        · go_simp
          have tn := Thr.new wd (.bool false) (.slice none 0 0) (.slice none 0 0) 27
          have hb := bel wd (.cells #[.bool false, .slice none 0 0, .slice none 0 0] 27)
          have BX1 := hide (bafter BX0.out hb (Nat.le_refl _))
          have LBX : Hid (w3.heap.size ≤ wd.heap.size) := BX0.out.size
          have TX_1 := hide tn
          clear tn hb
          generalize wd.heap.size = bX at *
          generalize wd.alloc (.cells #[.bool false, .slice none 0 0, .slice none 0 0] 27) = x1 at *
          refine hK.out _ _ (HS3.out _ BX1.out) (fun hHeld => ?_)
          clear hK K hHeld
          try simp only [Act.put, List.setIfInBounds_toArray, List.set_cons_zero, List.set_cons_succ]
          refine wpAnyH_ready (rs := [2, 7]) (by kernel_rfl) (by simp) ?_
          refine AllReadyH.cons rfl (fun K hK => ?_) (AllReadyH.cons rfl (fun K hK => ?_) AllReadyH.nil)
          · go_simp
            have ho := own_none x1
            have hb := bel x1 (.cells #[] 31)
            have BX2 := hide (bafter BX1.out hb (Nat.le_refl _))
            have OW_2 := hide (ho.down BX1.out.size)
            have TX_2 := hide (TX_1.out.keep hb)
            have LG0_2 : Hid (x1.heap.size < (x1.alloc (.cells #[] 31)).heap.size) := by show _ < _; rw [World.size_alloc]; omega
            clear ho hb
            generalize x1.heap.size = g0 at *
            generalize x1.alloc (.cells #[] 31) = x2 at *
            refine hK.out _ _ (HS3.out _ BX2.out) (fun hHeld => ?_)
            clear hK K hHeld
            try simp only [Act.put, List.setIfInBounds_toArray, List.set_cons_zero, List.set_cons_succ]
            refine wpAnyH_ready (rs := [5, 7]) (by kernel_rfl) (by simp) ?_
            refine AllReadyH.cons rfl (fun K hK => ?_) (AllReadyH.cons rfl (fun K hK => ?_) AllReadyH.nil)
            · obtain ⟨v5, x3, hrun5, ho5, hg5, ha5, hk5⟩ := run_appP x2 w3.heap.size 25 _ [] OW_2.out (.slice ap Ln ak) A (HRA.out.below (bafter HW3.out BX2.out (Nat.le_refl _))) HONE.out (by have := HL12.out; have := HLN.out; simp only [List.length_nil]; omega) BX2.out.size
              rw [List.nil_append] at ho5
              obtain ⟨oa5, oc5, rfl, _, _⟩ := ho5.len
              rw [HLN.out] at ho5 hrun5 ha5
              have OW_3 := hide ho5
              have BX3 : Hid (Below w3.heap.size w3 x3) := BX2.out.grown hg5 BX2.out.size (fun j hj => (OW_2.out.lt hj).1)
              have TX_3 : Hid (Thr x3 bX (.bool false) (.slice none 0 0) (.slice none 0 0) 27) := (hg5.block bX TX_2.out.lt (fun e => OW_2.out.apartT TX_2.out (by decide) e.symm)).trans TX_2.out
              clear ho5 hg5 ha5 hk5
              refine Lib.wp_append_run _ _ _ _ _ rfl _ _ rfl rfl _ _ hrun5 ?_
              clear hrun5
              refine hK.out _ _ (HS3.out _ BX3.out) (fun hHeld => ?_)
              clear hK K hHeld
              try simp only [Act.put, List.setIfInBounds_toArray, List.set_cons_zero, List.set_cons_succ]
              refine wpAnyH_ready (rs := [7]) (by kernel_rfl) (by simp) ?_
              refine AllReadyH.cons rfl (fun K hK => ?_) AllReadyH.nil
              go_simp
              have hl := row_lit x3 99 false (.slice none 0 0) 0
              have hb := bel x3 (.cells #[.int .i64 99, .bool false, .slice none 0 0] 31)
              have BX4 := hide (bafter BX3.out hb (Nat.le_refl _))
              have RL_4 := hide hl
              have OW_4 := hide (OW_3.out.below hb)
              have TX_4 := hide (TX_3.out.keep hb)
              have NB : Hid ((Value.slice oa5 Ln oc5).ownBlock ≠ some x3.heap.size) := fun e => by have := (OW_3.out.lt e).2; omega
              have LG1_4 : Hid (x3.heap.size < (x3.alloc (.cells #[.int .i64 99, .bool false, .slice none 0 0] 31)).heap.size) := by show _ < _; rw [World.size_alloc]; omega
              clear hl hb
              generalize x3.heap.size = g1 at *
              generalize x3.alloc (.cells #[.int .i64 99, .bool false, .slice none 0 0] 31) = x4 at *
              refine hK.out _ _ (HS3.out _ BX4.out) (fun hHeld => ?_)
              clear hK K hHeld
              try simp only [Act.put, List.setIfInBounds_toArray, List.set_cons_zero, List.set_cons_succ]
              refine wpAnyH_ready (rs := [8]) (by kernel_rfl) (by simp) ?_
              refine AllReadyH.cons rfl (fun K hK => ?_) AllReadyH.nil
              have hrl : RowP x4 (.slice (some ⟨g1, 0, none⟩) 1 1) [((99, false, .slice none 0 0, 0) : Pt)] := RL_4.out
              have how : OwnP w3.heap.size x4 (.slice oa5 A.length oc5) A := by rw [HLN.out]; exact OW_4.out
              obtain ⟨v8, x5, hrun8, ho8, hg8, ha8, hk8⟩ := run_appP x4 w3.heap.size 25 _ A how (.slice (some ⟨g1, 0, none⟩) 1 1) [((99, false, .slice none 0 0, 0) : Pt)] hrl (fun m hm => by simp at hm; subst hm; rfl) (by have := HL12.out; simp only [List.length_cons, List.length_nil]; omega) BX4.out.size
              obtain ⟨oa8, oc8, rfl, hcap1, _⟩ := ho8.len
              have hle : (A ++ [((99, false, .slice none 0 0, 0) : Pt)]).length = Ln + 1 := by rw [List.length_append, HLN.out]; rfl
              rw [hle] at ho8 hrun8 hcap1
              rw [HLN.out] at hrun8 hg8
              have OW_5 := hide ho8
              have BX5 : Hid (Below w3.heap.size w3 x5) := BX4.out.grown hg8 BX4.out.size (fun j hj => (OW_4.out.lt hj).1)
              have TX_5 : Hid (Thr x5 bX (.bool false) (.slice none 0 0) (.slice none 0 0) 27) := (hg8.block bX TX_4.out.lt (fun e => OW_4.out.apartT TX_4.out (by decide) e.symm)).trans TX_4.out
              have hsl := fun W : World => cut_parts W oa8 (Ln + 1) oc8 Ln (by omega)
              clear ho8 hg8 ha8 hk8 hle hrl how hcap1
              refine Lib.wp_append_run _ _ _ _ _ rfl _ _ rfl rfl _ _ hrun8 ?_
              clear hrun8
              refine hK.out _ _ (HS3.out _ BX5.out) (fun hHeld => ?_)
              clear hK K hHeld
              try simp only [Act.put, List.setIfInBounds_toArray, List.set_cons_zero, List.set_cons_succ]
              have hHeld := HS3.out _ BX5.out
              refine takeD (i := 12) (v := ?v33) (some 37) rfl (by kernel_rfl) (by kernel_rfl) (by kernel_rfl) (fun _ _ _ h => h) (Or.inl ⟨by rfl, ?hy33⟩) (by assumption) (by rfl) ?rest33
              case hy33 => first | (intro w hSw; (try dsimp only at hSw); obtain ⟨q0, q1, q2⟩ := hSw; go_simp; done) | (intro w hSw; (try dsimp only at hSw); obtain ⟨q0, q1, q2⟩ := hSw; go_simp; with_reducible rfl)
              try simp only [Act.put, List.setIfInBounds_toArray, List.set_cons_zero, List.set_cons_succ]
              refine takeD (i := 13) (v := ?v34) (some 38) rfl (by kernel_rfl) (by kernel_rfl) (by kernel_rfl) (fun _ _ _ h => h) (Or.inl ⟨by rfl, ?hy34⟩) (by assumption) (by rfl) ?rest34
              case hy34 => first | (intro w hSw; (try dsimp only at hSw); obtain ⟨q0, q1, q2⟩ := hSw; go_simp; done) | (intro w hSw; (try dsimp only at hSw); obtain ⟨q0, q1, q2⟩ := hSw; go_simp; with_reducible rfl)
              try simp only [Act.put, List.setIfInBounds_toArray, List.set_cons_zero, List.set_cons_succ]
              clear hHeld hsl
              refine wpAnyH_ready (rs := [15]) (by kernel_rfl) (by simp) ?_
              refine AllReadyH.cons rfl (fun K hK => ?_) AllReadyH.nil
              have z0 := Thr.c0 (W := x5) (b := bX) (x := .bool false) (y := .slice none 0 0) (z := .slice none 0 0) (t := 27) TX_5.out
              have z1 := Thr.c1 (W := x5) (b := bX) (x := .bool false) (y := .slice none 0 0) (z := .slice none 0 0) (t := 27) TX_5.out
              have z2 := Thr.c2 (W := x5) (b := bX) (x := .bool false) (y := .slice none 0 0) (z := .slice none 0 0) (t := 27) TX_5.out
              have f0 := Thr.f0 (W := x5) (b := bX) (x := .bool false) (y := .slice none 0 0) (z := .slice none 0 0) (t := 27) TX_5.out 0
              have f1 := Thr.f0 (W := x5) (b := bX) (x := .bool false) (y := .slice none 0 0) (z := .slice none 0 0) (t := 27) TX_5.out 1
              have f2 := Thr.f0 (W := x5) (b := bX) (x := .bool false) (y := .slice none 0 0) (z := .slice none 0 0) (t := 27) TX_5.out 2
              go_simp
              have TX_6 := hide (TX_5.out.put (.bool an) (.slice aa aL ac) (.slice oa8 Ln oc8))
              have OW_6 := hide (OW_5.out.off TX_5.out (by decide) (fun k hk => put3_other (W := x5) hk (.bool an) (.slice aa aL ac) (.slice oa8 Ln oc8)))
              have BX6 := hide (put3_below BX5.out LBX.out (.bool an) (.slice aa aL ac) (.slice oa8 Ln oc8))
              clear z0 z1 z2 f0 f1 f2
              refine hK.out _ (put3 x5 bX (.bool an) (.slice aa aL ac) (.slice oa8 Ln oc8)) (HS3.out _ BX6.out) (fun hHeld => ?_)
              clear hK K hHeld
              generalize put3 x5 bX (.bool an) (.slice aa aL ac) (.slice oa8 Ln oc8) = x6 at *
              try simp only [Act.put, List.setIfInBounds_toArray, List.set_cons_zero, List.set_cons_succ]
              refine wpAnyH_done (by kernel_rfl) ?_ _
              go_wp2_with fail
              go_meet
              exact ⟨bX, oa8, oc8, rfl, TX_6.out, OW_6.out, BX6.out⟩
            · go_simp
              have hl := row_lit x2 99 false (.slice none 0 0) 0
              have hb := bel x2 (.cells #[.int .i64 99, .bool false, .slice none 0 0] 31)
              have BX3 := hide (bafter BX2.out hb (Nat.le_refl _))
              have RL_3 := hide hl
              have OW_3 := hide (OW_2.out.below hb)
              have TX_3 := hide (TX_2.out.keep hb)
              have NE : Hid (x2.heap.size ≠ g0) := (Nat.ne_of_lt LG0_2.out).symm
              have LG0_3 : Hid (g0 < (x2.alloc (.cells #[.int .i64 99, .bool false, .slice none 0 0] 31)).heap.size) := Nat.lt_of_lt_of_le LG0_2.out hb.size
              have LG1_3 : Hid (x2.heap.size < (x2.alloc (.cells #[.int .i64 99, .bool false, .slice none 0 0] 31)).heap.size) := by show _ < _; rw [World.size_alloc]; omega
              clear hl hb
              generalize x2.heap.size = g1 at *
              generalize x2.alloc (.cells #[.int .i64 99, .bool false, .slice none 0 0] 31) = x3 at *
              refine hK.out _ _ (HS3.out _ BX3.out) (fun hHeld => ?_)
              clear hK K hHeld
              try simp only [Act.put, List.setIfInBounds_toArray, List.set_cons_zero, List.set_cons_succ]
              refine wpAnyH_ready (rs := [5]) (by kernel_rfl) (by simp) ?_
              refine AllReadyH.cons rfl (fun K hK => ?_) AllReadyH.nil
              obtain ⟨v5, x4, hrun5, ho5, hg5, ha5, hk5⟩ := run_appP x3 w3.heap.size 25 _ [] OW_3.out (.slice ap Ln ak) A (HRA.out.below (bafter HW3.out BX3.out (Nat.le_refl _))) HONE.out (by have := HL12.out; have := HLN.out; simp only [List.length_nil]; omega) BX3.out.size
              rw [List.nil_append] at ho5
              obtain ⟨oa5, oc5, rfl, _, _⟩ := ho5.len
              rw [HLN.out] at ho5 hrun5 ha5
              have OW_4 := hide ho5
              have BX4 : Hid (Below w3.heap.size w3 x4) := BX3.out.grown hg5 BX3.out.size (fun j hj => (OW_3.out.lt hj).1)
              have RL_4 := hide (RL_3.out.grown1 hg5 LG1_3.out (by intro e; simp only [Value.ownBlock, Option.some.injEq] at e; exact NE.out (by first | exact e | exact e.symm)))
              have NB : Hid ((Value.slice oa5 Ln oc5).ownBlock ≠ some g1) := by
                intro e
                rcases ha5 with h | h
                · rw [h] at e; simp only [Value.ownBlock, Option.some.injEq] at e; exact NE.out (by first | exact e | exact e.symm)
                · rw [h] at e; simp only [Option.some.injEq] at e; have := LG1_3.out; omega
              have LG1_4 : Hid (g1 < x4.heap.size) := Nat.lt_of_lt_of_le LG1_3.out hg5.size
              have TX_4 : Hid (Thr x4 bX (.bool false) (.slice none 0 0) (.slice none 0 0) 27) := (hg5.block bX TX_3.out.lt (fun e => OW_3.out.apartT TX_3.out (by decide) e.symm)).trans TX_3.out
              clear ho5 hg5 ha5 hk5
              refine Lib.wp_append_run _ _ _ _ _ rfl _ _ rfl rfl _ _ hrun5 ?_
              clear hrun5
              refine hK.out _ _ (HS3.out _ BX4.out) (fun hHeld => ?_)
              clear hK K hHeld
              try simp only [Act.put, List.setIfInBounds_toArray, List.set_cons_zero, List.set_cons_succ]
              refine wpAnyH_ready (rs := [8]) (by kernel_rfl) (by simp) ?_
              refine AllReadyH.cons rfl (fun K hK => ?_) AllReadyH.nil
              have hrl : RowP x4 (.slice (some ⟨g1, 0, none⟩) 1 1) [((99, false, .slice none 0 0, 0) : Pt)] := RL_4.out
              have how : OwnP w3.heap.size x4 (.slice oa5 A.length oc5) A := by rw [HLN.out]; exact OW_4.out
              obtain ⟨v8, x5, hrun8, ho8, hg8, ha8, hk8⟩ := run_appP x4 w3.heap.size 25 _ A how (.slice (some ⟨g1, 0, none⟩) 1 1) [((99, false, .slice none 0 0, 0) : Pt)] hrl (fun m hm => by simp at hm; subst hm; rfl) (by have := HL12.out; simp only [List.length_cons, List.length_nil]; omega) BX4.out.size
              obtain ⟨oa8, oc8, rfl, hcap1, _⟩ := ho8.len
              have hle : (A ++ [((99, false, .slice none 0 0, 0) : Pt)]).length = Ln + 1 := by rw [List.length_append, HLN.out]; rfl
              rw [hle] at ho8 hrun8 hcap1
              rw [HLN.out] at hrun8 hg8
              have OW_5 := hide ho8
              have BX5 : Hid (Below w3.heap.size w3 x5) := BX4.out.grown hg8 BX4.out.size (fun j hj => (OW_4.out.lt hj).1)
              have TX_5 : Hid (Thr x5 bX (.bool false) (.slice none 0 0) (.slice none 0 0) 27) := (hg8.block bX TX_4.out.lt (fun e => OW_4.out.apartT TX_4.out (by decide) e.symm)).trans TX_4.out
              have hsl := fun W : World => cut_parts W oa8 (Ln + 1) oc8 Ln (by omega)
              clear ho8 hg8 ha8 hk8 hle hrl how hcap1
              refine Lib.wp_append_run _ _ _ _ _ rfl _ _ rfl rfl _ _ hrun8 ?_
              clear hrun8
              refine hK.out _ _ (HS3.out _ BX5.out) (fun hHeld => ?_)
              clear hK K hHeld
              try simp only [Act.put, List.setIfInBounds_toArray, List.set_cons_zero, List.set_cons_succ]
              have hHeld := HS3.out _ BX5.out
              refine takeD (i := 12) (v := ?v35) (some 37) rfl (by kernel_rfl) (by kernel_rfl) (by kernel_rfl) (fun _ _ _ h => h) (Or.inl ⟨by rfl, ?hy35⟩) (by assumption) (by rfl) ?rest35
              case hy35 => first | (intro w hSw; (try dsimp only at hSw); obtain ⟨q0, q1, q2⟩ := hSw; go_simp; done) | (intro w hSw; (try dsimp only at hSw); obtain ⟨q0, q1, q2⟩ := hSw; go_simp; with_reducible rfl)
              try simp only [Act.put, List.setIfInBounds_toArray, List.set_cons_zero, List.set_cons_succ]
              refine takeD (i := 13) (v := ?v36) (some 38) rfl (by kernel_rfl) (by kernel_rfl) (by kernel_rfl) (fun _ _ _ h => h) (Or.inl ⟨by rfl, ?hy36⟩) (by assumption) (by rfl) ?rest36
              case hy36 => first | (intro w hSw; (try dsimp only at hSw); obtain ⟨q0, q1, q2⟩ := hSw; go_simp; done) | (intro w hSw; (try dsimp only at hSw); obtain ⟨q0, q1, q2⟩ := hSw; go_simp; with_reducible rfl)
              try simp only [Act.put, List.setIfInBounds_toArray, List.set_cons_zero, List.set_cons_succ]
              clear hHeld hsl
              refine wpAnyH_ready (rs := [15]) (by kernel_rfl) (by simp) ?_
              refine AllReadyH.cons rfl (fun K hK => ?_) AllReadyH.nil
              have z0 := Thr.c0 (W := x5) (b := bX) (x := .bool false) (y := .slice none 0 0) (z := .slice none 0 0) (t := 27) TX_5.out
              have z1 := Thr.c1 (W := x5) (b := bX) (x := .bool false) (y := .slice none 0 0) (z := .slice none 0 0) (t := 27) TX_5.out
              have z2 := Thr.c2 (W := x5) (b := bX) (x := .bool false) (y := .slice none 0 0) (z := .slice none 0 0) (t := 27) TX_5.out
              have f0 := Thr.f0 (W := x5) (b := bX) (x := .bool false) (y := .slice none 0 0) (z := .slice none 0 0) (t := 27) TX_5.out 0
              have f1 := Thr.f0 (W := x5) (b := bX) (x := .bool false) (y := .slice none 0 0) (z := .slice none 0 0) (t := 27) TX_5.out 1
              have f2 := Thr.f0 (W := x5) (b := bX) (x := .bool false) (y := .slice none 0 0) (z := .slice none 0 0) (t := 27) TX_5.out 2
              go_simp
              have TX_6 := hide (TX_5.out.put (.bool an) (.slice aa aL ac) (.slice oa8 Ln oc8))
              have OW_6 := hide (OW_5.out.off TX_5.out (by decide) (fun k hk => put3_other (W := x5) hk (.bool an) (.slice aa aL ac) (.slice oa8 Ln oc8)))
              have BX6 := hide (put3_below BX5.out LBX.out (.bool an) (.slice aa aL ac) (.slice oa8 Ln oc8))
              clear z0 z1 z2 f0 f1 f2
              refine hK.out _ (put3 x5 bX (.bool an) (.slice aa aL ac) (.slice oa8 Ln oc8)) (HS3.out _ BX6.out) (fun hHeld => ?_)
              clear hK K hHeld
              generalize put3 x5 bX (.bool an) (.slice aa aL ac) (.slice oa8 Ln oc8) = x6 at *
              try simp only [Act.put, List.setIfInBounds_toArray, List.set_cons_zero, List.set_cons_succ]
              refine wpAnyH_done (by kernel_rfl) ?_ _
              go_wp2_with fail
              go_meet
              exact ⟨bX, oa8, oc8, rfl, TX_6.out, OW_6.out, BX6.out⟩
          · go_simp
            have hl := row_lit x1 99 false (.slice none 0 0) 0
            have hb := bel x1 (.cells #[.int .i64 99, .bool false, .slice none 0 0] 31)
            have BX2 := hide (bafter BX1.out hb (Nat.le_refl _))
            have RL_2 := hide hl
            have TX_2 := hide (TX_1.out.keep hb)
            have LG1_2 : Hid (x1.heap.size < (x1.alloc (.cells #[.int .i64 99, .bool false, .slice none 0 0] 31)).heap.size) := by show _ < _; rw [World.size_alloc]; omega
            clear hl hb
            generalize x1.heap.size = g1 at *
            generalize x1.alloc (.cells #[.int .i64 99, .bool false, .slice none 0 0] 31) = x2 at *
            refine hK.out _ _ (HS3.out _ BX2.out) (fun hHeld => ?_)
            clear hK K hHeld
            try simp only [Act.put, List.setIfInBounds_toArray, List.set_cons_zero, List.set_cons_succ]
            refine wpAnyH_ready (rs := [2]) (by kernel_rfl) (by simp) ?_
            refine AllReadyH.cons rfl (fun K hK => ?_) AllReadyH.nil
            go_simp
            have ho := own_none x2
            have hb := bel x2 (.cells #[] 31)
            have BX3 := hide (bafter BX2.out hb (Nat.le_refl _))
            have OW_3 := hide (ho.down BX2.out.size)
            have RL_3 := hide (RL_2.out.below hb)
            have TX_3 := hide (TX_2.out.keep hb)
            have NE : Hid (g1 ≠ x2.heap.size) := Nat.ne_of_lt LG1_2.out
            have LG1_3 : Hid (g1 < (x2.alloc (.cells #[] 31)).heap.size) := Nat.lt_of_lt_of_le LG1_2.out hb.size
            have LG0_3 : Hid (x2.heap.size < (x2.alloc (.cells #[] 31)).heap.size) := by show _ < _; rw [World.size_alloc]; omega
            clear ho hb
            generalize x2.heap.size = g0 at *
            generalize x2.alloc (.cells #[] 31) = x3 at *
            refine hK.out _ _ (HS3.out _ BX3.out) (fun hHeld => ?_)
            clear hK K hHeld
            try simp only [Act.put, List.setIfInBounds_toArray, List.set_cons_zero, List.set_cons_succ]
            refine wpAnyH_ready (rs := [5]) (by kernel_rfl) (by simp) ?_
            refine AllReadyH.cons rfl (fun K hK => ?_) AllReadyH.nil
            obtain ⟨v5, x4, hrun5, ho5, hg5, ha5, hk5⟩ := run_appP x3 w3.heap.size 25 _ [] OW_3.out (.slice ap Ln ak) A (HRA.out.below (bafter HW3.out BX3.out (Nat.le_refl _))) HONE.out (by have := HL12.out; have := HLN.out; simp only [List.length_nil]; omega) BX3.out.size
            rw [List.nil_append] at ho5
            obtain ⟨oa5, oc5, rfl, _, _⟩ := ho5.len
            rw [HLN.out] at ho5 hrun5 ha5
            have OW_4 := hide ho5
            have BX4 : Hid (Below w3.heap.size w3 x4) := BX3.out.grown hg5 BX3.out.size (fun j hj => (OW_3.out.lt hj).1)
            have RL_4 := hide (RL_3.out.grown1 hg5 LG1_3.out (by intro e; simp only [Value.ownBlock, Option.some.injEq] at e; exact NE.out (by first | exact e | exact e.symm)))
            have NB : Hid ((Value.slice oa5 Ln oc5).ownBlock ≠ some g1) := by
              intro e
              rcases ha5 with h | h
              · rw [h] at e; simp only [Value.ownBlock, Option.some.injEq] at e; exact NE.out (by first | exact e | exact e.symm)
              · rw [h] at e; simp only [Option.some.injEq] at e; have := LG1_3.out; omega
            have LG1_4 : Hid (g1 < x4.heap.size) := Nat.lt_of_lt_of_le LG1_3.out hg5.size
            have TX_4 : Hid (Thr x4 bX (.bool false) (.slice none 0 0) (.slice none 0 0) 27) := (hg5.block bX TX_3.out.lt (fun e => OW_3.out.apartT TX_3.out (by decide) e.symm)).trans TX_3.out
            clear ho5 hg5 ha5 hk5
            refine Lib.wp_append_run _ _ _ _ _ rfl _ _ rfl rfl _ _ hrun5 ?_
            clear hrun5
            refine hK.out _ _ (HS3.out _ BX4.out) (fun hHeld => ?_)
            clear hK K hHeld
            try simp only [Act.put, List.setIfInBounds_toArray, List.set_cons_zero, List.set_cons_succ]
            refine wpAnyH_ready (rs := [8]) (by kernel_rfl) (by simp) ?_
            refine AllReadyH.cons rfl (fun K hK => ?_) AllReadyH.nil
            have hrl : RowP x4 (.slice (some ⟨g1, 0, none⟩) 1 1) [((99, false, .slice none 0 0, 0) : Pt)] := RL_4.out
            have how : OwnP w3.heap.size x4 (.slice oa5 A.length oc5) A := by rw [HLN.out]; exact OW_4.out
            obtain ⟨v8, x5, hrun8, ho8, hg8, ha8, hk8⟩ := run_appP x4 w3.heap.size 25 _ A how (.slice (some ⟨g1, 0, none⟩) 1 1) [((99, false, .slice none 0 0, 0) : Pt)] hrl (fun m hm => by simp at hm; subst hm; rfl) (by have := HL12.out; simp only [List.length_cons, List.length_nil]; omega) BX4.out.size
            obtain ⟨oa8, oc8, rfl, hcap1, _⟩ := ho8.len
            have hle : (A ++ [((99, false, .slice none 0 0, 0) : Pt)]).length = Ln + 1 := by rw [List.length_append, HLN.out]; rfl
            rw [hle] at ho8 hrun8 hcap1
            rw [HLN.out] at hrun8 hg8
            have OW_5 := hide ho8
            have BX5 : Hid (Below w3.heap.size w3 x5) := BX4.out.grown hg8 BX4.out.size (fun j hj => (OW_4.out.lt hj).1)
            have TX_5 : Hid (Thr x5 bX (.bool false) (.slice none 0 0) (.slice none 0 0) 27) := (hg8.block bX TX_4.out.lt (fun e => OW_4.out.apartT TX_4.out (by decide) e.symm)).trans TX_4.out
            have hsl := fun W : World => cut_parts W oa8 (Ln + 1) oc8 Ln (by omega)
            clear ho8 hg8 ha8 hk8 hle hrl how hcap1
            refine Lib.wp_append_run _ _ _ _ _ rfl _ _ rfl rfl _ _ hrun8 ?_
            clear hrun8
            refine hK.out _ _ (HS3.out _ BX5.out) (fun hHeld => ?_)
            clear hK K hHeld
            try simp only [Act.put, List.setIfInBounds_toArray, List.set_cons_zero, List.set_cons_succ]
            have hHeld := HS3.out _ BX5.out
            refine takeD (i := 12) (v := ?v37) (some 37) rfl (by kernel_rfl) (by kernel_rfl) (by kernel_rfl) (fun _ _ _ h => h) (Or.inl ⟨by rfl, ?hy37⟩) (by assumption) (by rfl) ?rest37
            case hy37 => first | (intro w hSw; (try dsimp only at hSw); obtain ⟨q0, q1, q2⟩ := hSw; go_simp; done) | (intro w hSw; (try dsimp only at hSw); obtain ⟨q0, q1, q2⟩ := hSw; go_simp; with_reducible rfl)
            try simp only [Act.put, List.setIfInBounds_toArray, List.set_cons_zero, List.set_cons_succ]
            refine takeD (i := 13) (v := ?v38) (some 38) rfl (by kernel_rfl) (by kernel_rfl) (by kernel_rfl) (fun _ _ _ h => h) (Or.inl ⟨by rfl, ?hy38⟩) (by assumption) (by rfl) ?rest38
            case hy38 => first | (intro w hSw; (try dsimp only at hSw); obtain ⟨q0, q1, q2⟩ := hSw; go_simp; done) | (intro w hSw; (try dsimp only at hSw); obtain ⟨q0, q1, q2⟩ := hSw; go_simp; with_reducible rfl)
            try simp only [Act.put, List.setIfInBounds_toArray, List.set_cons_zero, List.set_cons_succ]
            clear hHeld hsl
            refine wpAnyH_ready (rs := [15]) (by kernel_rfl) (by simp) ?_
            refine AllReadyH.cons rfl (fun K hK => ?_) AllReadyH.nil
            have z0 := Thr.c0 (W := x5) (b := bX) (x := .bool false) (y := .slice none 0 0) (z := .slice none 0 0) (t := 27) TX_5.out
            have z1 := Thr.c1 (W := x5) (b := bX) (x := .bool false) (y := .slice none 0 0) (z := .slice none 0 0) (t := 27) TX_5.out
            have z2 := Thr.c2 (W := x5) (b := bX) (x := .bool false) (y := .slice none 0 0) (z := .slice none 0 0) (t := 27) TX_5.out
            have f0 := Thr.f0 (W := x5) (b := bX) (x := .bool false) (y := .slice none 0 0) (z := .slice none 0 0) (t := 27) TX_5.out 0
            have f1 := Thr.f0 (W := x5) (b := bX) (x := .bool false) (y := .slice none 0 0) (z := .slice none 0 0) (t := 27) TX_5.out 1
            have f2 := Thr.f0 (W := x5) (b := bX) (x := .bool false) (y := .slice none 0 0) (z := .slice none 0 0) (t := 27) TX_5.out 2
            go_simp
            have TX_6 := hide (TX_5.out.put (.bool an) (.slice aa aL ac) (.slice oa8 Ln oc8))
            have OW_6 := hide (OW_5.out.off TX_5.out (by decide) (fun k hk => put3_other (W := x5) hk (.bool an) (.slice aa aL ac) (.slice oa8 Ln oc8)))
            have BX6 := hide (put3_below BX5.out LBX.out (.bool an) (.slice aa aL ac) (.slice oa8 Ln oc8))
            clear z0 z1 z2 f0 f1 f2
            refine hK.out _ (put3 x5 bX (.bool an) (.slice aa aL ac) (.slice oa8 Ln oc8)) (HS3.out _ BX6.out) (fun hHeld => ?_)
            clear hK K hHeld
            generalize put3 x5 bX (.bool an) (.slice aa aL ac) (.slice oa8 Ln oc8) = x6 at *
            try simp only [Act.put, List.setIfInBounds_toArray, List.set_cons_zero, List.set_cons_succ]
            refine wpAnyH_done (by kernel_rfl) ?_ _
            go_wp2_with fail
            go_meet
            exact ⟨bX, oa8, oc8, rfl, TX_6.out, OW_6.out, BX6.out⟩
      case rest =>
        obtain ⟨bX, oX, cX, rfl, tX, hoX, hbc⟩ := hcut
        have HWC := hide (bafter HW3.out hbc (Nat.le_refl _))
        have HBC3 := hide hbc
        have TX := hide tX
        have HOX := hide hoX
        have HRX := hide hoX.row
        have HTX : Hid (TermA 8 wc (.agg #[.bool an, .slice aa aL ac, .slice oX Ln cX]) c A) := by
          have h1 := hoX.row.front
          rw [HLN.out] at h1
          exact (HTA.out.below HWC.out).swap h1
        have HS4 : Hid (∀ X : World, Below wc.heap.size wc X → X.cell? ⟨bX, 0, none⟩ = some (.bool an) ∧ X.cell? ⟨bX, 1, none⟩ = some (.slice aa aL ac) ∧ X.cell? ⟨bX, 2, none⟩ = some (.slice oX Ln cX) ∧ X.cell? ⟨w.heap.size + 1, 0, none⟩ = some (.bool bn) ∧ X.cell? ⟨w.heap.size + 1, 1, none⟩ = some (.slice ba bL bc) ∧ X.cell? ⟨w.heap.size + 1, 2, none⟩ = some (.slice bp bl bk)) := fun X hX => by
          have t1 := TX.out.keep hX
          have t2 := ((TC.out.keep HB3.out).keep HBC3.out).keep hX
          exact ⟨t1.c0, t1.c1, t1.c2, t2.c0, t2.c1, t2.c2⟩
        clear tX hoX hbc
        go_upto_region 4 with fail
        refine wp_region_held_drew (S := fun X : World => X.cell? ⟨bX, 0, none⟩ = some (.bool an) ∧ X.cell? ⟨bX, 1, none⟩ = some (.slice aa aL ac) ∧ X.cell? ⟨bX, 2, none⟩ = some (.slice oX Ln cX) ∧ X.cell? ⟨w.heap.size + 1, 0, none⟩ = some (.bool bn) ∧ X.cell? ⟨w.heap.size + 1, 1, none⟩ = some (.slice ba bL bc) ∧ X.cell? ⟨w.heap.size + 1, 2, none⟩ = some (.slice bp bl bk)) (by kernel_rfl) ?_ (fun hHeld => ?_)
        · exact HS4.out _ (by (first | exact (Below.refl _ _).drew | exact Below.refl _ _))
        refine takeD (i := 0) (v := ?v39) (some 39) rfl (by kernel_rfl) (by kernel_rfl) (by kernel_rfl) (fun _ _ _ h => h) (Or.inl ⟨by rfl, ?hy39⟩) (by assumption) (by rfl) ?rest39
        case hy39 => first | (intro w hSw; (try dsimp only at hSw); obtain ⟨q0, q1, q2, q3, q4, q5⟩ := hSw; go_simp; done) | (intro w hSw; (try dsimp only at hSw); obtain ⟨q0, q1, q2, q3, q4, q5⟩ := hSw; go_simp; with_reducible rfl)
        try simp only [Act.put, List.setIfInBounds_toArray, List.set_cons_zero, List.set_cons_succ]
        refine takeD (i := 2) (v := ?v40) (some 41) rfl (by kernel_rfl) (by kernel_rfl) (by kernel_rfl) (fun _ _ _ h => h) (Or.inl ⟨by rfl, ?hy40⟩) (by assumption) (by rfl) ?rest40
        case hy40 => first | (intro w hSw; (try dsimp only at hSw); obtain ⟨q0, q1, q2, q3, q4, q5⟩ := hSw; go_simp; done) | (intro w hSw; (try dsimp only at hSw); obtain ⟨q0, q1, q2, q3, q4, q5⟩ := hSw; go_simp; with_reducible rfl)
        try simp only [Act.put, List.setIfInBounds_toArray, List.set_cons_zero, List.set_cons_succ]
        refine takeD (i := 3) (v := ?v41) (some 42) rfl (by kernel_rfl) (by kernel_rfl) (by kernel_rfl) (fun _ _ _ h => h) (Or.inl ⟨by rfl, ?hy41⟩) (by assumption) (by rfl) ?rest41
        case hy41 => first | (intro w hSw; (try dsimp only at hSw); obtain ⟨q0, q1, q2, q3, q4, q5⟩ := hSw; go_simp; done) | (intro w hSw; (try dsimp only at hSw); obtain ⟨q0, q1, q2, q3, q4, q5⟩ := hSw; go_simp; with_reducible rfl)
        try simp only [Act.put, List.setIfInBounds_toArray, List.set_cons_zero, List.set_cons_succ]
        refine takeD (i := 5) (v := ?v42) (some 44) rfl (by kernel_rfl) (by kernel_rfl) (by kernel_rfl) (fun _ _ _ h => h) (Or.inl ⟨by rfl, ?hy42⟩) (by assumption) (by rfl) ?rest42
        case hy42 => first | (intro w hSw; (try dsimp only at hSw); obtain ⟨q0, q1, q2, q3, q4, q5⟩ := hSw; go_simp; done) | (intro w hSw; (try dsimp only at hSw); obtain ⟨q0, q1, q2, q3, q4, q5⟩ := hSw; go_simp; with_reducible rfl)
        try simp only [Act.put, List.setIfInBounds_toArray, List.set_cons_zero, List.set_cons_succ]
        refine takeD (i := 6) (v := ?v43) (some 45) rfl (by kernel_rfl) (by kernel_rfl) (by kernel_rfl) (fun _ _ _ h => h) (Or.inl ⟨by rfl, ?hy43⟩) (by assumption) (by rfl) ?rest43
        case hy43 => first | (intro w hSw; (try dsimp only at hSw); obtain ⟨q0, q1, q2, q3, q4, q5⟩ := hSw; go_simp; done) | (intro w hSw; (try dsimp only at hSw); obtain ⟨q0, q1, q2, q3, q4, q5⟩ := hSw; go_simp; with_reducible rfl)
        try simp only [Act.put, List.setIfInBounds_toArray, List.set_cons_zero, List.set_cons_succ]
        refine takeD (i := 8) (v := ?v44) (some 47) rfl (by kernel_rfl) (by kernel_rfl) (by kernel_rfl) (fun _ _ _ h => h) (Or.inl ⟨by rfl, ?hy44⟩) (by assumption) (by rfl) ?rest44
        case hy44 => first | (intro w hSw; (try dsimp only at hSw); obtain ⟨q0, q1, q2, q3, q4, q5⟩ := hSw; go_simp; done) | (intro w hSw; (try dsimp only at hSw); obtain ⟨q0, q1, q2, q3, q4, q5⟩ := hSw; go_simp; with_reducible rfl)
        try simp only [Act.put, List.setIfInBounds_toArray, List.set_cons_zero, List.set_cons_succ]
        refine takeD (i := 9) (v := ?v45) (some 48) rfl (by kernel_rfl) (by kernel_rfl) (by kernel_rfl) (fun _ _ _ h => h) (Or.inl ⟨by rfl, ?hy45⟩) (by assumption) (by rfl) ?rest45
        case hy45 => first | (intro w hSw; (try dsimp only at hSw); obtain ⟨q0, q1, q2, q3, q4, q5⟩ := hSw; go_simp; done) | (intro w hSw; (try dsimp only at hSw); obtain ⟨q0, q1, q2, q3, q4, q5⟩ := hSw; go_simp; with_reducible rfl)
        try simp only [Act.put, List.setIfInBounds_toArray, List.set_cons_zero, List.set_cons_succ]
        refine takeD (i := 11) (v := ?v46) (some 50) rfl (by kernel_rfl) (by kernel_rfl) (by kernel_rfl) (fun _ _ _ h => h) (Or.inl ⟨by rfl, ?hy46⟩) (by assumption) (by rfl) ?rest46
        case hy46 => first | (intro w hSw; (try dsimp only at hSw); obtain ⟨q0, q1, q2, q3, q4, q5⟩ := hSw; go_simp; done) | (intro w hSw; (try dsimp only at hSw); obtain ⟨q0, q1, q2, q3, q4, q5⟩ := hSw; go_simp; with_reducible rfl)
        try simp only [Act.put, List.setIfInBounds_toArray, List.set_cons_zero, List.set_cons_succ]
        refine takeD (i := 12) (v := ?v47) (some 51) rfl (by kernel_rfl) (by kernel_rfl) (by kernel_rfl) (fun _ _ _ h => h) (Or.inl ⟨by rfl, ?hy47⟩) (by assumption) (by rfl) ?rest47
        case hy47 => first | (intro w hSw; (try dsimp only at hSw); obtain ⟨q0, q1, q2, q3, q4, q5⟩ := hSw; go_simp; done) | (intro w hSw; (try dsimp only at hSw); obtain ⟨q0, q1, q2, q3, q4, q5⟩ := hSw; go_simp; with_reducible rfl)
        try simp only [Act.put, List.setIfInBounds_toArray, List.set_cons_zero, List.set_cons_succ]
        refine takeD (i := 13) (v := ?v48) (some 52) rfl (by kernel_rfl) (by kernel_rfl) (by kernel_rfl) (fun _ _ _ h => h) (Or.inl ⟨by rfl, ?hy48⟩) (by assumption) (by rfl) ?rest48
        case hy48 => first | (intro w hSw; (try dsimp only at hSw); obtain ⟨q0, q1, q2, q3, q4, q5⟩ := hSw; go_simp; done) | (intro w hSw; (try dsimp only at hSw); obtain ⟨q0, q1, q2, q3, q4, q5⟩ := hSw; go_simp; with_reducible rfl)
        try simp only [Act.put, List.setIfInBounds_toArray, List.set_cons_zero, List.set_cons_succ]
        refine wpAnyH_ready (rs := [1]) (by kernel_rfl) (by simp) ?_
        refine AllReadyH.cons rfl (fun K hK => ?_) AllReadyH.nil
        go_simp
        refine (lnormF_calls (HTX.out.below (by (first | exact (Below.refl _ _).drew | exact Below.refl _ _))) (by omega)).mono ?_
        rintro e w11 ⟨v11, M11, rfl, ht11, hc11, ho11, hb11⟩
        obtain ⟨en, ec, ep, el, ek, rfl, hw11⟩ := ho11
        have HO11 := hide (hw11.down (show wc.heap.size ≤ _ from Below.size (B := wc.heap.size) (w := wc) (by (first | exact (Below.refl _ _).drew | exact Below.refl _ _))))
        have HB11 : Hid (Below wc.heap.size wc w11) := bafter (by (first | exact (Below.refl _ _).drew | exact Below.refl _ _)) hb11 (Nat.le_refl _)
        have HBS11 := hide hb11
        obtain ⟨eca, ecL, ecc, hcm11⟩ : ∃ a l c, ec = .slice a l c := by
          obtain ⟨_, _, _, _, _, _, _, e, _⟩ := ht11
          simp only [Value.agg.injEq, Array.mk.injEq, List.cons.injEq, and_true] at e
          exact ⟨_, _, _, e.2.1⟩
        subst hcm11
        clear ht11 hc11 hw11 hb11 hHeld
        go_wp2_with fail
        refine hK.out _ _ (HS4.out _ HB11.out) (fun hHeld => ?_)
        clear hK K
        try simp only [Act.put, List.setIfInBounds_toArray, List.set_cons_zero, List.set_cons_succ]
        refine wpAnyH_ready (rs := [4]) (by kernel_rfl) (by simp) ?_
        refine AllReadyH.cons rfl (fun K hK => ?_) AllReadyH.nil
        go_simp
        refine (laddF_calls (HTX.out.below HB11.out) (HTB.out.below (bafter HWC.out HB11.out (Nat.le_refl _))) (by omega)).mono ?_
        rintro e w12 ⟨v12, M12, rfl, ht12, hc12, ho12, hb12⟩
        obtain ⟨fn, fc, fp, fl, fk, rfl, hw12⟩ := ho12
        have HO12 := hide (hw12.down (show wc.heap.size ≤ _ from Below.size (B := wc.heap.size) (w := wc) HB11.out))
        have HB12 : Hid (Below wc.heap.size wc w12) := bafter HB11.out hb12 (Nat.le_refl _)
        have HBS12 := hide hb12
        obtain ⟨fca, fcL, fcc, hcm12⟩ : ∃ a l c, fc = .slice a l c := by
          obtain ⟨_, _, _, _, _, _, _, e, _⟩ := ht12
          simp only [Value.agg.injEq, Array.mk.injEq, List.cons.injEq, and_true] at e
          exact ⟨_, _, _, e.2.1⟩
        subst hcm12
        clear ht12 hc12 hw12 hb12 hHeld
        go_wp2_with fail
        refine hK.out _ _ (HS4.out _ HB12.out) (fun hHeld => ?_)
        clear hK K
        try simp only [Act.put, List.setIfInBounds_toArray, List.set_cons_zero, List.set_cons_succ]
        refine wpAnyH_ready (rs := [7]) (by kernel_rfl) (by simp) ?_
        refine AllReadyH.cons rfl (fun K hK => ?_) AllReadyH.nil
        go_simp
        refine (lsubF_calls (HTX.out.below HB12.out) (HTB.out.below (bafter HWC.out HB12.out (Nat.le_refl _))) (by omega)).mono ?_
        rintro e w13 ⟨v13, M13, rfl, ht13, hc13, ho13, hb13⟩
        obtain ⟨gn, gc, gp, gl, gk, rfl, hw13⟩ := ho13
        have HO13 := hide (hw13.down (show wc.heap.size ≤ _ from Below.size (B := wc.heap.size) (w := wc) HB12.out))
        have HB13 : Hid (Below wc.heap.size wc w13) := bafter HB12.out hb13 (Nat.le_refl _)
        have HBS13 := hide hb13
        obtain ⟨gca, gcL, gcc, hcm13⟩ : ∃ a l c, gc = .slice a l c := by
          obtain ⟨_, _, _, _, _, _, _, e, _⟩ := ht13
          simp only [Value.agg.injEq, Array.mk.injEq, List.cons.injEq, and_true] at e
          exact ⟨_, _, _, e.2.1⟩
        subst hcm13
        clear ht13 hc13 hw13 hb13 hHeld
        go_wp2_with fail
        refine hK.out _ _ (HS4.out _ HB13.out) (fun hHeld => ?_)
        clear hK K
        try simp only [Act.put, List.setIfInBounds_toArray, List.set_cons_zero, List.set_cons_succ]
        refine wpAnyH_ready (rs := [10]) (by kernel_rfl) (by simp) ?_
        refine AllReadyH.cons rfl (fun K hK => ?_) AllReadyH.nil
        go_simp
        refine (withoutF_calls (HTX.out.below HB13.out) x (by omega)).mono ?_
        rintro e w14 ⟨v14, M14, rfl, ht14, hc14, ho14, hb14⟩
        obtain ⟨yn, yc, yp, yl, yk, rfl, hw14⟩ := ho14
        have HO14 := hide (hw14.down (show wc.heap.size ≤ _ from Below.size (B := wc.heap.size) (w := wc) HB13.out))
        have HB14 : Hid (Below wc.heap.size wc w14) := bafter HB13.out hb14 (Nat.le_refl _)
        have HBS14 := hide hb14
        obtain ⟨yca, ycL, ycc, hcm14⟩ : ∃ a l c, yc = .slice a l c := by
          obtain ⟨_, _, _, _, _, _, _, e, _⟩ := ht14
          simp only [Value.agg.injEq, Array.mk.injEq, List.cons.injEq, and_true] at e
          exact ⟨_, _, _, e.2.1⟩
        subst hcm14
        clear ht14 hc14 hw14 hb14 hHeld
        go_wp2_with fail
        refine hK.out _ _ (HS4.out _ HB14.out) (fun hHeld => ?_)
        clear hK K
        try simp only [Act.put, List.setIfInBounds_toArray, List.set_cons_zero, List.set_cons_succ]
        refine wpAnyH_ready (rs := [14]) (by kernel_rfl) (by simp) ?_
        refine AllReadyH.cons rfl (fun K hK => ?_) AllReadyH.nil
        go_simp
        refine (substF_calls (HTX.out.below HB14.out) x (HTB.out.below (bafter HWC.out HB14.out (Nat.le_refl _))) (by omega)).mono ?_
        rintro e w15 ⟨v15, M15, rfl, ht15, hc15, ho15, hb15⟩
        obtain ⟨zn, zc, zp, zl, zk, rfl, hw15⟩ := ho15
        have HO15 := hide (hw15.down (show wc.heap.size ≤ _ from Below.size (B := wc.heap.size) (w := wc) HB14.out))
        have HB15 : Hid (Below wc.heap.size wc w15) := bafter HB14.out hb15 (Nat.le_refl _)
        have HBS15 := hide hb15
        obtain ⟨zca, zcL, zcc, hcm15⟩ : ∃ a l c, zc = .slice a l c := by
          obtain ⟨_, _, _, _, _, _, _, e, _⟩ := ht15
          simp only [Value.agg.injEq, Array.mk.injEq, List.cons.injEq, and_true] at e
          exact ⟨_, _, _, e.2.1⟩
        subst hcm15
        clear ht15 hc15 hw15 hb15 hHeld
        go_wp2_with fail
        refine hK.out _ _ (HS4.out _ HB15.out) (fun hHeld => ?_)
        clear hK K
        try simp only [Act.put, List.setIfInBounds_toArray, List.set_cons_zero, List.set_cons_succ]
        refine wpAnyH_ready (rs := [15]) (by kernel_rfl) (by simp) ?_
        refine AllReadyH.cons rfl (fun K hK => ?_) AllReadyH.nil
        go_simp
        have hbl := bel w15 (.cells #[.bool en, .slice eca ecL ecc, .slice ep el ek, .bool fn, .slice fca fcL fcc, .slice fp fl fk, .bool gn, .slice gca gcL gcc, .slice gp gl gk, .bool yn, .slice yca ycL ycc, .slice yp yl yk, .bool zn, .slice zca zcL zcc, .slice zp zl zk] 27)
        have HB16 := hide (bafter HB15.out hbl (Nat.le_refl _))
        have HAL : Hid (AllW wc.heap.size wc w15.heap.size #[.bool en, .slice eca ecL ecc, .slice ep el ek, .bool fn, .slice fca fcL fcc, .slice fp fl fk, .bool gn, .slice gca gcL gcc, .slice gp gl gk, .bool yn, .slice yca ycL ycc, .slice yp yl yk, .bool zn, .slice zca zcL zcc, .slice zp zl zk] [(ep, el, ek), (fp, fl, fk), (gp, gl, gk), (yp, yl, yk), (zp, zl, zk)] (w15.alloc (.cells #[.bool en, .slice eca ecL ecc, .slice ep el ek, .bool fn, .slice fca fcL fcc, .slice fp fl fk, .bool gn, .slice gca gcL gcc, .slice gp gl gk, .bool yn, .slice yca ycL ycc, .slice yp yl yk, .bool zn, .slice zca zcL zcc, .slice zp zl zk] 27))) := by
          refine ⟨HB16.out, World.alloc_heap_new w15 _, fun j p hj => ?_⟩
          match j, hj with
          | 0, hj => cases hj; exact rowW_of (((((HO11.out.below HBS12.out).below HBS13.out).below HBS14.out).below HBS15.out).below hbl)
          | 1, hj => cases hj; exact rowW_of ((((HO12.out.below HBS13.out).below HBS14.out).below HBS15.out).below hbl)
          | 2, hj => cases hj; exact rowW_of (((HO13.out.below HBS14.out).below HBS15.out).below hbl)
          | 3, hj => cases hj; exact rowW_of ((HO14.out.below HBS15.out).below hbl)
          | 4, hj => cases hj; exact rowW_of (HO15.out.below hbl)
          | k + 5, hj => simp at hj
        have HCS : Hid (∀ (j : Nat) (p : Option Addr × Nat × Nat), [(ep, el, ek), (fp, fl, fk), (gp, gl, gk), (yp, yl, yk), (zp, zl, zk)][j]? = some p → (#[.bool en, .slice eca ecL ecc, .slice ep el ek, .bool fn, .slice fca fcL fcc, .slice fp fl fk, .bool gn, .slice gca gcL gcc, .slice gp gl gk, .bool yn, .slice yca ycL ycc, .slice yp yl yk, .bool zn, .slice zca zcL zcc, .slice zp zl zk] : Array Value)[j * 3 + 2]? = some (.slice p.1 p.2.1 p.2.2)) := by
          intro j p hj
          match j, hj with
          | 0, hj => cases hj; rfl
          | 1, hj => cases hj; rfl
          | 2, hj => cases hj; rfl
          | 3, hj => cases hj; rfl
          | 4, hj => cases hj; rfl
          | k + 5, hj => simp at hj
        generalize hcs : (#[.bool en, .slice eca ecL ecc, .slice ep el ek, .bool fn, .slice fca fcL fcc, .slice fp fl fk, .bool gn, .slice gca gcL gcc, .slice gp gl gk, .bool yn, .slice yca ycL ycc, .slice yp yl yk, .bool zn, .slice zca zcL zcc, .slice zp zl zk] : Array Value) = cs at *
        generalize hrs : [(ep, el, ek), (fp, fl, fk), (gp, gl, gk), (yp, yl, yk), (zp, zl, zk)] = rs at *
        have HRS : Hid (rs.length = 5) := by show _ = _; rw [← hrs]; rfl
        clear hbl hcs hrs
        generalize w15.heap.size = bL5 at *
        generalize w15.alloc (.cells cs 27) = w16 at *
        refine hK.out _ _ (HS4.out _ HB16.out) (fun hHeld => ?_)
        clear hK K hHeld
        try simp only [Act.put, List.setIfInBounds_toArray, List.set_cons_zero, List.set_cons_succ]
        have hHeld := HS4.out _ HB16.out
        refine takeD (i := 16) (v := ?v49) (some 8) rfl (by kernel_rfl) (by kernel_rfl) (by kernel_rfl) (fun _ _ _ h => h) (Or.inl ⟨by rfl, ?hy49⟩) (by assumption) (by rfl) ?rest49
        case hy49 => first | (intro w hSw; (try dsimp only at hSw); obtain ⟨q0, q1, q2, q3, q4, q5⟩ := hSw; go_simp; done) | (intro w hSw; (try dsimp only at hSw); obtain ⟨q0, q1, q2, q3, q4, q5⟩ := hSw; go_simp; with_reducible rfl)
        try simp only [Act.put, List.setIfInBounds_toArray, List.set_cons_zero, List.set_cons_succ]
        clear hHeld
        refine wpAnyH_done (by kernel_rfl) ?_ _
        go_wp2
        go_loopw [9] (fun iv wr => ∃ i : Nat, i ≤ 5 ∧ iv = .int .i64 (i : Int) ∧ AllW wc.heap.size wc bL5 cs rs wr) (fun iv _ => 5 - (RowKit.intOf iv).toNat)
        case atStart => exact ⟨0, by omega, rfl, HAL.out⟩
        case round =>
          obtain ⟨i, hi, rfl, hal⟩ := hrel
          have HALi := hide hal
          by_cases hlt : i < 5
          · obtain ⟨⟨pa, pl, pc⟩, hp⟩ : ∃ p, rs[i]? = some p := ⟨_, List.getElem?_eq_getElem (by rw [HRS.out]; exact hlt)⟩
            have HP := hide hp
            have d1 : (i : Int) < 5 := by omega
            have d0 : (0 : Int) ≤ (i : Int) := by omega
            have hcell : wr.cell? ⟨bL5, i * 3 + 1 + 1, none⟩ = some (.slice pa pl pc) := by
              rw [cell_of_row wr bL5 _ _ _ _ hal.2.1]
              exact HCS.out i _ hp
            have hplm : pl ≤ 9223372036854775807 := by
              rcases hal.2.2 i _ hp with h | ⟨_, _, _, _, _, _, h5, h6⟩
              · have h7 : pl = 0 := h
                omega
              · have h7 : pl ≤ pc := h5
                have h8 : pc ≤ maxLen := h6
                unfold maxLen at h8
                omega
            clear hal hp
            generalize wr = wo at *
            clear wr
            go_wp2
            go_loopw [10] (fun kv wr => ∃ k : Nat, k ≤ pl ∧ kv = .int .i64 (k : Int) ∧ AllW wc.heap.size wc bL5 cs rs wr) (fun kv _ => pl - (RowKit.intOf kv).toNat)
            case atStart => exact ⟨0, Nat.zero_le _, rfl, HALi.out⟩
            case round =>
              obtain ⟨k, hk, rfl, halk⟩ := hrel
              have HALk := hide halk
              have hcell : wr.cell? ⟨bL5, i * 3 + 1 + 1, none⟩ = some (.slice pa pl pc) := by
                rw [cell_of_row wr bL5 _ _ _ _ halk.2.1]
                exact HCS.out i _ HP.out
              by_cases hkl : k < pl
              · rcases halk.2.2 i _ HP.out with h | ⟨g, cur, e1, e2, e3, e4, e5, e6⟩
                · have h7 : pl = 0 := h
                  omega
                · dsimp only at e1 e4 e5
                  subst e1
                  have k1 : (k : Int) < (pl : Int) := by omega
                  have k0 : (0 : Int) ≤ (k : Int) := by omega
                  have hs0 : k * 3 < cur.size := by omega
                  have hs1 : k * 3 + 1 < cur.size := by omega
                  have hs2 : k * 3 + 2 < cur.size := by omega
                  have s0 : wr.cell? ⟨g, k * 3, none⟩ = some cur[k * 3] := by rw [cell_of_row wr g _ _ _ _ e3, Array.getElem?_eq_getElem hs0]
                  have s1 : wr.cell? ⟨g, k * 3 + 1, none⟩ = some cur[k * 3 + 1] := by rw [cell_of_row wr g _ _ _ _ e3, Array.getElem?_eq_getElem hs1]
                  have s2 : wr.cell? ⟨g, k * 3 + 2, none⟩ = some cur[k * 3 + 2] := by rw [cell_of_row wr g _ _ _ _ e3, Array.getElem?_eq_getElem hs2]
                  have f0 := frozen_of_row wr g (k * 3) _ _ e3
                  have f1 := frozen_of_row wr g (k * 3 + 1) _ _ e3
                  have f2 := frozen_of_row wr g (k * 3 + 2) _ _ e3
                  have HG := hide e2
                  have HC := hide e3
                  generalize cur[k * 3] = u0 at *
                  generalize cur[k * 3 + 1] = u1 at *
                  generalize cur[k * 3 + 2] = u2 at *
                  clear halk e2 e3 e4 e5 e6 hs0 hs1 hs2
                  go_wp2
                  go_roundw
                  case rel => exact ⟨k + 1, by omega, by go_num, HALk.out.step HG.out HC.out _ _ _ _ _ _⟩
                  case measure => simp [RowKit.intOf]; omega
              · obtain rfl : k = pl := by omega
                have k1 : ¬ (k : Int) < (k : Int) := by omega
                clear halk
                go_wp2
                go_roundw
                case rel => exact ⟨i + 1, by omega, by go_num, HALk.out⟩
                case measure => simp [RowKit.intOf]; omega
          · obtain rfl : i = 5 := by omega
            have hbw := hal.1
            have HBW5 := hide hbw
            have hrow := HRX.out
            obtain ⟨ao, cap, e, hc1, hc2, h3⟩ := hrow
            obtain ⟨gx, ox, hox, hcx⟩ := h3 Ln (99, false, .slice none 0 0, 0) (by rw [← HLN.out]; simp)
            simp only [Value.slice.injEq] at e
            obtain ⟨rfl, eL9, rfl⟩ := e
            clear eL9
            subst hox
            obtain rfl : ox = 0 := by
              rcases HOX.out.1.2 with ⟨hv, _⟩ | ⟨g, cap, cur, hv, _⟩
              · simp at hv
              · simp only [Value.slice.injEq, Option.some.injEq, Addr.mk.injEq] at hv
                exact hv.1.2.1
            have HS12 : Hid (∀ X : World, Below wr.heap.size wr X → X.cell? ⟨bX, 2, none⟩ = some (.slice (some ⟨gx, 0, none⟩) Ln cX) ∧ X.cell? ⟨w.heap.size, 2, none⟩ = some (.slice ap Ln ak) ∧ X.cell? ⟨gx, Ln * 3, none⟩ = some (.int .i64 99)) := fun X hX => by
              have hY := bafter HBW5.out hX (Nat.le_refl _)
              have t1 := TX.out.keep hY
              have t2 := ((TB.out.keep HB3.out).keep HBC3.out).keep hY
              have h4 := (hcx.below hY).1
              rw [Nat.zero_add] at h4
              exact ⟨t1.c2, t2.c2, h4⟩
            have hca : Ln + 1 ≤ cX := by
              have h5 := hc1
              rw [List.length_append, HLN.out] at h5
              exact h5
            have hsl : ∀ W : World, (Instr.slice 25 (.slice (some ⟨gx, 0, none⟩) Ln cX) none (some (.int .i64 ((Ln : Int) + 1))) none).run Tryd.prog W = .ok (.slice (some ⟨gx, 0, none⟩) (Ln + 1) cX) W := fun W => cut_parts W (some ⟨gx, 0, none⟩) Ln cX (Ln + 1) hca
            have wl : IntKind.i64.wrap ((Ln : Int) + 1) = (Ln : Int) + 1 := wrapN (by omega) (by omega)
            have l1 : (Ln : Int) < (Ln : Int) + 1 := by omega
            have l0 : (0 : Int) ≤ (Ln : Int) := by omega
            have d5 : ¬ ((5 : Nat) : Int) < 5 := by omega
            have H3 := hide h3
            clear hal hbw hcx hc1 hc2 h3 hca
            go_upto_region 12 with fail
            go_upto_region 12 with fail
            refine wp_region_held_drew (S := fun X : World => X.cell? ⟨bX, 2, none⟩ = some (.slice (some ⟨gx, 0, none⟩) Ln cX) ∧ X.cell? ⟨w.heap.size, 2, none⟩ = some (.slice ap Ln ak) ∧ X.cell? ⟨gx, Ln * 3, none⟩ = some (.int .i64 99)) (by kernel_rfl) ?_ (fun hHeld => ?_)
            · exact HS12.out _ (by (first | exact (Below.refl _ _).drew | exact Below.refl _ _))
            refine takeD (i := 0) (v := ?v50) (some 79) rfl (by kernel_rfl) (by kernel_rfl) (by kernel_rfl) (fun _ _ _ h => h) (Or.inl ⟨by rfl, ?hy50⟩) (by assumption) (by rfl) ?rest50
            case hy50 => first | (intro w hSw; (try dsimp only at hSw); obtain ⟨q0, q1, q2⟩ := hSw; go_simp; done) | (intro w hSw; (try dsimp only at hSw); obtain ⟨q0, q1, q2⟩ := hSw; go_simp; with_reducible rfl)
            try simp only [Act.put, List.setIfInBounds_toArray, List.set_cons_zero, List.set_cons_succ]
            refine takeD (i := 1) (v := ?v51) (some 80) rfl (by kernel_rfl) (by kernel_rfl) (by kernel_rfl) (fun _ _ _ h => h) (Or.inl ⟨by rfl, ?hy51⟩) (by assumption) (by rfl) ?rest51
            case hy51 => first | (intro w hSw; (try dsimp only at hSw); obtain ⟨q0, q1, q2⟩ := hSw; go_simp; done) | (intro w hSw; (try dsimp only at hSw); obtain ⟨q0, q1, q2⟩ := hSw; go_simp; with_reducible rfl)
            try simp only [Act.put, List.setIfInBounds_toArray, List.set_cons_zero, List.set_cons_succ]
            refine takeD (i := 2) (v := ?v52) (some 81) rfl (by kernel_rfl) (by kernel_rfl) (by kernel_rfl) (fun _ _ _ h => h) (Or.inl ⟨by rfl, ?hy52⟩) (by assumption) (by rfl) ?rest52
            case hy52 => first | (intro w hSw; (try dsimp only at hSw); obtain ⟨q0, q1, q2⟩ := hSw; go_simp; done) | (intro w hSw; (try dsimp only at hSw); obtain ⟨q0, q1, q2⟩ := hSw; go_simp; with_reducible rfl)
            try simp only [Act.put, List.setIfInBounds_toArray, List.set_cons_zero, List.set_cons_succ]
            refine takeD (i := 3) (v := ?v53) (some 82) rfl (by kernel_rfl) (by kernel_rfl) (by kernel_rfl) (fun _ _ _ h => h) (Or.inl ⟨by rfl, ?hy53⟩) (by assumption) (by rfl) ?rest53
            case hy53 => first | (intro w hSw; (try dsimp only at hSw); obtain ⟨q0, q1, q2⟩ := hSw; go_simp; done) | (intro w hSw; (try dsimp only at hSw); obtain ⟨q0, q1, q2⟩ := hSw; go_simp; with_reducible rfl)
            try simp only [Act.put, List.setIfInBounds_toArray, List.set_cons_zero, List.set_cons_succ]
            refine takeD (i := 4) (v := ?v54) (some 83) rfl (by kernel_rfl) (by kernel_rfl) (by kernel_rfl) (fun _ _ _ h => h) (Or.inl ⟨by rfl, ?hy54⟩) (by assumption) (by rfl) ?rest54
            case hy54 => first | (intro w hSw; (try dsimp only at hSw); obtain ⟨q0, q1, q2⟩ := hSw; go_simp; done) | (intro w hSw; (try dsimp only at hSw); obtain ⟨q0, q1, q2⟩ := hSw; go_simp; with_reducible rfl)
            try simp only [Act.put, List.setIfInBounds_toArray, List.set_cons_zero, List.set_cons_succ]
            refine takeD (i := 5) (v := ?v55) (some 84) rfl (by kernel_rfl) (by kernel_rfl) (by kernel_rfl) (fun _ _ _ h => h) (Or.inl ⟨by rfl, ?hy55⟩) (by assumption) (by rfl) ?rest55
            case hy55 => first | (intro w hSw; (try dsimp only at hSw); obtain ⟨q0, q1, q2⟩ := hSw; go_simp; done) | (intro w hSw; (try dsimp only at hSw); obtain ⟨q0, q1, q2⟩ := hSw; go_simp; with_reducible rfl)
            try simp only [Act.put, List.setIfInBounds_toArray, List.set_cons_zero, List.set_cons_succ]
            refine takeD (i := 6) (v := ?v56) (some 85) rfl (by kernel_rfl) (by kernel_rfl) (by kernel_rfl) (fun _ _ _ h => h) (Or.inl ⟨by rfl, ?hy56⟩) (by assumption) (by rfl) ?rest56
            case hy56 => first | (intro w hSw; (try dsimp only at hSw); obtain ⟨q0, q1, q2⟩ := hSw; go_simp; done) | (intro w hSw; (try dsimp only at hSw); obtain ⟨q0, q1, q2⟩ := hSw; go_simp; with_reducible rfl)
            try simp only [Act.put, List.setIfInBounds_toArray, List.set_cons_zero, List.set_cons_succ]
            refine takeD (i := 7) (v := ?v57) (some 86) rfl (by kernel_rfl) (by kernel_rfl) (by kernel_rfl) (fun _ _ _ h => h) (Or.inl ⟨by rfl, ?hy57⟩) (by assumption) (by rfl) ?rest57
            case hy57 => first | (intro w hSw; (try dsimp only at hSw); obtain ⟨q0, q1, q2⟩ := hSw; go_simp; done) | (intro w hSw; (try dsimp only at hSw); obtain ⟨q0, q1, q2⟩ := hSw; go_simp; with_reducible rfl)
            try simp only [Act.put, List.setIfInBounds_toArray, List.set_cons_zero, List.set_cons_succ]
            refine takeD (i := 8) (v := ?v58) (some 87) rfl (by kernel_rfl) (by kernel_rfl) (by kernel_rfl) (fun _ _ _ h => h) (Or.inl ⟨by rfl, ?hy58⟩) (by assumption) (by rfl) ?rest58
            case hy58 => first | (intro w hSw; (try dsimp only at hSw); obtain ⟨q0, q1, q2⟩ := hSw; go_simp; done) | (intro w hSw; (try dsimp only at hSw); obtain ⟨q0, q1, q2⟩ := hSw; go_simp; with_reducible rfl)
            try simp only [Act.put, List.setIfInBounds_toArray, List.set_cons_zero, List.set_cons_succ]
            refine takeD (i := 9) (v := ?v59) (some 88) rfl (by kernel_rfl) (by kernel_rfl) (by kernel_rfl) (fun _ _ _ h => h) (Or.inl ⟨by rfl, ?hy59⟩) (by assumption) (by rfl) ?rest59
            case hy59 => first | (intro w hSw; (try dsimp only at hSw); obtain ⟨q0, q1, q2⟩ := hSw; go_simp; done) | (intro w hSw; (try dsimp only at hSw); obtain ⟨q0, q1, q2⟩ := hSw; go_simp; with_reducible rfl)
            try simp only [Act.put, List.setIfInBounds_toArray, List.set_cons_zero, List.set_cons_succ]
            refine takeD (i := 10) (v := ?v60) (some 89) rfl (by kernel_rfl) (by kernel_rfl) (by kernel_rfl) (fun _ _ _ h => h) (Or.inl ⟨by rfl, ?hy60⟩) (by assumption) (by rfl) ?rest60
            case hy60 => first | (intro w hSw; (try dsimp only at hSw); obtain ⟨q0, q1, q2⟩ := hSw; go_simp; done) | (intro w hSw; (try dsimp only at hSw); obtain ⟨q0, q1, q2⟩ := hSw; go_simp; with_reducible rfl)
            try simp only [Act.put, List.setIfInBounds_toArray, List.set_cons_zero, List.set_cons_succ]
            refine takeD (i := 11) (v := ?v61) (some 90) rfl (by kernel_rfl) (by kernel_rfl) (by kernel_rfl) (fun _ _ _ h => h) (Or.inl ⟨by rfl, ?hy61⟩) (by assumption) (by rfl) ?rest61
            case hy61 => first | (intro w hSw; (try dsimp only at hSw); obtain ⟨q0, q1, q2⟩ := hSw; go_simp; done) | (intro w hSw; (try dsimp only at hSw); obtain ⟨q0, q1, q2⟩ := hSw; go_simp; with_reducible rfl)
            try simp only [Act.put, List.setIfInBounds_toArray, List.set_cons_zero, List.set_cons_succ]
            refine takeD (i := 12) (v := ?v62) (some 91) rfl (by kernel_rfl) (by kernel_rfl) (by kernel_rfl) (fun _ _ _ h => h) (Or.inl ⟨by rfl, ?hy62⟩) (by assumption) (by rfl) ?rest62
            case hy62 => first | (intro w hSw; (try dsimp only at hSw); obtain ⟨q0, q1, q2⟩ := hSw; go_simp; done) | (intro w hSw; (try dsimp only at hSw); obtain ⟨q0, q1, q2⟩ := hSw; go_simp; with_reducible rfl)
            try simp only [Act.put, List.setIfInBounds_toArray, List.set_cons_zero, List.set_cons_succ]
            refine takeD (i := 13) (v := ?v63) (some 92) rfl (by kernel_rfl) (by kernel_rfl) (by kernel_rfl) (fun _ _ _ h => h) (Or.inl ⟨by rfl, ?hy63⟩) (by assumption) (by rfl) ?rest63
            case hy63 => first | (intro w hSw; (try dsimp only at hSw); obtain ⟨q0, q1, q2⟩ := hSw; go_simp; done) | (intro w hSw; (try dsimp only at hSw); obtain ⟨q0, q1, q2⟩ := hSw; go_simp; with_reducible rfl)
            try simp only [Act.put, List.setIfInBounds_toArray, List.set_cons_zero, List.set_cons_succ]
            clear hHeld
            refine wpAnyH_done (by kernel_rfl) ?_ _
            clear hsl l1
            go_wp2
            go_loopw [11] (fun iv wr2 => ∃ i : Nat, i ≤ Ln ∧ iv = .int .i64 (i : Int) ∧ Below wc.heap.size wc wr2) (fun iv _ => Ln - (RowKit.intOf iv).toNat)
            case atStart => exact ⟨0, Nat.zero_le _, rfl, by first | exact HBW5.out.drew | exact HBW5.out⟩
            case round =>
              obtain ⟨i, hi, rfl, hbw⟩ := hrel
              have HBW := hide hbw
              by_cases hlt : i < Ln
              · obtain ⟨⟨vr, neg, mv, z⟩, hm⟩ : ∃ m, A[i]? = some m := ⟨_, List.getElem?_eq_getElem (by rw [HLN.out]; exact hlt)⟩
                obtain ⟨ma, mL, mc, e⟩ := HA.out.sl _ (List.mem_of_getElem? hm)
                simp only at e
                subst e
                obtain ⟨gy, oy, hoy, hcx⟩ := H3.out i (vr, neg, .slice ma mL mc, z) (by rw [List.getElem?_append_left (by rw [HLN.out]; exact hlt)]; exact hm)
                simp only [Option.some.injEq, Addr.mk.injEq, and_true] at hoy
                obtain ⟨rfl, rfl⟩ := hoy
                have HRA2 := HRA
                obtain ⟨_, _, e, _, _, h3⟩ := HRA.out
                simp only [Value.slice.injEq] at e
                obtain ⟨rfl, eL9, rfl⟩ := e
                clear eL9
                obtain ⟨b, o, rfl, hca⟩ := h3 i _ hm
                obtain ⟨ys, hys⟩ := (HLIM.out _ (List.mem_of_getElem? hm)).2
                have HLM : Hid (Limbs wc (.slice ma mL mc) ys) := hys.below HWC.out
                have d1 : (i : Int) < (Ln : Int) := by omega
                have d0 : (0 : Int) ≤ (i : Int) := by omega
                have d3 : (vr != vr) = false := by simp
                have HS17 : Hid (∀ X : World, Below wr.heap.size wr X → X.cell? ⟨bX, 2, none⟩ = some (.slice (some ⟨gx, 0, none⟩) Ln cX) ∧ X.cell? ⟨w.heap.size, 2, none⟩ = some (.slice (some ⟨b, o, none⟩) Ln ak) ∧ X.cell? ⟨gx, i * 3, none⟩ = some (.int .i64 vr) ∧ X.cell? ⟨gx, i * 3 + 1 + 1, none⟩ = some (.slice ma mL mc) ∧ X.cell? ⟨b, o + i * 3, none⟩ = some (.int .i64 vr) ∧ X.cell? ⟨b, o + i * 3 + 1 + 1, none⟩ = some (.slice ma mL mc)) := fun X hX => by
                  have hY := bafter HBW.out hX (Nat.le_refl _)
                  have t1 := TX.out.keep hY
                  have t2 := ((TB.out.keep HB3.out).keep HBC3.out).keep hY
                  have h4 := hcx.below hY
                  have h5 := hca.below (bafter HWC.out hY (Nat.le_refl _))
                  rw [Nat.zero_add] at h4
                  exact ⟨t1.c2, t2.c2, h4.1, h4.2.2, h5.1, h5.2.2⟩
                obtain ⟨c0, c1, c2, _, _, _⟩ := (((TB.out.keep HB3.out).keep HBC3.out).keep hbw).every
                clear hm hbw h3 hcx hca hys
                go_upto_region 17 with fail
                clear c0 c1 c2
                go_upto_region 17 with fail
                refine wp_region_held_drew (S := fun X : World => X.cell? ⟨bX, 2, none⟩ = some (.slice (some ⟨gx, 0, none⟩) Ln cX) ∧ X.cell? ⟨w.heap.size, 2, none⟩ = some (.slice (some ⟨b, o, none⟩) Ln ak) ∧ X.cell? ⟨gx, i * 3, none⟩ = some (.int .i64 vr) ∧ X.cell? ⟨gx, i * 3 + 1 + 1, none⟩ = some (.slice ma mL mc) ∧ X.cell? ⟨b, o + i * 3, none⟩ = some (.int .i64 vr) ∧ X.cell? ⟨b, o + i * 3 + 1 + 1, none⟩ = some (.slice ma mL mc)) (by kernel_rfl) ?_ (fun hHeld => ?_)
                · exact HS17.out _ (by (first | exact (Below.refl _ _).drew | exact Below.refl _ _))
                refine takeD (i := 0) (v := ?v64) (some 100) rfl (by kernel_rfl) (by kernel_rfl) (by kernel_rfl) (fun _ _ _ h => h) (Or.inl ⟨by rfl, ?hy64⟩) (by assumption) (by rfl) ?rest64
                case hy64 => first | (intro w hSw; (try dsimp only at hSw); obtain ⟨q0, q1, q2, q3, q4, q5⟩ := hSw; go_simp; done) | (intro w hSw; (try dsimp only at hSw); obtain ⟨q0, q1, q2, q3, q4, q5⟩ := hSw; go_simp; with_reducible rfl)
                try simp only [Act.put, List.setIfInBounds_toArray, List.set_cons_zero, List.set_cons_succ]
                refine takeD (i := 1) (v := ?v65) (some 101) rfl (by kernel_rfl) (by kernel_rfl) (by kernel_rfl) (fun _ _ _ h => h) (Or.inl ⟨by rfl, ?hy65⟩) (by assumption) (by rfl) ?rest65
                case hy65 => first | (intro w hSw; (try dsimp only at hSw); obtain ⟨q0, q1, q2, q3, q4, q5⟩ := hSw; go_simp; done) | (intro w hSw; (try dsimp only at hSw); obtain ⟨q0, q1, q2, q3, q4, q5⟩ := hSw; go_simp; with_reducible rfl)
                try simp only [Act.put, List.setIfInBounds_toArray, List.set_cons_zero, List.set_cons_succ]
                refine takeD (i := 2) (v := ?v66) (some 102) rfl (by kernel_rfl) (by kernel_rfl) (by kernel_rfl) (fun _ _ _ h => h) (Or.inl ⟨by rfl, ?hy66⟩) (by assumption) (by rfl) ?rest66
                case hy66 => first | (intro w hSw; (try dsimp only at hSw); obtain ⟨q0, q1, q2, q3, q4, q5⟩ := hSw; go_simp; done) | (intro w hSw; (try dsimp only at hSw); obtain ⟨q0, q1, q2, q3, q4, q5⟩ := hSw; go_simp; with_reducible rfl)
                try simp only [Act.put, List.setIfInBounds_toArray, List.set_cons_zero, List.set_cons_succ]
                refine takeD (i := 3) (v := ?v67) (some 103) rfl (by kernel_rfl) (by kernel_rfl) (by kernel_rfl) (fun _ _ _ h => h) (Or.inl ⟨by rfl, ?hy67⟩) (by assumption) (by rfl) ?rest67
                case hy67 => first | (intro w hSw; (try dsimp only at hSw); obtain ⟨q0, q1, q2, q3, q4, q5⟩ := hSw; go_simp; done) | (intro w hSw; (try dsimp only at hSw); obtain ⟨q0, q1, q2, q3, q4, q5⟩ := hSw; go_simp; with_reducible rfl)
                try simp only [Act.put, List.setIfInBounds_toArray, List.set_cons_zero, List.set_cons_succ]
                refine takeD (i := 4) (v := ?v68) (some 104) rfl (by kernel_rfl) (by kernel_rfl) (by kernel_rfl) (fun _ _ _ h => h) (Or.inl ⟨by rfl, ?hy68⟩) (by assumption) (by rfl) ?rest68
                case hy68 => first | (intro w hSw; (try dsimp only at hSw); obtain ⟨q0, q1, q2, q3, q4, q5⟩ := hSw; go_simp; done) | (intro w hSw; (try dsimp only at hSw); obtain ⟨q0, q1, q2, q3, q4, q5⟩ := hSw; go_simp; with_reducible rfl)
                try simp only [Act.put, List.setIfInBounds_toArray, List.set_cons_zero, List.set_cons_succ]
                refine takeD (i := 5) (v := ?v69) (some 105) rfl (by kernel_rfl) (by kernel_rfl) (by kernel_rfl) (fun _ _ _ h => h) (Or.inl ⟨by rfl, ?hy69⟩) (by assumption) (by rfl) ?rest69
                case hy69 => first | (intro w hSw; (try dsimp only at hSw); obtain ⟨q0, q1, q2, q3, q4, q5⟩ := hSw; go_simp; done) | (intro w hSw; (try dsimp only at hSw); obtain ⟨q0, q1, q2, q3, q4, q5⟩ := hSw; go_simp; with_reducible rfl)
                try simp only [Act.put, List.setIfInBounds_toArray, List.set_cons_zero, List.set_cons_succ]
                refine takeD (i := 6) (v := ?v70) (some 106) rfl (by kernel_rfl) (by kernel_rfl) (by kernel_rfl) (fun _ _ _ h => h) (Or.inl ⟨by rfl, ?hy70⟩) (by assumption) (by rfl) ?rest70
                case hy70 => first | (intro w hSw; (try dsimp only at hSw); obtain ⟨q0, q1, q2, q3, q4, q5⟩ := hSw; go_simp; done) | (intro w hSw; (try dsimp only at hSw); obtain ⟨q0, q1, q2, q3, q4, q5⟩ := hSw; go_simp; with_reducible rfl)
                try simp only [Act.put, List.setIfInBounds_toArray, List.set_cons_zero, List.set_cons_succ]
                refine takeD (i := 7) (v := ?v71) (some 107) rfl (by kernel_rfl) (by kernel_rfl) (by kernel_rfl) (fun _ _ _ h => h) (Or.inl ⟨by rfl, ?hy71⟩) (by assumption) (by rfl) ?rest71
                case hy71 => first | (intro w hSw; (try dsimp only at hSw); obtain ⟨q0, q1, q2, q3, q4, q5⟩ := hSw; go_simp; done) | (intro w hSw; (try dsimp only at hSw); obtain ⟨q0, q1, q2, q3, q4, q5⟩ := hSw; go_simp; with_reducible rfl)
                try simp only [Act.put, List.setIfInBounds_toArray, List.set_cons_zero, List.set_cons_succ]
                refine takeD (i := 8) (v := ?v72) (some 108) rfl (by kernel_rfl) (by kernel_rfl) (by kernel_rfl) (fun _ _ _ h => h) (Or.inl ⟨by rfl, ?hy72⟩) (by assumption) (by rfl) ?rest72
                case hy72 => first | (intro w hSw; (try dsimp only at hSw); obtain ⟨q0, q1, q2, q3, q4, q5⟩ := hSw; go_simp; done) | (intro w hSw; (try dsimp only at hSw); obtain ⟨q0, q1, q2, q3, q4, q5⟩ := hSw; go_simp; with_reducible rfl)
                try simp only [Act.put, List.setIfInBounds_toArray, List.set_cons_zero, List.set_cons_succ]
                refine takeD (i := 9) (v := ?v73) (some 109) rfl (by kernel_rfl) (by kernel_rfl) (by kernel_rfl) (fun _ _ _ h => h) (Or.inl ⟨by rfl, ?hy73⟩) (by assumption) (by rfl) ?rest73
                case hy73 => first | (intro w hSw; (try dsimp only at hSw); obtain ⟨q0, q1, q2, q3, q4, q5⟩ := hSw; go_simp; done) | (intro w hSw; (try dsimp only at hSw); obtain ⟨q0, q1, q2, q3, q4, q5⟩ := hSw; go_simp; with_reducible rfl)
                try simp only [Act.put, List.setIfInBounds_toArray, List.set_cons_zero, List.set_cons_succ]
                refine takeD (i := 10) (v := ?v74) (some 110) rfl (by kernel_rfl) (by kernel_rfl) (by kernel_rfl) (fun _ _ _ h => h) (Or.inl ⟨by rfl, ?hy74⟩) (by assumption) (by rfl) ?rest74
                case hy74 => first | (intro w hSw; (try dsimp only at hSw); obtain ⟨q0, q1, q2, q3, q4, q5⟩ := hSw; go_simp; done) | (intro w hSw; (try dsimp only at hSw); obtain ⟨q0, q1, q2, q3, q4, q5⟩ := hSw; go_simp; with_reducible rfl)
                try simp only [Act.put, List.setIfInBounds_toArray, List.set_cons_zero, List.set_cons_succ]
                refine takeD (i := 11) (v := ?v75) (some 111) rfl (by kernel_rfl) (by kernel_rfl) (by kernel_rfl) (fun _ _ _ h => h) (Or.inl ⟨by rfl, ?hy75⟩) (by assumption) (by rfl) ?rest75
                case hy75 => first | (intro w hSw; (try dsimp only at hSw); obtain ⟨q0, q1, q2, q3, q4, q5⟩ := hSw; go_simp; done) | (intro w hSw; (try dsimp only at hSw); obtain ⟨q0, q1, q2, q3, q4, q5⟩ := hSw; go_simp; with_reducible rfl)
                try simp only [Act.put, List.setIfInBounds_toArray, List.set_cons_zero, List.set_cons_succ]
                refine takeD (i := 12) (v := ?v76) (some 112) rfl (by kernel_rfl) (by kernel_rfl) (by kernel_rfl) (fun _ _ _ h => h) (Or.inl ⟨by rfl, ?hy76⟩) (by assumption) (by rfl) ?rest76
                case hy76 => first | (intro w hSw; (try dsimp only at hSw); obtain ⟨q0, q1, q2, q3, q4, q5⟩ := hSw; go_simp; done) | (intro w hSw; (try dsimp only at hSw); obtain ⟨q0, q1, q2, q3, q4, q5⟩ := hSw; go_simp; with_reducible rfl)
                try simp only [Act.put, List.setIfInBounds_toArray, List.set_cons_zero, List.set_cons_succ]
                refine takeD (i := 13) (v := ?v77) (some 113) rfl (by kernel_rfl) (by kernel_rfl) (by kernel_rfl) (fun _ _ _ h => h) (Or.inl ⟨by rfl, ?hy77⟩) (by assumption) (by rfl) ?rest77
                case hy77 => first | (intro w hSw; (try dsimp only at hSw); obtain ⟨q0, q1, q2, q3, q4, q5⟩ := hSw; go_simp; done) | (intro w hSw; (try dsimp only at hSw); obtain ⟨q0, q1, q2, q3, q4, q5⟩ := hSw; go_simp; with_reducible rfl)
                try simp only [Act.put, List.setIfInBounds_toArray, List.set_cons_zero, List.set_cons_succ]
                refine takeD (i := 14) (v := ?v78) (some 114) rfl (by kernel_rfl) (by kernel_rfl) (by kernel_rfl) (fun _ _ _ h => h) (Or.inl ⟨by rfl, ?hy78⟩) (by assumption) (by rfl) ?rest78
                case hy78 => first | (intro w hSw; (try dsimp only at hSw); obtain ⟨q0, q1, q2, q3, q4, q5⟩ := hSw; go_simp; done) | (intro w hSw; (try dsimp only at hSw); obtain ⟨q0, q1, q2, q3, q4, q5⟩ := hSw; go_simp; with_reducible rfl)
                try simp only [Act.put, List.setIfInBounds_toArray, List.set_cons_zero, List.set_cons_succ]
                refine takeD (i := 15) (v := ?v79) (some 115) rfl (by kernel_rfl) (by kernel_rfl) (by kernel_rfl) (fun _ _ _ h => h) (Or.inl ⟨by rfl, ?hy79⟩) (by assumption) (by rfl) ?rest79
                case hy79 => first | (intro w hSw; (try dsimp only at hSw); obtain ⟨q0, q1, q2, q3, q4, q5⟩ := hSw; go_simp; done) | (intro w hSw; (try dsimp only at hSw); obtain ⟨q0, q1, q2, q3, q4, q5⟩ := hSw; go_simp; with_reducible rfl)
                try simp only [Act.put, List.setIfInBounds_toArray, List.set_cons_zero, List.set_cons_succ]
                refine takeD (i := 16) (v := ?v80) (some 116) rfl (by kernel_rfl) (by kernel_rfl) (by kernel_rfl) (fun _ _ _ h => h) (Or.inl ⟨by rfl, ?hy80⟩) (by assumption) (by rfl) ?rest80
                case hy80 => first | (intro w hSw; (try dsimp only at hSw); obtain ⟨q0, q1, q2, q3, q4, q5⟩ := hSw; go_simp; done) | (intro w hSw; (try dsimp only at hSw); obtain ⟨q0, q1, q2, q3, q4, q5⟩ := hSw; go_simp; with_reducible rfl)
                try simp only [Act.put, List.setIfInBounds_toArray, List.set_cons_zero, List.set_cons_succ]
                refine takeD (i := 17) (v := ?v81) (some 117) rfl (by kernel_rfl) (by kernel_rfl) (by kernel_rfl) (fun _ _ _ h => h) (Or.inl ⟨by rfl, ?hy81⟩) (by assumption) (by rfl) ?rest81
                case hy81 => first | (intro w hSw; (try dsimp only at hSw); obtain ⟨q0, q1, q2, q3, q4, q5⟩ := hSw; go_simp; done) | (intro w hSw; (try dsimp only at hSw); obtain ⟨q0, q1, q2, q3, q4, q5⟩ := hSw; go_simp; with_reducible rfl)
                try simp only [Act.put, List.setIfInBounds_toArray, List.set_cons_zero, List.set_cons_succ]
                refine takeD (i := 18) (v := ?v82) (some 118) rfl (by kernel_rfl) (by kernel_rfl) (by kernel_rfl) (fun _ _ _ h => h) (Or.inl ⟨by rfl, ?hy82⟩) (by assumption) (by rfl) ?rest82
                case hy82 => first | (intro w hSw; (try dsimp only at hSw); obtain ⟨q0, q1, q2, q3, q4, q5⟩ := hSw; go_simp; done) | (intro w hSw; (try dsimp only at hSw); obtain ⟨q0, q1, q2, q3, q4, q5⟩ := hSw; go_simp; with_reducible rfl)
                try simp only [Act.put, List.setIfInBounds_toArray, List.set_cons_zero, List.set_cons_succ]
                refine takeD (i := 19) (v := ?v83) (some 119) rfl (by kernel_rfl) (by kernel_rfl) (by kernel_rfl) (fun _ _ _ h => h) (Or.inl ⟨by rfl, ?hy83⟩) (by assumption) (by rfl) ?rest83
                case hy83 => first | (intro w hSw; (try dsimp only at hSw); obtain ⟨q0, q1, q2, q3, q4, q5⟩ := hSw; go_simp; done) | (intro w hSw; (try dsimp only at hSw); obtain ⟨q0, q1, q2, q3, q4, q5⟩ := hSw; go_simp; with_reducible rfl)
                try simp only [Act.put, List.setIfInBounds_toArray, List.set_cons_zero, List.set_cons_succ]
                refine takeD (i := 20) (v := ?v84) (some 120) rfl (by kernel_rfl) (by kernel_rfl) (by kernel_rfl) (fun _ _ _ h => h) (Or.inl ⟨by rfl, ?hy84⟩) (by assumption) (by rfl) ?rest84
                case hy84 => first | (intro w hSw; (try dsimp only at hSw); obtain ⟨q0, q1, q2, q3, q4, q5⟩ := hSw; go_simp; done) | (intro w hSw; (try dsimp only at hSw); obtain ⟨q0, q1, q2, q3, q4, q5⟩ := hSw; go_simp; with_reducible rfl)
                try simp only [Act.put, List.setIfInBounds_toArray, List.set_cons_zero, List.set_cons_succ]
                refine takeD (i := 21) (v := ?v85) (some 121) rfl (by kernel_rfl) (by kernel_rfl) (by kernel_rfl) (fun _ _ _ h => h) (Or.inl ⟨by rfl, ?hy85⟩) (by assumption) (by rfl) ?rest85
                case hy85 => first | (intro w hSw; (try dsimp only at hSw); obtain ⟨q0, q1, q2, q3, q4, q5⟩ := hSw; go_simp; done) | (intro w hSw; (try dsimp only at hSw); obtain ⟨q0, q1, q2, q3, q4, q5⟩ := hSw; go_simp; with_reducible rfl)
                try simp only [Act.put, List.setIfInBounds_toArray, List.set_cons_zero, List.set_cons_succ]
                refine takeD (i := 22) (v := ?v86) (some 122) rfl (by kernel_rfl) (by kernel_rfl) (by kernel_rfl) (fun _ _ _ h => h) (Or.inl ⟨by rfl, ?hy86⟩) (by assumption) (by rfl) ?rest86
                case hy86 => first | (intro w hSw; (try dsimp only at hSw); obtain ⟨q0, q1, q2, q3, q4, q5⟩ := hSw; go_simp; done) | (intro w hSw; (try dsimp only at hSw); obtain ⟨q0, q1, q2, q3, q4, q5⟩ := hSw; go_simp; with_reducible rfl)
                try simp only [Act.put, List.setIfInBounds_toArray, List.set_cons_zero, List.set_cons_succ]
                refine takeD (i := 23) (v := ?v87) (some 123) rfl (by kernel_rfl) (by kernel_rfl) (by kernel_rfl) (fun _ _ _ h => h) (Or.inl ⟨by rfl, ?hy87⟩) (by assumption) (by rfl) ?rest87
                case hy87 => first | (intro w hSw; (try dsimp only at hSw); obtain ⟨q0, q1, q2, q3, q4, q5⟩ := hSw; go_simp; done) | (intro w hSw; (try dsimp only at hSw); obtain ⟨q0, q1, q2, q3, q4, q5⟩ := hSw; go_simp; with_reducible rfl)
                try simp only [Act.put, List.setIfInBounds_toArray, List.set_cons_zero, List.set_cons_succ]
                refine takeD (i := 24) (v := ?v88) (some 124) rfl (by kernel_rfl) (by kernel_rfl) (by kernel_rfl) (fun _ _ _ h => h) (Or.inl ⟨by rfl, ?hy88⟩) (by assumption) (by rfl) ?rest88
                case hy88 => first | (intro w hSw; (try dsimp only at hSw); obtain ⟨q0, q1, q2, q3, q4, q5⟩ := hSw; go_simp; done) | (intro w hSw; (try dsimp only at hSw); obtain ⟨q0, q1, q2, q3, q4, q5⟩ := hSw; go_simp; with_reducible rfl)
                try simp only [Act.put, List.setIfInBounds_toArray, List.set_cons_zero, List.set_cons_succ]
                refine takeD (i := 25) (v := ?v89) (some 125) rfl (by kernel_rfl) (by kernel_rfl) (by kernel_rfl) (fun _ _ _ h => h) (Or.inl ⟨by rfl, ?hy89⟩) (by assumption) (by rfl) ?rest89
                case hy89 => first | (intro w hSw; (try dsimp only at hSw); obtain ⟨q0, q1, q2, q3, q4, q5⟩ := hSw; go_simp; done) | (intro w hSw; (try dsimp only at hSw); obtain ⟨q0, q1, q2, q3, q4, q5⟩ := hSw; go_simp; with_reducible rfl)
                try simp only [Act.put, List.setIfInBounds_toArray, List.set_cons_zero, List.set_cons_succ]
                refine takeD (i := 26) (v := ?v90) (some 126) rfl (by kernel_rfl) (by kernel_rfl) (by kernel_rfl) (fun _ _ _ h => h) (Or.inl ⟨by rfl, ?hy90⟩) (by assumption) (by rfl) ?rest90
                case hy90 => first | (intro w hSw; (try dsimp only at hSw); obtain ⟨q0, q1, q2, q3, q4, q5⟩ := hSw; go_simp; done) | (intro w hSw; (try dsimp only at hSw); obtain ⟨q0, q1, q2, q3, q4, q5⟩ := hSw; go_simp; with_reducible rfl)
                try simp only [Act.put, List.setIfInBounds_toArray, List.set_cons_zero, List.set_cons_succ]
                refine takeD (i := 27) (v := ?v91) (some 127) rfl (by kernel_rfl) (by kernel_rfl) (by kernel_rfl) (fun _ _ _ h => h) (Or.inl ⟨by rfl, ?hy91⟩) (by assumption) (by rfl) ?rest91
                case hy91 => first | (intro w hSw; (try dsimp only at hSw); obtain ⟨q0, q1, q2, q3, q4, q5⟩ := hSw; go_simp; done) | (intro w hSw; (try dsimp only at hSw); obtain ⟨q0, q1, q2, q3, q4, q5⟩ := hSw; go_simp; with_reducible rfl)
                try simp only [Act.put, List.setIfInBounds_toArray, List.set_cons_zero, List.set_cons_succ]
                refine wpAnyH_ready (rs := [28]) (by kernel_rfl) (by simp) ?_
                refine AllReadyH.cons rfl (fun K hK => ?_) AllReadyH.nil
                go_simp
                refine (words_weak _ _ _ ys ys (HLM.out.below (bafter HBW.out (by (first | exact (Below.refl _ _).drew | exact Below.refl _ _)) (Nat.le_refl _))).weak (HLM.out.below (bafter HBW.out (by (first | exact (Below.refl _ _).drew | exact Below.refl _ _)) (Nat.le_refl _))).weak).mono ?_
                rintro e w20 ⟨rfl, hb20⟩
                rw [decide_eq_true rfl]
                have HB20 : Hid (Below wr.heap.size wr w20) := bafter (by (first | exact (Below.refl _ _).drew | exact Below.refl _ _)) hb20 (Nat.le_refl _)
                clear hb20 hHeld
                go_wp2_with fail
                refine hK.out _ _ (HS17.out _ HB20.out) (fun hHeld => ?_)
                clear hK K
                try simp only [Act.put, List.setIfInBounds_toArray, List.set_cons_zero, List.set_cons_succ]
                refine takeD (i := 29) (v := ?v92) (some 129) rfl (by kernel_rfl) (by kernel_rfl) (by kernel_rfl) (fun _ _ _ h => h) (Or.inl ⟨by rfl, ?hy92⟩) (by assumption) (by rfl) ?rest92
                case hy92 => first | (intro w hSw; (try dsimp only at hSw); obtain ⟨q0, q1, q2, q3, q4, q5⟩ := hSw; go_simp; done) | (intro w hSw; (try dsimp only at hSw); obtain ⟨q0, q1, q2, q3, q4, q5⟩ := hSw; go_simp; with_reducible rfl)
                try simp only [Act.put, List.setIfInBounds_toArray, List.set_cons_zero, List.set_cons_succ]
                refine takeD (i := 30) (v := ?v93) (some 130) rfl (by kernel_rfl) (by kernel_rfl) (by kernel_rfl) (fun _ _ _ h => h) (Or.inl ⟨by rfl, ?hy93⟩) (by assumption) (by rfl) ?rest93
                case hy93 => first | (intro w hSw; (try dsimp only at hSw); obtain ⟨q0, q1, q2, q3, q4, q5⟩ := hSw; go_simp; done) | (intro w hSw; (try dsimp only at hSw); obtain ⟨q0, q1, q2, q3, q4, q5⟩ := hSw; go_simp; with_reducible rfl)
                try simp only [Act.put, List.setIfInBounds_toArray, List.set_cons_zero, List.set_cons_succ]
                clear hHeld
                refine wpAnyH_done (by kernel_rfl) ?_ _
                go_wp2
                go_roundw
                case rel => exact ⟨i + 1, by omega, by go_num, bafter HBW.out HB20.out (Nat.le_refl _)⟩
                case measure => simp [RowKit.intOf]; omega
              · obtain rfl : i = Ln := by omega
                have d1 : ¬ (i : Int) < (i : Int) := by omega
                obtain ⟨c0, c1, c2, _, _, _⟩ := (((TB.out.keep HB3.out).keep HBC3.out).keep hbw).every
                clear hbw
                go_wp2
                go_ret
                exact ⟨rfl, bafter HWC.out HBW.out (Nat.le_refl _)⟩

end Go.Proofs.YtkdhcpfmlelfcaaDoor
