/- A sum as the reference's: of. -/
import Derived.Test.YtbjolmgobeagoaaGreatDoorLnRMem
namespace Go.Proofs.YtbjolmgobeagoaaGreatDoor
set_option linter.unusedVariables false
set_option linter.unusedSimpArgs false
set_option maxRecDepth 100000
open Go Go.RowKit Go.Shelf Go.Lib

theorem OwnQ.apart {n₀ : Nat} {W : World} {v : Value} {M : List Pt} (h : OwnQ n₀ W v M) {b : Nat} {cs : Array Value} {t : TypeId} {m : Nat × Nat} (hb : W.heap[b]? = some (.cells cs t m)) (ht : t ≠ 79) : v.ownBlock ≠ some b := by
  intro e
  rcases h.1.2 with ⟨hv, _⟩ | ⟨g, cap, cur, hv, h1, h2, _⟩
  · rw [hv] at e
    simp [Value.ownBlock] at e
  · rw [hv] at e
    simp only [Value.ownBlock, Option.some.injEq] at e
    subst e
    rw [hb] at h2
    simp only [Option.some.injEq, Obj.cells.injEq] at h2
    exact ht h2.2.1
/-- A sum of the reference's under way: in block b3, its parts in a row of its own. -/
structure RJ (b3 n1 : Nat) (T : World → Prop) (c : Int) (cn : Bool) (ca : Option Addr) (cL cc : Nat) (W : World) (X : List Pt) (oa : Option Addr) (oc : Nat) : Prop where
  box : Thr W b3 (.bool cn) (.slice ca cL cc) (.slice oa X.length oc) 35
  num : NRes W (.agg #[.bool cn, .slice ca cL cc]) c
  own : OwnQ n1 W (.slice oa X.length oc) X
  good : GoodN W X
  oth : T W
theorem RJ.below {b3 n1 : Nat} {T : World → Prop} {c : Int} {cn : Bool} {ca : Option Addr} {cL cc : Nat} {W W' : World} {X : List Pt} {oa : Option Addr} {oc : Nat} (h : RJ b3 n1 T c cn ca cL cc W X oa oc) (hb : Below W.heap.size W W') (hT : T W') : RJ b3 n1 T c cn ca cL cc W' X oa oc :=
  ⟨h.box.keep hb, h.num.below hb, h.own.below hb, h.good.below hb, hT⟩
theorem RJ.step {b3 n1 : Nat} {T : World → Prop} {c : Int} {cn : Bool} {ca : Option Addr} {cL cc : Nat} {W w5 w6 : World} {X : List Pt} {oa oa6 : Option Addr} {oc oc6 : Nat} {p : Pt}
    (h : RJ b3 n1 T c cn ca cL cc W X oa oc) (h5 : Below W.heap.size W w5)
    (ho : OwnQ n1 w6 (.slice oa6 (X ++ [p]).length oc6) (X ++ [p])) (hg : w5.grownBy w6 (Value.slice oa X.length oc).ownBlock) (hk : KR w5 w6) (hr : Rng p.1 ∧ NRes w5 (.agg #[.bool p.2.1, p.2.2.1]) p.2.2.2)
    (hT : ∀ W' : World, (∀ b, b ≠ b3 → (Value.slice oa X.length oc).ownBlock ≠ some b → b < W.heap.size → W'.heap[b]? = W.heap[b]?) → T W') :
    RJ b3 n1 T c cn ca cL cc (w6.setCell ⟨b3, 2, none⟩ (.slice oa6 (X ++ [p]).length oc6)) (X ++ [p]) oa6 oc6 ∧
    Thr w6 b3 (.bool cn) (.slice ca cL cc) (.slice oa X.length oc) 35 ∧
    (∀ b, b ≠ b3 → (Value.slice oa X.length oc).ownBlock ≠ some b → b < W.heap.size → (w6.setCell ⟨b3, 2, none⟩ (.slice oa6 (X ++ [p]).length oc6)).heap[b]? = W.heap[b]? ∧ w6.heap[b]? = W.heap[b]?) ∧
    (∀ n w0, n ≤ n1 → n ≤ b3 → Below n w0 W → n ≤ w0.heap.size → Below n w0 (w6.setCell ⟨b3, 2, none⟩ (.slice oa6 (X ++ [p]).length oc6))) := by
  have hap : (Value.slice oa X.length oc).ownBlock ≠ some b3 := h.own.apart h.box (by decide)
  have hsame : ∀ b, (Value.slice oa X.length oc).ownBlock ≠ some b → b < W.heap.size → w6.heap[b]? = W.heap[b]? := fun b hb hl => (hg.block b (Nat.lt_of_lt_of_le hl h5.size) (fun e => hb e.symm)).trans (h5.block b hl)
  have hbox6 : Thr w6 b3 (.bool cn) (.slice ca cL cc) (.slice oa X.length oc) 35 := (hsame b3 hap h.box.lt).trans h.box
  have hsame7 : ∀ b, b ≠ b3 → (w6.setCell ⟨b3, 2, none⟩ (.slice oa6 (X ++ [p]).length oc6)).heap[b]? = w6.heap[b]? := fun b hb => heap_setCell_other w6 ⟨b3, 2, none⟩ b _ hb
  have hbut : ButN b3 w6 (w6.setCell ⟨b3, 2, none⟩ (.slice oa6 (X ++ [p]).length oc6)) := ⟨hbox6.noInt, hsame7⟩
  have hap6 : (Value.slice oa6 (X ++ [p]).length oc6).ownBlock ≠ some b3 := ho.apart hbox6 (by decide)
  refine ⟨⟨?_, ?_, ?_, ?_, ?_⟩, hbox6, fun b h1 h2 h3 => ⟨(hsame7 b h1).trans (hsame b h2 h3), hsame b h2 h3⟩, fun n w0 hn1 hn2 hb hn0 => ?_⟩
  · exact heap_setCell_same w6 b3 2 _ _ _ hbox6
  · exact ((h.num.below h5).kr hk).kr hbut.kr
  · exact ho.block (fun j hj => hsame7 j (fun e => hap6 (by rw [← e]; exact hj)))
  · refine GoodN.kr ?_ hbut.kr
    intro q hq
    rcases List.mem_append.1 hq with hq | hq
    · exact ((h.good.below h5).kr hk) q hq
    · simp at hq
      subst hq
      exact ⟨hr.1, hr.2.kr hk⟩
  · exact hT _ (fun b h1 h2 h3 => (hsame7 b h1).trans (hsame b h2 h3))
  · exact (((hb.trans (h5.mono (Nat.le_trans hn0 hb.size))).grown hg (Nat.le_trans hn0 (Nat.le_trans hb.size h5.size)) (fun j hj => Nat.le_trans hn1 (h.own.lt hj).1)).setCell (p := ⟨b3, 2, none⟩) hn2 _)

/-- Limbs of a part, so many at most. -/
def Lim (k : Nat) (W : World) (m : Pt) : Prop := ∃ xs, Limbs W m.2.2.1 xs ∧ xs.length ≤ k ∧ m.2.2.2 = sgn m.2.1 (val R xs)
theorem Lim.below {k : Nat} {W W' : World} {m : Pt} (h : Lim k W m) (hb : Below W.heap.size W W') : Lim k W' m := by
  obtain ⟨xs, h1, h2⟩ := h
  exact ⟨xs, h1.below hb, h2⟩
theorem row_litQ (W : World) (a : Int) (b : Bool) (c : Value) (z : Int) : RowP (W.alloc (.cells #[.int .i64 a, .bool b, c] 79)) (.slice (some ⟨W.heap.size, 0, none⟩) 1 1) [(a, b, c, z)] := by
  refine ⟨some ⟨W.heap.size, 0, none⟩, 1, rfl, Nat.le_refl _, by simp [maxLen], fun j m hj => ?_⟩
  cases j with
  | zero =>
    simp at hj
    subst hj
    exact ⟨_, _, rfl, World.cell?_alloc_mark W _ _ (0, 0) 0, World.cell?_alloc_mark W _ _ (0, 0) 1, World.cell?_alloc_mark W _ _ (0, 0) 2⟩
  | succ j => simp at hj
theorem put1_cells {W : World} {b k i : Nat} (h : k ≠ b) (p : Value) {j : Nat} : (W.setCell ⟨b, i, none⟩ p).cell? ⟨k, j, none⟩ = W.cell? ⟨k, j, none⟩ := World.cell?_of_block (a := ⟨k, j, none⟩) (heap_setCell_other W ⟨b, i, none⟩ k p h)
def RTermE (w : World) (c : Int) (f : Ps → Prop) (e : Ending) (w' : World) : Prop := ∃ v M, e = .returned v ∧ RTerm w' v c M ∧ f (ps M) ∧ Below w.heap.size w w'
theorem ps_take_step {M : List Pt} {i : Nat} {m : Pt} (h : M[i]? = some m) : ps (M.take (i + 1)) = ps (M.take i) ++ [pt m] := by
  rw [List.take_add_one, h, ps_append]
  rfl

set_option maxHeartbeats 8000000 in
theorem gof_calls {w : World} {cn : Bool} {ca pa : Option Addr} {cL cc pl pc : Nat} {xs : List Nat} {M : List Pt} (hx : Limbs w (.slice ca cL cc) xs) (hxl : xs.length ≤ 8) (hr : RowP w (.slice pa pl pc) M) (hg : ∀ m ∈ M, Rng m.1 ∧ Lim 8 w m) (hl : M.length ≤ 100) :
    Calls Tryz.prog 11 #[.agg #[.bool cn, .slice ca cL cc, .slice pa pl pc]] w fun e w' => RTermE w (sgn cn (val R xs)) (fun l => l = ps M) e w' := by
  obtain ⟨_, _, e, _, _, h3⟩ := hr
  simp only [Value.slice.injEq] at e
  obtain ⟨rfl, rfl, rfl⟩ := e
  generalize hLn : M.length = Ln at *
  have HLN := hide hLn
  have H3 := hide h3
  have HG := hide hg
  have HSL : Hid (Sl M) := fun m hm => by
    obtain ⟨ys, hy, _⟩ := (hg m hm).2
    obtain ⟨ao, cap, e, _⟩ := hy
    exact ⟨_, _, _, e⟩
  have tb := (Thr.new w (.bool cn) (.slice ca cL cc) (.slice pa Ln pc) 27).alloc (.cells #[.bool false, .slice none 0 0, .slice none 0 0] 35)
  have tz := Thr.new1 w (.cells #[.bool cn, .slice ca cL cc, .slice pa Ln pc] 27) (.bool false) (.slice none 0 0) (.slice none 0 0) 35
  have hba : Below w.heap.size w ((w.alloc (.cells #[.bool cn, .slice ca cL cc, .slice pa Ln pc] 27)).alloc (.cells #[.bool false, .slice none 0 0, .slice none 0 0] 35)) := (bel _ _).trans ((bel _ _).mono (by simp))
  have hnum := gnum_calls (neg := cn) (hx.below hba) hxl
  generalize hwA : (w.alloc (.cells #[.bool cn, .slice ca cL cc, .slice pa Ln pc] 27)).alloc (.cells #[.bool false, .slice none 0 0, .slice none 0 0] 35) = wA at *
  have HWA := hide hwA
  have TB := hide tb
  have TZ := hide tz
  have HBA := hide hba
  obtain ⟨c0, c1, c2, _, _, _⟩ := tb.every
  generalize sgn cn (val R xs) = cz at *
  clear hwA tb tz hba hx hxl h3 hg hLn
  go_enter Tryz.func11, Tryz.ntmps11
  go_upto_region 1 with fail
  rw [HWA.out]
  go_wp2_with fail
  refine hnum.mono ?_
  rintro e w1 ⟨v1, rfl, hr1, hb1⟩
  obtain ⟨nb, na, nL, nc, rfl⟩ := hr1.form
  have hbx := bel w1 (.cells #[.bool nb, .slice na nL nc, .slice none 0 0] 35)
  have HST : Hid (RJ w1.heap.size w1.heap.size (fun W => Thr W w.heap.size (.bool cn) (.slice ca cL cc) (.slice pa Ln pc) 27 ∧ Thr W (w.heap.size + 1) (.bool false) (.slice none 0 0) (.slice none 0 0) 35) cz nb na nL nc (w1.alloc (.cells #[.bool nb, .slice na nL nc, .slice none 0 0] 35)) [] none 0) :=
    ⟨Thr.new w1 _ _ _ _, hr1.below hbx, OwnQ.nil _ _, fun m hm => (by cases hm), (TB.out.keep hb1).keep hbx, (TZ.out.keep hb1).keep hbx⟩
  have HB1 := hide (bafter (bafter HBA.out hb1 (Nat.le_refl _)) hbx (Nat.le_refl _))
  have HN1 : Hid (w.heap.size + 2 ≤ w1.heap.size) := by
    have h1 := TZ.out.lt
    have h2 := hb1.size
    show _ ≤ _
    omega
  clear hnum hr1 hb1 hbx c0 c1 c2
  go_wp2
  go_loopw [4] (fun iv wr => ∃ (i : Nat) (X : List Pt) (oa : Option Addr) (oc : Nat), i ≤ Ln ∧ iv = .int .i64 (i : Int) ∧ RJ w1.heap.size w1.heap.size (fun W => Thr W w.heap.size (.bool cn) (.slice ca cL cc) (.slice pa Ln pc) 27 ∧ Thr W (w.heap.size + 1) (.bool false) (.slice none 0 0) (.slice none 0 0) 35) cz nb na nL nc wr X oa oc ∧ ps X = ps (M.take i) ∧ Below w.heap.size w wr) (fun iv _ => Ln - (RowKit.intOf iv).toNat)
  case atStart => exact ⟨0, [], _, _, Nat.zero_le _, rfl, HST.out, by simp, HB1.out⟩
  case round =>
    obtain ⟨i, X, oa, oc, hi, rfl, hj, hps, hbw⟩ := hrel
    obtain ⟨c0, c1, c2, _, _, _⟩ := hj.oth.1.every
    have HJ := hide hj
    have HPS := hide hps
    have HBW := hide hbw
    clear hj hps hbw
    by_cases hlt : i < Ln
    · obtain ⟨⟨vr, neg, mv, z⟩, hm⟩ : ∃ m, M[i]? = some m := ⟨_, List.getElem?_eq_getElem (by rw [HLN.out]; exact hlt)⟩
      obtain ⟨ma, mL, mc, e⟩ := HSL.out _ (List.mem_of_getElem? hm)
      simp only at e
      subst e
      obtain ⟨b, o, rfl, hc⟩ := H3.out i _ hm
      have HC : Hid (∀ W, Below w.heap.size w W → CellsP W b (o + i * 3) (vr, neg, .slice ma mL mc, z)) := fun W h => hc.below h
      have hgm := HG.out _ (List.mem_of_getElem? hm)
      obtain ⟨ys, hy, hyl, hyz⟩ := hgm.2
      have HNUM := hide (fun (W : World) (h : Below w.heap.size w W) => gnum_calls (neg := neg) (hy.below h) hyl)
      have hyz' : sgn neg (val R ys) = z := hyz.symm
      have HRG := hide hgm.1
      have d1 : (i : Int) < (Ln : Int) := by omega
      have d0 : (0 : Int) ≤ (i : Int) := by omega
      have HM := hide hm
      rw [hyz'] at HNUM
      clear hm hc hgm hy hyl hyz hyz'
      have HS : Hid (∀ Y : World, Below wr.heap.size wr Y → Y.cell? ⟨w.heap.size, 2, none⟩ = some (.slice (some ⟨b, o, none⟩) Ln pc) ∧ Y.cell? ⟨b, o + i * 3, none⟩ = some (.int .i64 vr) ∧ Y.cell? ⟨b, o + i * 3 + 1, none⟩ = some (.bool neg) ∧ Y.cell? ⟨b, o + i * 3 + 2, none⟩ = some (.slice ma mL mc)) := fun Y hY => by
        have h1 := (HJ.out.oth.1.keep hY).c2
        obtain ⟨h2, h3, h4⟩ := HC.out Y (bafter HBW.out hY (Nat.le_refl _))
        exact ⟨h1, h2, h3, h4⟩
      go_upto_region 5 with fail
      refine wp_region_held_drew (S := fun Y : World => Y.cell? ⟨w.heap.size, 2, none⟩ = some (.slice (some ⟨b, o, none⟩) Ln pc) ∧ Y.cell? ⟨b, o + i * 3, none⟩ = some (.int .i64 vr) ∧ Y.cell? ⟨b, o + i * 3 + 1, none⟩ = some (.bool neg) ∧ Y.cell? ⟨b, o + i * 3 + 2, none⟩ = some (.slice ma mL mc)) (by kernel_rfl) ?_ (fun hHeld => ?_)
      · exact HS.out _ (by (first | exact (Below.refl _ _).drew | exact Below.refl _ _))
      refine takeD (i := 0) (v := ?v1) (some 16) rfl (by kernel_rfl) (by kernel_rfl) (by kernel_rfl) (fun _ _ _ h => h) (Or.inl ⟨by rfl, ?hy1⟩) (by assumption) (by rfl) ?rest1
      case hy1 => first | (intro w hSw; (try dsimp only at hSw); obtain ⟨q0, q1, q2, q3⟩ := hSw; go_simp; done) | (intro w hSw; (try dsimp only at hSw); obtain ⟨q0, q1, q2, q3⟩ := hSw; go_simp; with_reducible rfl)
      try simp only [Act.put, List.setIfInBounds_toArray, List.set_cons_zero, List.set_cons_succ]
      refine takeD (i := 2) (v := ?v2) (some 18) rfl (by kernel_rfl) (by kernel_rfl) (by kernel_rfl) (fun _ _ _ h => h) (Or.inl ⟨by rfl, ?hy2⟩) (by assumption) (by rfl) ?rest2
      case hy2 => first | (intro w hSw; (try dsimp only at hSw); obtain ⟨q0, q1, q2, q3⟩ := hSw; go_simp; done) | (intro w hSw; (try dsimp only at hSw); obtain ⟨q0, q1, q2, q3⟩ := hSw; go_simp; with_reducible rfl)
      try simp only [Act.put, List.setIfInBounds_toArray, List.set_cons_zero, List.set_cons_succ]
      refine takeD (i := 3) (v := ?v3) (some 19) rfl (by kernel_rfl) (by kernel_rfl) (by kernel_rfl) (fun _ _ _ h => h) (Or.inl ⟨by rfl, ?hy3⟩) (by assumption) (by rfl) ?rest3
      case hy3 => first | (intro w hSw; (try dsimp only at hSw); obtain ⟨q0, q1, q2, q3⟩ := hSw; go_simp; done) | (intro w hSw; (try dsimp only at hSw); obtain ⟨q0, q1, q2, q3⟩ := hSw; go_simp; with_reducible rfl)
      try simp only [Act.put, List.setIfInBounds_toArray, List.set_cons_zero, List.set_cons_succ]
      refine takeD (i := 4) (v := ?v4) (some 20) rfl (by kernel_rfl) (by kernel_rfl) (by kernel_rfl) (fun _ _ _ h => h) (Or.inl ⟨by rfl, ?hy4⟩) (by assumption) (by rfl) ?rest4
      case hy4 => first | (intro w hSw; (try dsimp only at hSw); obtain ⟨q0, q1, q2, q3⟩ := hSw; go_simp; done) | (intro w hSw; (try dsimp only at hSw); obtain ⟨q0, q1, q2, q3⟩ := hSw; go_simp; with_reducible rfl)
      try simp only [Act.put, List.setIfInBounds_toArray, List.set_cons_zero, List.set_cons_succ]
      refine takeD (i := 5) (v := ?v5) (some 21) rfl (by kernel_rfl) (by kernel_rfl) (by kernel_rfl) (fun _ _ _ h => h) (Or.inl ⟨by rfl, ?hy5⟩) (by assumption) (by rfl) ?rest5
      case hy5 => first | (intro w hSw; (try dsimp only at hSw); obtain ⟨q0, q1, q2, q3⟩ := hSw; go_simp; done) | (intro w hSw; (try dsimp only at hSw); obtain ⟨q0, q1, q2, q3⟩ := hSw; go_simp; with_reducible rfl)
      try simp only [Act.put, List.setIfInBounds_toArray, List.set_cons_zero, List.set_cons_succ]
      refine takeD (i := 6) (v := ?v6) (some 22) rfl (by kernel_rfl) (by kernel_rfl) (by kernel_rfl) (fun _ _ _ h => h) (Or.inl ⟨by rfl, ?hy6⟩) (by assumption) (by rfl) ?rest6
      case hy6 => first | (intro w hSw; (try dsimp only at hSw); obtain ⟨q0, q1, q2, q3⟩ := hSw; go_simp; done) | (intro w hSw; (try dsimp only at hSw); obtain ⟨q0, q1, q2, q3⟩ := hSw; go_simp; with_reducible rfl)
      try simp only [Act.put, List.setIfInBounds_toArray, List.set_cons_zero, List.set_cons_succ]
      refine takeD (i := 7) (v := ?v7) (some 23) rfl (by kernel_rfl) (by kernel_rfl) (by kernel_rfl) (fun _ _ _ h => h) (Or.inl ⟨by rfl, ?hy7⟩) (by assumption) (by rfl) ?rest7
      case hy7 => first | (intro w hSw; (try dsimp only at hSw); obtain ⟨q0, q1, q2, q3⟩ := hSw; go_simp; done) | (intro w hSw; (try dsimp only at hSw); obtain ⟨q0, q1, q2, q3⟩ := hSw; go_simp; with_reducible rfl)
      try simp only [Act.put, List.setIfInBounds_toArray, List.set_cons_zero, List.set_cons_succ]
      refine takeD (i := 8) (v := ?v8) (some 24) rfl (by kernel_rfl) (by kernel_rfl) (by kernel_rfl) (fun _ _ _ h => h) (Or.inl ⟨by rfl, ?hy8⟩) (by assumption) (by rfl) ?rest8
      case hy8 => first | (intro w hSw; (try dsimp only at hSw); obtain ⟨q0, q1, q2, q3⟩ := hSw; go_simp; done) | (intro w hSw; (try dsimp only at hSw); obtain ⟨q0, q1, q2, q3⟩ := hSw; go_simp; with_reducible rfl)
      try simp only [Act.put, List.setIfInBounds_toArray, List.set_cons_zero, List.set_cons_succ]
      refine takeD (i := 9) (v := ?v9) (some 25) rfl (by kernel_rfl) (by kernel_rfl) (by kernel_rfl) (fun _ _ _ h => h) (Or.inl ⟨by rfl, ?hy9⟩) (by assumption) (by rfl) ?rest9
      case hy9 => first | (intro w hSw; (try dsimp only at hSw); obtain ⟨q0, q1, q2, q3⟩ := hSw; go_simp; done) | (intro w hSw; (try dsimp only at hSw); obtain ⟨q0, q1, q2, q3⟩ := hSw; go_simp; with_reducible rfl)
      try simp only [Act.put, List.setIfInBounds_toArray, List.set_cons_zero, List.set_cons_succ]
      refine takeD (i := 10) (v := ?v10) (some 26) rfl (by kernel_rfl) (by kernel_rfl) (by kernel_rfl) (fun _ _ _ h => h) (Or.inl ⟨by rfl, ?hy10⟩) (by assumption) (by rfl) ?rest10
      case hy10 => first | (intro w hSw; (try dsimp only at hSw); obtain ⟨q0, q1, q2, q3⟩ := hSw; go_simp; done) | (intro w hSw; (try dsimp only at hSw); obtain ⟨q0, q1, q2, q3⟩ := hSw; go_simp; with_reducible rfl)
      try simp only [Act.put, List.setIfInBounds_toArray, List.set_cons_zero, List.set_cons_succ]
      refine takeD (i := 11) (v := ?v11) (some 27) rfl (by kernel_rfl) (by kernel_rfl) (by kernel_rfl) (fun _ _ _ h => h) (Or.inl ⟨by rfl, ?hy11⟩) (by assumption) (by rfl) ?rest11
      case hy11 => first | (intro w hSw; (try dsimp only at hSw); obtain ⟨q0, q1, q2, q3⟩ := hSw; go_simp; done) | (intro w hSw; (try dsimp only at hSw); obtain ⟨q0, q1, q2, q3⟩ := hSw; go_simp; with_reducible rfl)
      try simp only [Act.put, List.setIfInBounds_toArray, List.set_cons_zero, List.set_cons_succ]
      refine takeD (i := 12) (v := ?v12) (some 28) rfl (by kernel_rfl) (by kernel_rfl) (by kernel_rfl) (fun _ _ _ h => h) (Or.inl ⟨by rfl, ?hy12⟩) (by assumption) (by rfl) ?rest12
      case hy12 => first | (intro w hSw; (try dsimp only at hSw); obtain ⟨q0, q1, q2, q3⟩ := hSw; go_simp; done) | (intro w hSw; (try dsimp only at hSw); obtain ⟨q0, q1, q2, q3⟩ := hSw; go_simp; with_reducible rfl)
      try simp only [Act.put, List.setIfInBounds_toArray, List.set_cons_zero, List.set_cons_succ]
      refine takeD (i := 13) (v := ?v13) (some 29) rfl (by kernel_rfl) (by kernel_rfl) (by kernel_rfl) (fun _ _ _ h => h) (Or.inl ⟨by rfl, ?hy13⟩) (by assumption) (by rfl) ?rest13
      case hy13 => first | (intro w hSw; (try dsimp only at hSw); obtain ⟨q0, q1, q2, q3⟩ := hSw; go_simp; done) | (intro w hSw; (try dsimp only at hSw); obtain ⟨q0, q1, q2, q3⟩ := hSw; go_simp; with_reducible rfl)
      try simp only [Act.put, List.setIfInBounds_toArray, List.set_cons_zero, List.set_cons_succ]
      refine wpAnyH_ready (rs := [1, 14]) (by kernel_rfl) (by simp) ?_
      refine AllReadyH.cons rfl (fun K hK => ?_) (AllReadyH.cons rfl (fun K hK => ?_) AllReadyH.nil)
      · have y0 := (HJ.out.box.keep ((Below.refl _ wr).drew)).c2
        go_simp
        refine hK.out _ _ (HS.out _ ((Below.refl _ _).drew)) (fun hHeld => ?_)
        clear hK K
        try simp only [Act.put, List.setIfInBounds_toArray, List.set_cons_zero, List.set_cons_succ]
        clear y0
        refine wpAnyH_ready (rs := [14]) (by kernel_rfl) (by simp) ?_
        refine AllReadyH.cons rfl (fun K hK => ?_) AllReadyH.nil
        go_simp
        refine (HNUM.out _ (bafter HBW.out (by (first | exact (Below.refl _ _).drew | exact Below.refl _ _)) (Nat.le_refl _))).mono ?_
        rintro e w4 ⟨v4, rfl, hr4, hb4⟩
        obtain ⟨rb, ra, rL, rc, rfl⟩ := hr4.form
        have HB4 : Hid (Below wr.heap.size wr w4) := bafter (by (first | exact (Below.refl _ _).drew | exact Below.refl _ _)) hb4 (Nat.le_refl _)
        have HR4 := hide hr4
        clear hr4 hb4 hHeld
        go_wp2_with fail
        refine hK.out _ _ (HS.out _ HB4.out) (fun hHeld => ?_)
        clear hK K
        try simp only [Act.put, List.setIfInBounds_toArray, List.set_cons_zero, List.set_cons_succ]
        refine takeD (i := 15) (v := ?v14) (some 31) rfl (by kernel_rfl) (by kernel_rfl) (by kernel_rfl) (fun _ _ _ h => h) (Or.inl ⟨by rfl, ?hy14⟩) (by assumption) (by rfl) ?rest14
        case hy14 => first | (intro w hSw; (try dsimp only at hSw); obtain ⟨q0, q1, q2, q3⟩ := hSw; go_simp; done) | (intro w hSw; (try dsimp only at hSw); obtain ⟨q0, q1, q2, q3⟩ := hSw; go_simp; with_reducible rfl)
        try simp only [Act.put, List.setIfInBounds_toArray, List.set_cons_zero, List.set_cons_succ]
        refine wpAnyH_ready (rs := [16]) (by kernel_rfl) (by simp) ?_
        refine AllReadyH.cons rfl (fun K hK => ?_) AllReadyH.nil
        go_simp
        have hbl := bel w4 (.cells #[.int .i64 vr, .bool rb, .slice ra rL rc] 79)
        have HB5 := hide (bafter HB4.out hbl (Nat.le_refl _))
        have HBL5 := hide hbl
        have HRL := hide (row_litQ w4 vr rb (.slice ra rL rc) z)
        clear hbl
        generalize hw5 : w4.alloc (.cells #[.int .i64 vr, .bool rb, .slice ra rL rc] 79) = w5 at *
        clear hw5
        refine hK.out _ _ (HS.out _ HB5.out) (fun hHeld => ?_)
        clear hK K hHeld
        try simp only [Act.put, List.setIfInBounds_toArray, List.set_cons_zero, List.set_cons_succ]
        obtain ⟨v6, w6, hrun6, ho6, hg6, ha6, hk6⟩ := run_appQ w5 w1.heap.size 33 _ X (HJ.out.own.below HB5.out) _ [((vr, rb, .slice ra rL rc, z) : Pt)] HRL.out (fun m hm => by simp at hm; subst hm; rfl) (by have h1 := congrArg List.length HPS.out; rw [ps_length, ps_length, List.length_take] at h1; have h2 := HLN.out; simp only [List.length_cons, List.length_nil]; omega) (by have h1 := HJ.out.box.lt; have h2 := HB5.out.size; omega)
        obtain ⟨oa6, oc6, rfl, _, _⟩ := ho6.len
        have hstep := HJ.out.step (p := (vr, rb, .slice ra rL rc, z)) HB5.out ho6 hg6 hk6 ⟨HRG.out, HR4.out.below HBL5.out⟩ (fun W9 h9 => ⟨(h9 _ (by have := HN1.out; omega) (HJ.out.own.apart HJ.out.oth.1 (by decide)) HJ.out.oth.1.lt).trans HJ.out.oth.1, (h9 _ (by have := HN1.out; omega) (HJ.out.own.apart HJ.out.oth.2 (by decide)) HJ.out.oth.2.lt).trans HJ.out.oth.2⟩)
        have HSTEP := hide hstep
        have HBF := hide (hstep.2.2.2 w.heap.size w (by have := HN1.out; omega) (by have := HN1.out; omega) HBW.out (Nat.le_refl _))
        have HS6 : Hid (let Y := w6; Y.cell? ⟨w.heap.size, 2, none⟩ = some (.slice (some ⟨b, o, none⟩) Ln pc) ∧ Y.cell? ⟨b, o + i * 3, none⟩ = some (.int .i64 vr) ∧ Y.cell? ⟨b, o + i * 3 + 1, none⟩ = some (.bool neg) ∧ Y.cell? ⟨b, o + i * 3 + 2, none⟩ = some (.slice ma mL mc)) := by
          have h1 : Thr w6 w.heap.size (.bool cn) (.slice ca cL cc) (.slice (some ⟨b, o, none⟩) Ln pc) 27 := ((hstep.2.2.1 _ (by have := HN1.out; omega) (HJ.out.own.apart HJ.out.oth.1 (by decide)) HJ.out.oth.1.lt).2).trans HJ.out.oth.1
          have h0 : Below w.heap.size w w6 := (bafter HBW.out HB5.out (Nat.le_refl _)).grown hg6 (Nat.le_trans HBW.out.size HB5.out.size) (fun j hj => Nat.le_trans (by have := HN1.out; omega) (HJ.out.own.lt hj).1)
          obtain ⟨h2, h3, h4⟩ := HC.out w6 h0
          exact ⟨h1.c2, h2, h3, h4⟩
        have HS7 : Hid (let Y := w6.setCell ⟨w1.heap.size, 2, none⟩ (.slice oa6 (X ++ [((vr, rb, .slice ra rL rc, z) : Pt)]).length oc6); Y.cell? ⟨w.heap.size, 2, none⟩ = some (.slice (some ⟨b, o, none⟩) Ln pc) ∧ Y.cell? ⟨b, o + i * 3, none⟩ = some (.int .i64 vr) ∧ Y.cell? ⟨b, o + i * 3 + 1, none⟩ = some (.bool neg) ∧ Y.cell? ⟨b, o + i * 3 + 2, none⟩ = some (.slice ma mL mc)) := by
          obtain ⟨h2, h3, h4⟩ := HC.out _ HBF.out
          exact ⟨HSTEP.out.1.oth.1.c2, h2, h3, h4⟩
        obtain ⟨y0, y1, y2, y3, y4, y5⟩ := hstep.2.1.every
        generalize hxl : (X ++ [((vr, rb, .slice ra rL rc, z) : Pt)]).length = xl at *
        have HXL := hide hxl
        clear hstep ho6 hg6 ha6 hk6 hxl
        refine wpAnyH_ready (rs := [17]) (by kernel_rfl) (by simp) ?_
        refine AllReadyH.cons rfl (fun K hK => ?_) AllReadyH.nil
        refine Lib.wp_append_run _ _ _ _ _ rfl _ _ rfl rfl _ _ hrun6 ?_
        clear hrun6
        refine hK.out _ _ (HS6.out) (fun hHeld => ?_)
        clear hK K
        try simp only [Act.put, List.setIfInBounds_toArray, List.set_cons_zero, List.set_cons_succ]
        refine takeD (i := 18) (v := ?v15) (some 34) rfl (by kernel_rfl) (by kernel_rfl) (by kernel_rfl) (fun _ _ _ h => h) (Or.inl ⟨by rfl, ?hy15⟩) (by assumption) (by rfl) ?rest15
        case hy15 => first | (intro w hSw; (try dsimp only at hSw); obtain ⟨q0, q1, q2, q3⟩ := hSw; go_simp; done) | (intro w hSw; (try dsimp only at hSw); obtain ⟨q0, q1, q2, q3⟩ := hSw; go_simp; with_reducible rfl)
        try simp only [Act.put, List.setIfInBounds_toArray, List.set_cons_zero, List.set_cons_succ]
        refine wpAnyH_ready (rs := [19]) (by kernel_rfl) (by simp) ?_
        refine AllReadyH.cons rfl (fun K hK => ?_) AllReadyH.nil
        go_simp
        refine hK.out _ _ (HS7.out) (fun hHeld => ?_)
        clear hK K hHeld
        try simp only [Act.put, List.setIfInBounds_toArray, List.set_cons_zero, List.set_cons_succ]
        refine wpAnyH_done (by kernel_rfl) ?_ _
        clear y0 y1 y2 y3 y4 y5
        go_wp2
        go_roundw
        case rel =>
          have e9 := HXL.out
          subst e9
          exact ⟨i + 1, X ++ [((vr, rb, .slice ra rL rc, z) : Pt)], _, _, by omega, by go_num, HSTEP.out.1, by rw [ps_append, HPS.out, ps_take_step HM.out]; rfl, HBF.out⟩
        case measure => simp [RowKit.intOf]; omega
      · go_simp
        refine (HNUM.out _ (bafter HBW.out (by (first | exact (Below.refl _ _).drew | exact Below.refl _ _)) (Nat.le_refl _))).mono ?_
        rintro e w4 ⟨v4, rfl, hr4, hb4⟩
        obtain ⟨rb, ra, rL, rc, rfl⟩ := hr4.form
        have HB4 : Hid (Below wr.heap.size wr w4) := bafter (by (first | exact (Below.refl _ _).drew | exact Below.refl _ _)) hb4 (Nat.le_refl _)
        have HR4 := hide hr4
        clear hr4 hb4 hHeld
        go_wp2_with fail
        refine hK.out _ _ (HS.out _ HB4.out) (fun hHeld => ?_)
        clear hK K
        try simp only [Act.put, List.setIfInBounds_toArray, List.set_cons_zero, List.set_cons_succ]
        refine takeD (i := 15) (v := ?v18) (some 31) rfl (by kernel_rfl) (by kernel_rfl) (by kernel_rfl) (fun _ _ _ h => h) (Or.inl ⟨by rfl, ?hy18⟩) (by assumption) (by rfl) ?rest18
        case hy18 => first | (intro w hSw; (try dsimp only at hSw); obtain ⟨q0, q1, q2, q3⟩ := hSw; go_simp; done) | (intro w hSw; (try dsimp only at hSw); obtain ⟨q0, q1, q2, q3⟩ := hSw; go_simp; with_reducible rfl)
        try simp only [Act.put, List.setIfInBounds_toArray, List.set_cons_zero, List.set_cons_succ]
        refine wpAnyH_ready (rs := [1, 16]) (by kernel_rfl) (by simp) ?_
        refine AllReadyH.cons rfl (fun K hK => ?_) (AllReadyH.cons rfl (fun K hK => ?_) AllReadyH.nil)
        · have y0 := (HJ.out.box.keep HB4.out).c2
          go_simp
          refine hK.out _ _ (HS.out _ HB4.out) (fun hHeld => ?_)
          clear hK K
          try simp only [Act.put, List.setIfInBounds_toArray, List.set_cons_zero, List.set_cons_succ]
          clear y0
          refine wpAnyH_ready (rs := [16]) (by kernel_rfl) (by simp) ?_
          refine AllReadyH.cons rfl (fun K hK => ?_) AllReadyH.nil
          go_simp
          have hbl := bel w4 (.cells #[.int .i64 vr, .bool rb, .slice ra rL rc] 79)
          have HB5 := hide (bafter HB4.out hbl (Nat.le_refl _))
          have HBL5 := hide hbl
          have HRL := hide (row_litQ w4 vr rb (.slice ra rL rc) z)
          clear hbl
          generalize hw5 : w4.alloc (.cells #[.int .i64 vr, .bool rb, .slice ra rL rc] 79) = w5 at *
          clear hw5
          refine hK.out _ _ (HS.out _ HB5.out) (fun hHeld => ?_)
          clear hK K hHeld
          try simp only [Act.put, List.setIfInBounds_toArray, List.set_cons_zero, List.set_cons_succ]
          obtain ⟨v6, w6, hrun6, ho6, hg6, ha6, hk6⟩ := run_appQ w5 w1.heap.size 33 _ X (HJ.out.own.below HB5.out) _ [((vr, rb, .slice ra rL rc, z) : Pt)] HRL.out (fun m hm => by simp at hm; subst hm; rfl) (by have h1 := congrArg List.length HPS.out; rw [ps_length, ps_length, List.length_take] at h1; have h2 := HLN.out; simp only [List.length_cons, List.length_nil]; omega) (by have h1 := HJ.out.box.lt; have h2 := HB5.out.size; omega)
          obtain ⟨oa6, oc6, rfl, _, _⟩ := ho6.len
          have hstep := HJ.out.step (p := (vr, rb, .slice ra rL rc, z)) HB5.out ho6 hg6 hk6 ⟨HRG.out, HR4.out.below HBL5.out⟩ (fun W9 h9 => ⟨(h9 _ (by have := HN1.out; omega) (HJ.out.own.apart HJ.out.oth.1 (by decide)) HJ.out.oth.1.lt).trans HJ.out.oth.1, (h9 _ (by have := HN1.out; omega) (HJ.out.own.apart HJ.out.oth.2 (by decide)) HJ.out.oth.2.lt).trans HJ.out.oth.2⟩)
          have HSTEP := hide hstep
          have HBF := hide (hstep.2.2.2 w.heap.size w (by have := HN1.out; omega) (by have := HN1.out; omega) HBW.out (Nat.le_refl _))
          have HS6 : Hid (let Y := w6; Y.cell? ⟨w.heap.size, 2, none⟩ = some (.slice (some ⟨b, o, none⟩) Ln pc) ∧ Y.cell? ⟨b, o + i * 3, none⟩ = some (.int .i64 vr) ∧ Y.cell? ⟨b, o + i * 3 + 1, none⟩ = some (.bool neg) ∧ Y.cell? ⟨b, o + i * 3 + 2, none⟩ = some (.slice ma mL mc)) := by
            have h1 : Thr w6 w.heap.size (.bool cn) (.slice ca cL cc) (.slice (some ⟨b, o, none⟩) Ln pc) 27 := ((hstep.2.2.1 _ (by have := HN1.out; omega) (HJ.out.own.apart HJ.out.oth.1 (by decide)) HJ.out.oth.1.lt).2).trans HJ.out.oth.1
            have h0 : Below w.heap.size w w6 := (bafter HBW.out HB5.out (Nat.le_refl _)).grown hg6 (Nat.le_trans HBW.out.size HB5.out.size) (fun j hj => Nat.le_trans (by have := HN1.out; omega) (HJ.out.own.lt hj).1)
            obtain ⟨h2, h3, h4⟩ := HC.out w6 h0
            exact ⟨h1.c2, h2, h3, h4⟩
          have HS7 : Hid (let Y := w6.setCell ⟨w1.heap.size, 2, none⟩ (.slice oa6 (X ++ [((vr, rb, .slice ra rL rc, z) : Pt)]).length oc6); Y.cell? ⟨w.heap.size, 2, none⟩ = some (.slice (some ⟨b, o, none⟩) Ln pc) ∧ Y.cell? ⟨b, o + i * 3, none⟩ = some (.int .i64 vr) ∧ Y.cell? ⟨b, o + i * 3 + 1, none⟩ = some (.bool neg) ∧ Y.cell? ⟨b, o + i * 3 + 2, none⟩ = some (.slice ma mL mc)) := by
            obtain ⟨h2, h3, h4⟩ := HC.out _ HBF.out
            exact ⟨HSTEP.out.1.oth.1.c2, h2, h3, h4⟩
          obtain ⟨y0, y1, y2, y3, y4, y5⟩ := hstep.2.1.every
          generalize hxl : (X ++ [((vr, rb, .slice ra rL rc, z) : Pt)]).length = xl at *
          have HXL := hide hxl
          clear hstep ho6 hg6 ha6 hk6 hxl
          refine wpAnyH_ready (rs := [17]) (by kernel_rfl) (by simp) ?_
          refine AllReadyH.cons rfl (fun K hK => ?_) AllReadyH.nil
          refine Lib.wp_append_run _ _ _ _ _ rfl _ _ rfl rfl _ _ hrun6 ?_
          clear hrun6
          refine hK.out _ _ (HS6.out) (fun hHeld => ?_)
          clear hK K
          try simp only [Act.put, List.setIfInBounds_toArray, List.set_cons_zero, List.set_cons_succ]
          refine takeD (i := 18) (v := ?v16) (some 34) rfl (by kernel_rfl) (by kernel_rfl) (by kernel_rfl) (fun _ _ _ h => h) (Or.inl ⟨by rfl, ?hy16⟩) (by assumption) (by rfl) ?rest16
          case hy16 => first | (intro w hSw; (try dsimp only at hSw); obtain ⟨q0, q1, q2, q3⟩ := hSw; go_simp; done) | (intro w hSw; (try dsimp only at hSw); obtain ⟨q0, q1, q2, q3⟩ := hSw; go_simp; with_reducible rfl)
          try simp only [Act.put, List.setIfInBounds_toArray, List.set_cons_zero, List.set_cons_succ]
          refine wpAnyH_ready (rs := [19]) (by kernel_rfl) (by simp) ?_
          refine AllReadyH.cons rfl (fun K hK => ?_) AllReadyH.nil
          go_simp
          refine hK.out _ _ (HS7.out) (fun hHeld => ?_)
          clear hK K hHeld
          try simp only [Act.put, List.setIfInBounds_toArray, List.set_cons_zero, List.set_cons_succ]
          refine wpAnyH_done (by kernel_rfl) ?_ _
          clear y0 y1 y2 y3 y4 y5
          go_wp2
          go_roundw
          case rel =>
            have e9 := HXL.out
            subst e9
            exact ⟨i + 1, X ++ [((vr, rb, .slice ra rL rc, z) : Pt)], _, _, by omega, by go_num, HSTEP.out.1, by rw [ps_append, HPS.out, ps_take_step HM.out]; rfl, HBF.out⟩
          case measure => simp [RowKit.intOf]; omega
        · go_simp
          have hbl := bel w4 (.cells #[.int .i64 vr, .bool rb, .slice ra rL rc] 79)
          have HB5 := hide (bafter HB4.out hbl (Nat.le_refl _))
          have HBL5 := hide hbl
          have HRL := hide (row_litQ w4 vr rb (.slice ra rL rc) z)
          clear hbl
          generalize hw5 : w4.alloc (.cells #[.int .i64 vr, .bool rb, .slice ra rL rc] 79) = w5 at *
          clear hw5
          refine hK.out _ _ (HS.out _ HB5.out) (fun hHeld => ?_)
          clear hK K hHeld
          try simp only [Act.put, List.setIfInBounds_toArray, List.set_cons_zero, List.set_cons_succ]
          have y0 := (HJ.out.box.keep HB5.out).c2
          refine wpAnyH_ready (rs := [1]) (by kernel_rfl) (by simp) ?_
          refine AllReadyH.cons rfl (fun K hK => ?_) AllReadyH.nil
          go_simp
          refine hK.out _ _ (HS.out _ HB5.out) (fun hHeld => ?_)
          clear hK K hHeld
          try simp only [Act.put, List.setIfInBounds_toArray, List.set_cons_zero, List.set_cons_succ]
          clear y0
          obtain ⟨v6, w6, hrun6, ho6, hg6, ha6, hk6⟩ := run_appQ w5 w1.heap.size 33 _ X (HJ.out.own.below HB5.out) _ [((vr, rb, .slice ra rL rc, z) : Pt)] HRL.out (fun m hm => by simp at hm; subst hm; rfl) (by have h1 := congrArg List.length HPS.out; rw [ps_length, ps_length, List.length_take] at h1; have h2 := HLN.out; simp only [List.length_cons, List.length_nil]; omega) (by have h1 := HJ.out.box.lt; have h2 := HB5.out.size; omega)
          obtain ⟨oa6, oc6, rfl, _, _⟩ := ho6.len
          have hstep := HJ.out.step (p := (vr, rb, .slice ra rL rc, z)) HB5.out ho6 hg6 hk6 ⟨HRG.out, HR4.out.below HBL5.out⟩ (fun W9 h9 => ⟨(h9 _ (by have := HN1.out; omega) (HJ.out.own.apart HJ.out.oth.1 (by decide)) HJ.out.oth.1.lt).trans HJ.out.oth.1, (h9 _ (by have := HN1.out; omega) (HJ.out.own.apart HJ.out.oth.2 (by decide)) HJ.out.oth.2.lt).trans HJ.out.oth.2⟩)
          have HSTEP := hide hstep
          have HBF := hide (hstep.2.2.2 w.heap.size w (by have := HN1.out; omega) (by have := HN1.out; omega) HBW.out (Nat.le_refl _))
          have HS6 : Hid (let Y := w6; Y.cell? ⟨w.heap.size, 2, none⟩ = some (.slice (some ⟨b, o, none⟩) Ln pc) ∧ Y.cell? ⟨b, o + i * 3, none⟩ = some (.int .i64 vr) ∧ Y.cell? ⟨b, o + i * 3 + 1, none⟩ = some (.bool neg) ∧ Y.cell? ⟨b, o + i * 3 + 2, none⟩ = some (.slice ma mL mc)) := by
            have h1 : Thr w6 w.heap.size (.bool cn) (.slice ca cL cc) (.slice (some ⟨b, o, none⟩) Ln pc) 27 := ((hstep.2.2.1 _ (by have := HN1.out; omega) (HJ.out.own.apart HJ.out.oth.1 (by decide)) HJ.out.oth.1.lt).2).trans HJ.out.oth.1
            have h0 : Below w.heap.size w w6 := (bafter HBW.out HB5.out (Nat.le_refl _)).grown hg6 (Nat.le_trans HBW.out.size HB5.out.size) (fun j hj => Nat.le_trans (by have := HN1.out; omega) (HJ.out.own.lt hj).1)
            obtain ⟨h2, h3, h4⟩ := HC.out w6 h0
            exact ⟨h1.c2, h2, h3, h4⟩
          have HS7 : Hid (let Y := w6.setCell ⟨w1.heap.size, 2, none⟩ (.slice oa6 (X ++ [((vr, rb, .slice ra rL rc, z) : Pt)]).length oc6); Y.cell? ⟨w.heap.size, 2, none⟩ = some (.slice (some ⟨b, o, none⟩) Ln pc) ∧ Y.cell? ⟨b, o + i * 3, none⟩ = some (.int .i64 vr) ∧ Y.cell? ⟨b, o + i * 3 + 1, none⟩ = some (.bool neg) ∧ Y.cell? ⟨b, o + i * 3 + 2, none⟩ = some (.slice ma mL mc)) := by
            obtain ⟨h2, h3, h4⟩ := HC.out _ HBF.out
            exact ⟨HSTEP.out.1.oth.1.c2, h2, h3, h4⟩
          obtain ⟨y0, y1, y2, y3, y4, y5⟩ := hstep.2.1.every
          generalize hxl : (X ++ [((vr, rb, .slice ra rL rc, z) : Pt)]).length = xl at *
          have HXL := hide hxl
          clear hstep ho6 hg6 ha6 hk6 hxl
          refine wpAnyH_ready (rs := [17]) (by kernel_rfl) (by simp) ?_
          refine AllReadyH.cons rfl (fun K hK => ?_) AllReadyH.nil
          refine Lib.wp_append_run _ _ _ _ _ rfl _ _ rfl rfl _ _ hrun6 ?_
          clear hrun6
          refine hK.out _ _ (HS6.out) (fun hHeld => ?_)
          clear hK K
          try simp only [Act.put, List.setIfInBounds_toArray, List.set_cons_zero, List.set_cons_succ]
          refine takeD (i := 18) (v := ?v17) (some 34) rfl (by kernel_rfl) (by kernel_rfl) (by kernel_rfl) (fun _ _ _ h => h) (Or.inl ⟨by rfl, ?hy17⟩) (by assumption) (by rfl) ?rest17
          case hy17 => first | (intro w hSw; (try dsimp only at hSw); obtain ⟨q0, q1, q2, q3⟩ := hSw; go_simp; done) | (intro w hSw; (try dsimp only at hSw); obtain ⟨q0, q1, q2, q3⟩ := hSw; go_simp; with_reducible rfl)
          try simp only [Act.put, List.setIfInBounds_toArray, List.set_cons_zero, List.set_cons_succ]
          refine wpAnyH_ready (rs := [19]) (by kernel_rfl) (by simp) ?_
          refine AllReadyH.cons rfl (fun K hK => ?_) AllReadyH.nil
          go_simp
          refine hK.out _ _ (HS7.out) (fun hHeld => ?_)
          clear hK K hHeld
          try simp only [Act.put, List.setIfInBounds_toArray, List.set_cons_zero, List.set_cons_succ]
          refine wpAnyH_done (by kernel_rfl) ?_ _
          clear y0 y1 y2 y3 y4 y5
          go_wp2
          go_roundw
          case rel =>
            have e9 := HXL.out
            subst e9
            exact ⟨i + 1, X ++ [((vr, rb, .slice ra rL rc, z) : Pt)], _, _, by omega, by go_num, HSTEP.out.1, by rw [ps_append, HPS.out, ps_take_step HM.out]; rfl, HBF.out⟩
          case measure => simp [RowKit.intOf]; omega
    · obtain rfl : i = Ln := by omega
      have d1 : ¬ (i : Int) < (i : Int) := by omega
      have htz := HJ.out.oth.2
      obtain ⟨z0, z1, z2, f0, f1, f2⟩ := htz.every
      obtain ⟨x0, x1, x2, _, _, _⟩ := HJ.out.box.every
      have HTZ := hide htz
      have HTR : Hid (RTerm wr (.agg #[.bool nb, .slice na nL nc, .slice oa X.length oc]) cz X) := ⟨_, _, _, _, _, _, _, rfl, HJ.out.num, HJ.out.own.row, HJ.out.good⟩
      generalize hxl : X.length = xl at *
      clear htz hxl
      go_wp2
      refine bodyPost_ret (results_rterm rfl rfl (HTZ.out.put _ _ _)) rfl ?_
      refine ⟨_, X, rfl, HTR.out.but (HTZ.out.but _ _ _), ?_, put3_below HBW.out (by omega) _ _ _⟩
      rw [HPS.out, List.take_of_length_le (by rw [HLN.out]; omega)]

end Go.Proofs.YtbjolmgobeagoaaGreatDoor
