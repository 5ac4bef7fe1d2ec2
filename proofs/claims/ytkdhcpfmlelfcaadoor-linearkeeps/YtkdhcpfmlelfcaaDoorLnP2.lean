/- Sums (layer 11), text 2: LnMerge, LnAdd, LnScale0, LnScale, LnBnd, LnBuild, LnWrite, NumBack, LnText, LnCoef, LnSubst, LnSub, LnSummed, LnHelp, LnLight, LnLawK. -/
import Derived.Test.YtkdhcpfmlelfcaaDoorLnP1
import Derived.Lib.Builder
import Derived.Lib.AppendStr
import Derived.Lib.UnsafeStr
import Derived.Laws.Externs
import Derived.Test.YtkdhcpfmlelfcaaDoorBigText
import Derived.Deep.Slices
namespace Go.Proofs.YtkdhcpfmlelfcaaDoor
set_option linter.unusedVariables false
set_option linter.unusedSimpArgs false
set_option maxRecDepth 100000
open Go Go.RowKit Go.Shelf Go.Lib

/-- What was put together so far, and what is left of both. -/
structure Mrg (k0 : Nat) (A B X A' B' : List Pt) : Prop where
  rise : Rise (ps X)
  cf : ∀ u, cf u (ps X) + cf u (ps A') + cf u (ps B') = cf u (ps A) + cf u (ps B)
  la : ∀ x ∈ X, ∀ a ∈ A', x.1 < a.1
  lb : ∀ x ∈ X, ∀ b ∈ B', x.1 < b.1
  na : NF (ps A')
  nb : NF (ps B')
  sa : ∀ m ∈ A', m ∈ A
  sb : ∀ m ∈ B', m ∈ B
  len : X.length + A'.length + B'.length ≤ A.length + B.length
  bnd : Bnd (k0 + 1) (ps X)

theorem rise_snoc {X : List Pt} {p : Pt} (h : Rise (ps X)) (hx : ∀ x ∈ X, x.1 < p.1) : Rise (ps (X ++ [p])) := by
  rw [ps_append]
  refine List.pairwise_append.2 ⟨h, by simp [ps], fun a ha b hb => ?_⟩
  simp only [ps, List.map_cons, List.map_nil, List.mem_singleton] at hb
  subst hb
  obtain ⟨x, hx2, rfl⟩ := List.mem_map.1 ha
  exact hx x hx2
theorem nf_heads {x : Pt} {A : List Pt} (h : NF (ps (x :: A))) : ∀ a ∈ A, x.1 < a.1 := fun a ha => h.head (pt a) (List.mem_map.2 ⟨a, ha, rfl⟩)
theorem bnd_snoc {k : Nat} {X : List Pt} {p : Pt} (h : Bnd k (ps X)) (hp : p.2.2.2.natAbs < R ^ k) : Bnd k (ps (X ++ [p])) := by
  rw [ps_append]
  intro q hq
  rcases List.mem_append.1 hq with hq | hq
  · exact h q hq
  · simp only [ps, List.map_cons, List.map_nil, List.mem_singleton] at hq
    subst hq
    exact hp
theorem Mrg.left {k0 : Nat} {A B X A' B' : List Pt} {x y : Pt} (h : Mrg k0 A B X (x :: A') (y :: B')) (hxy : x.1 < y.1) (hb : Bnd k0 (ps A)) : Mrg k0 A B (X ++ [x]) A' (y :: B') := by
  refine ⟨rise_snoc h.rise (fun z hz => h.la z hz x (by simp)), fun u => ?_, fun z hz a ha => ?_, fun z hz b hb2 => ?_, h.na.tail, h.nb, fun m hm => h.sa m (by simp [hm]), h.sb, ?_, bnd_snoc h.bnd (lt_up (hb (pt x) (List.mem_map.2 ⟨x, h.sa x (by simp), rfl⟩)) (by omega))⟩
  · have := h.cf u
    rw [ps_append, cf_append]
    simp only [ps, List.map_cons, List.map_nil, cf_cons, cf_nil] at this ⊢
    omega
  · rcases List.mem_append.1 hz with hz | hz
    · exact h.la z hz a (by simp [ha])
    · simp at hz
      subst hz
      exact nf_heads h.na a ha
  · rcases List.mem_append.1 hz with hz | hz
    · exact h.lb z hz b hb2
    · simp at hz
      subst hz
      rcases List.mem_cons.1 hb2 with rfl | hb3
      · exact hxy
      · have := nf_heads h.nb b hb3
        omega
  · have := h.len
    simp at this ⊢
    omega
theorem Mrg.right {k0 : Nat} {A B X A' B' : List Pt} {x y : Pt} (h : Mrg k0 A B X (x :: A') (y :: B')) (hxy : y.1 < x.1) (hb : Bnd k0 (ps B)) : Mrg k0 A B (X ++ [y]) (x :: A') B' := by
  refine ⟨rise_snoc h.rise (fun z hz => h.lb z hz y (by simp)), fun u => ?_, fun z hz a ha => ?_, fun z hz b hb2 => ?_, h.na, h.nb.tail, h.sa, fun m hm => h.sb m (by simp [hm]), ?_, bnd_snoc h.bnd (lt_up (hb (pt y) (List.mem_map.2 ⟨y, h.sb y (by simp), rfl⟩)) (by omega))⟩
  · have := h.cf u
    rw [ps_append, cf_append]
    simp only [ps, List.map_cons, List.map_nil, cf_cons, cf_nil] at this ⊢
    omega
  · rcases List.mem_append.1 hz with hz | hz
    · exact h.la z hz a ha
    · simp at hz
      subst hz
      rcases List.mem_cons.1 ha with rfl | ha3
      · exact hxy
      · have := nf_heads h.na a ha3
        omega
  · rcases List.mem_append.1 hz with hz | hz
    · exact h.lb z hz b (by simp [hb2])
    · simp at hz
      subst hz
      exact nf_heads h.nb b hb2
  · have := h.len
    simp at this ⊢
    omega
theorem Mrg.both {k0 : Nat} {A B X A' B' : List Pt} {x y : Pt} (h : Mrg k0 A B X (x :: A') (y :: B')) (hxy : x.1 = y.1) (ha : Bnd k0 (ps A)) (hb : Bnd k0 (ps B)) (n : Bool) (mv : Value) : Mrg k0 A B (X ++ [(x.1, n, mv, x.2.2.2 + y.2.2.2)]) A' B' := by
  refine ⟨rise_snoc h.rise (fun z hz => h.la z hz x (by simp)), fun u => ?_, fun z hz a ha => ?_, fun z hz b hb2 => ?_, h.na.tail, h.nb.tail, fun m hm => h.sa m (by simp [hm]), fun m hm => h.sb m (by simp [hm]), ?_, bnd_snoc h.bnd (pl_add (ha (pt x) (List.mem_map.2 ⟨x, h.sa x (by simp), rfl⟩)) (hb (pt y) (List.mem_map.2 ⟨y, h.sb y (by simp), rfl⟩)))⟩
  · have := h.cf u
    rw [ps_append, cf_append]
    simp only [ps, List.map_cons, List.map_nil, cf_cons, cf_nil, pt] at this ⊢
    rw [← hxy] at this
    split at this <;> omega
  · rcases List.mem_append.1 hz with hz | hz
    · exact h.la z hz a (by simp [ha])
    · simp at hz
      subst hz
      exact nf_heads h.na a ha
  · rcases List.mem_append.1 hz with hz | hz
    · exact h.lb z hz b (by simp [hb2])
    · simp at hz
      subst hz
      have := nf_heads h.nb b hb2
      simp only
      omega
  · have := h.len
    simp at this ⊢
    omega
theorem mrg_start {k0 : Nat} {A B : List Pt} (ha : NF (ps A)) (hb : NF (ps B)) : Mrg k0 A B [] A B :=
  ⟨List.Pairwise.nil, fun u => by simp [ps, cf], fun x hx => (by cases hx), fun x hx => (by cases hx), ha, hb, fun m hm => hm, fun m hm => hm, by simp, fun p hp => by simp [ps] at hp⟩
theorem Mrg.ends {k0 : Nat} {A B X A' B' : List Pt} (h : Mrg k0 A B X A' B') (he : A' = [] ∨ B' = []) : Rise (ps (X ++ A' ++ B')) := by
  have h1 : ∀ {Z : List Pt}, NF (ps Z) → (∀ x ∈ X, ∀ z ∈ Z, x.1 < z.1) → Rise (ps (X ++ Z)) := by
    intro Z hz hl
    rw [ps_append]
    refine List.pairwise_append.2 ⟨h.rise, hz.1, fun a ha b hb => ?_⟩
    obtain ⟨x, hx, rfl⟩ := List.mem_map.1 ha
    obtain ⟨z, hz2, rfl⟩ := List.mem_map.1 hb
    exact hl x hx z hz2
  rcases he with rfl | rfl
  · rw [List.append_nil]
    exact h1 h.nb h.lb
  · rw [List.append_nil]
    exact h1 h.na h.la
theorem bnd_all {k0 : Nat} {A B X A' B' : List Pt} (h : Mrg k0 A B X A' B') (ha : Bnd k0 (ps A)) (hb : Bnd k0 (ps B)) : Bnd (k0 + 1) (ps (X ++ A' ++ B')) := by
  intro p hp
  rw [ps_append, ps_append] at hp
  rcases List.mem_append.1 hp with hp | hp
  · rcases List.mem_append.1 hp with hp | hp
    · exact h.bnd p hp
    · obtain ⟨m, hm, rfl⟩ := List.mem_map.1 hp
      exact lt_up (ha (pt m) (List.mem_map.2 ⟨m, h.sa m hm, rfl⟩)) (by omega)
  · obtain ⟨m, hm, rfl⟩ := List.mem_map.1 hp
    exact lt_up (hb (pt m) (List.mem_map.2 ⟨m, h.sb m hm, rfl⟩)) (by omega)

/-- A row without its first part. -/
theorem RowP.cut {W : World} {co : Option Addr} {n cc : Nat} {m : Pt} {M : List Pt} (h : RowP W (.slice co n cc) (m :: M)) (hm : M.length ≤ 1048576) :
    ∃ aG c1, (∀ W' : World, (Instr.slice 25 (.slice co n cc) (some (.int .i64 1)) none none).run Tryd.prog W' = .ok (.slice aG M.length c1) W') ∧ RowP W (.slice aG M.length c1) M := by
  obtain ⟨ao, cap, e, h1, h2, h3⟩ := h
  simp only [Value.slice.injEq] at e
  obtain ⟨rfl, rfl, rfl⟩ := e
  simp only [List.length_cons] at h1
  refine ⟨if cc = 1 then co else co.map (·.add 3), cc - 1, fun W' => ?_, ?_⟩
  · have h4 := run_slice_l (P := Tryd.prog) (w := W') 25 co (m :: M).length cc (by kernel_rfl) .i64 (1 : Int) (by omega) (by simp only [List.length_cons]; omega)
    rw [h4]
    go_simp
  · refine ⟨_, _, rfl, by omega, by omega, fun j x hj => ?_⟩
    obtain ⟨b, o, rfl, hc⟩ := h3 (j + 1) x (by simpa using hj)
    have hlt : j < M.length := (List.getElem?_eq_some_iff.1 hj).1
    refine ⟨b, o + 3, by rw [if_neg (by omega)]; simp [Addr.add], ?_⟩
    rw [show o + 3 + j * 3 = o + (j + 1) * 3 by omega]
    exact hc
def lenV : Value → Nat
  | .slice _ n _ => n
  | _ => 0
def MergE (w : World) (A B : List Pt) (e : Ending) (w' : World) : Prop :=
  ∃ v' M', e = .returned v' ∧ OwnP w.heap.size w' v' M' ∧ GoodR w' M' ∧ NF (ps M') ∧ (∀ u, cf u (ps M') = cf u (ps A) + cf u (ps B)) ∧ Below w.heap.size w w'
theorem merg_end {k0 : Nat} {A B X A' B' : List Pt} (h : Mrg k0 A B X A' B') (he : A' = [] ∨ B' = []) : NF (ps ((X ++ A' ++ B').filter fun m => !decide (m.2.2.2 = 0))) ∧ ∀ u, cf u (ps ((X ++ A' ++ B').filter fun m => !decide (m.2.2.2 = 0))) = cf u (ps A) + cf u (ps B) := by
  have hr := h.ends he
  have hcf : ∀ u, cf u (ps (X ++ A' ++ B')) = cf u (ps A) + cf u (ps B) := fun u => by
    rw [ps_append, ps_append, cf_append, cf_append]
    exact h.cf u
  generalize X ++ A' ++ B' = Z at *
  refine ⟨⟨hr.sublist ((List.filter_sublist (l := Z)).map pt), fun p hp => ?_⟩, fun u => ?_⟩
  · obtain ⟨m, hm, rfl⟩ := List.mem_map.1 hp
    have := (List.mem_filter.1 hm).2
    simpa [pt] using this
  · have e1 : ps (Z.filter fun m => !decide (m.2.2.2 = 0)) = (ps Z).filter fun p => decide (p.2 ≠ 0) := by
      unfold ps
      rw [List.filter_map]
      congr 1
      apply List.filter_congr
      intro m hm
      by_cases h0 : m.2.2.2 = 0 <;> simp [pt, h0]
    rw [e1, cf_nonzero, hcf]

set_option maxHeartbeats 8000000 in
theorem merged_calls {w : World} {av bv : Value} {A B : List Pt} {k0 : Nat} (ha : RowP w av A) (hb : RowP w bv B) (ga : GoodR w A) (gb : GoodR w B) (na : NF (ps A)) (nb : NF (ps B)) (ba : Bnd k0 (ps A)) (bb : Bnd k0 (ps B)) (hk : k0 ≤ 500000) (la : A.length ≤ 1000) (lb : B.length ≤ 1000) :
    Calls Tryd.prog 22 #[av, bv] w fun e w' => MergE w A B e w' := by
  have HA := hide ha
  have HB := hide hb
  have HGA := hide ga
  have HGB := hide gb
  have HNA := hide na
  have HNB := hide nb
  have HBA := hide ba
  have HBB := hide bb
  obtain ⟨aa, ac, rfl, _, _, _⟩ := ha
  obtain ⟨ca, cc, rfl, _, _, _⟩ := hb
  clear ga gb na nb ba bb
  generalize hLa : A.length = La at *
  generalize hLb : B.length = Lb at *
  have HLA := hide hLa
  have HLB := hide hLb
  clear hLa hLb
  obtain ⟨Lc, hLc⟩ : ∃ Lc, Lc = La + Lb := ⟨_, rfl⟩
  have hsum : IntKind.i64.wrap ((La : Int) + (Lb : Int)) = (Lc : Int) := by
    rw [wrapN (by omega) (by omega)]
    omega
  have HLC := hide hLc
  have m1 : (0 : Int) ≤ (Lc : Int) := by omega
  have HMADE := hide (own_made (n := w.heap.size) w Lc (Nat.le_refl _) (by unfold maxLen; omega))
  have HBM := hide (bel w (.cells (Builtin.zeroCells zPart.cells Lc) 31))
  have hmk := make_parts w Lc (by omega)
  clear hLc
  generalize hwm : w.alloc (.cells (Builtin.zeroCells zPart.cells Lc) 31) = wm at *
  clear hwm
  go_enter Tryd.func22, Tryd.ntmps22
  go_wp2
  clear hmk
  go_loopw [0, 1, 5] (fun pv qv ov wr => ∃ (A' B' X : List Pt) (pa : Option Addr) (pc : Nat) (qa : Option Addr) (qc : Nat) (oa : Option Addr) (oc : Nat), pv = .slice pa A'.length pc ∧ qv = .slice qa B'.length qc ∧ ov = .slice oa X.length oc ∧ RowP w (.slice pa A'.length pc) A' ∧ RowP w (.slice qa B'.length qc) B' ∧ Mrg k0 A B X A' B' ∧ OwnP w.heap.size wr (.slice oa X.length oc) X ∧ GoodR wr X ∧ Below w.heap.size w wr) (fun pv qv _ _ => lenV pv + lenV qv)
  case atStart =>
    have e1 := HLA.out
    have e2 := HLB.out
    subst e1
    subst e2
    exact ⟨A, B, [], _, _, _, _, _, _, rfl, rfl, rfl, HA.out, HB.out, mrg_start HNA.out HNB.out, HMADE.out, fun m hm => (by cases hm), HBM.out⟩
  case round =>
    obtain ⟨A', B', X, pa, pc, qa, qc, oa, oc, rfl, rfl, rfl, hpr, hqr, hmg, ho, hgr, hbw⟩ := hrel
    have HPR := hide hpr
    have HQR := hide hqr
    have HMG := hide hmg
    have HO := hide ho
    have HGR := hide hgr
    have HBW := hide hbw
    have HXL := hide hmg.len
    clear hpr hqr hmg ho hgr hbw
    cases A' with
    | nil =>
      simp only [List.length_nil] at HPR HXL ⊢
      generalize hBl : B'.length = l2 at *
      have HBl := hide hBl
      clear hBl
      obtain ⟨v3, w3, hrun3, ho3, hg3, ha3, hk3⟩ := run_appP wr w.heap.size 25 _ X HO.out _ [] (HPR.out.below HBW.out) (fun m hm => by cases hm) (by have h9 := HXL.out; have h8 := HLA.out; have h7 := HLB.out; (try have h6 := HL1.out); (try have h5 := HBl.out); simp only [List.length_append, List.length_cons, List.length_nil] at *; omega) HBW.out.size
      have HB3 : Hid (Below w.heap.size w w3) := HBW.out.grown hg3 HBW.out.size (fun j hj => (HO.out.lt hj).1)
      obtain ⟨v4, w4, hrun4, ho4, hg4, ha4, hk4⟩ := run_appP w3 w.heap.size 25 _ (X ++ []) ho3 _ B' (HQR.out.below HB3.out) (fun m hm => HGB.out.sl.one m (HMG.out.sb m hm)) (by have h9 := HXL.out; have h8 := HLA.out; have h7 := HLB.out; (try have h6 := HL1.out); (try have h5 := HBl.out); simp only [List.length_append, List.length_cons, List.length_nil] at *; omega) HB3.out.size
      have HB4 : Hid (Below w.heap.size w w4) := HB3.out.grown hg4 HB3.out.size (fun j hj => (ho3.lt hj).1)
      have HG4 : Hid (GoodR w4 (X ++ [] ++ B')) := by
        intro m hm
        rcases List.mem_append.1 hm with h | h
        · rcases List.mem_append.1 h with h | h
          · exact ((HGR.out.k32 hk3).k32 hk4) m h
          · cases h
        · exact (HGB.out.below HB4.out) m (HMG.out.sb m h)
      have HGA4 := hide (HG4.out.arg (bnd_all HMG.out HBA.out HBB.out) (by omega))
      have hwz := wz_calls ho4 HGA4.out (by have h9 := HXL.out; have h8 := HLA.out; have h7 := HLB.out; (try have h6 := HL1.out); (try have h5 := HBl.out); simp only [List.length_append, List.length_cons, List.length_nil] at *; omega) HB4.out.size
      obtain ⟨oa3, oc3, rfl, _, _⟩ := ho3.len
      obtain ⟨oa4, oc4, rfl, _, _⟩ := ho4.len
      clear ho3 hg3 ha3 hk3 ho4 hg4 ha4 hk4
      have HEND := hide (merg_end HMG.out (.inl rfl))
      have l0 : ¬ (0 : Int) < 0 := by omega
      generalize hxl : X.length = xl at *
      clear hxl
      generalize hX3 : (X ++ []).length = x3 at *
      clear hX3
      generalize hX4 : (X ++ [] ++ B').length = x4 at *
      clear hX4
      go_wp2_with (at_builtin; go_must (first | (refine Lib.wpList_append_run _ rfl _ _ _ _ rfl _ _ rfl rfl _ _ hrun3 ?_; clear hrun3) | (refine Lib.wpList_append_run _ rfl _ _ _ _ rfl _ _ rfl rfl _ _ hrun4 ?_)))
      refine hwz.mono ?_
      rintro e w5 ⟨v5, rfl, ho5, hf5⟩
      obtain ⟨ao5, n5, cap5, rfl⟩ : ∃ a n c, v5 = .slice a n c := (by obtain ⟨a, c, e, _⟩ := ho5.len; exact ⟨_, _, _, e⟩)
      have HO5 := hide ho5
      have HF5 := hide hf5
      clear ho5 hf5 hwz hrun4
      go_wp2
      go_ret
      exact ⟨_, _, rfl, HO5.out, fun m hm => (HG4.out.k32 HF5.out.2) m (List.mem_filter.1 hm).1, HEND.out.1, HEND.out.2, HB4.out.trans HF5.out.1⟩
    | cons x A1 =>
      obtain ⟨xv, xn, xm, xz⟩ := x
      obtain ⟨xa, xL, xc, e⟩ := HGA.out.sl (xv, xn, xm, xz) (HMG.out.sa _ (by simp))
      simp only at e
      subst e
      cases B' with
      | nil =>
        simp only [List.length_nil] at HQR HXL ⊢
        generalize hA1 : ((xv, xn, Value.slice xa xL xc, xz) :: A1).length = l1 at *
        have HL1 := hide hA1
        have l0 : (0 : Int) < (l1 : Int) := by
          rw [← hA1]
          simp only [List.length_cons]
          omega
        clear hA1
        obtain ⟨v3, w3, hrun3, ho3, hg3, ha3, hk3⟩ := run_appP wr w.heap.size 25 _ X HO.out _ (((xv, xn, .slice xa xL xc, xz) : Pt) :: A1) (HPR.out.below HBW.out) (fun m hm => HGA.out.sl.one m (HMG.out.sa m hm)) (by have h9 := HXL.out; have h8 := HLA.out; have h7 := HLB.out; (try have h6 := HL1.out); (try have h5 := HBl.out); simp only [List.length_append, List.length_cons, List.length_nil] at *; omega) HBW.out.size
        have HB3 : Hid (Below w.heap.size w w3) := HBW.out.grown hg3 HBW.out.size (fun j hj => (HO.out.lt hj).1)
        obtain ⟨v4, w4, hrun4, ho4, hg4, ha4, hk4⟩ := run_appP w3 w.heap.size 25 _ (X ++ (((xv, xn, .slice xa xL xc, xz) : Pt) :: A1)) ho3 _ [] (HQR.out.below HB3.out) (fun m hm => by cases hm) (by have h9 := HXL.out; have h8 := HLA.out; have h7 := HLB.out; (try have h6 := HL1.out); (try have h5 := HBl.out); simp only [List.length_append, List.length_cons, List.length_nil] at *; omega) HB3.out.size
        have HB4 : Hid (Below w.heap.size w w4) := HB3.out.grown hg4 HB3.out.size (fun j hj => (ho3.lt hj).1)
        have HG4 : Hid (GoodR w4 (X ++ (((xv, xn, .slice xa xL xc, xz) : Pt) :: A1) ++ [])) := by
          intro m hm
          rcases List.mem_append.1 hm with h | h
          · rcases List.mem_append.1 h with h | h
            · exact ((HGR.out.k32 hk3).k32 hk4) m h
            · exact (HGA.out.below HB4.out) m (HMG.out.sa m h)
          · cases h
        have HGA4 := hide (HG4.out.arg (bnd_all HMG.out HBA.out HBB.out) (by omega))
        have hwz := wz_calls ho4 HGA4.out (by have h9 := HXL.out; have h8 := HLA.out; have h7 := HLB.out; (try have h6 := HL1.out); (try have h5 := HBl.out); simp only [List.length_append, List.length_cons, List.length_nil] at *; omega) HB4.out.size
        obtain ⟨oa3, oc3, rfl, _, _⟩ := ho3.len
        obtain ⟨oa4, oc4, rfl, _, _⟩ := ho4.len
        clear ho3 hg3 ha3 hk3 ho4 hg4 ha4 hk4
        have HEND := hide (merg_end HMG.out (.inr rfl))
        generalize hxl : X.length = xl at *
        clear hxl
        generalize hX3 : (X ++ (((xv, xn, .slice xa xL xc, xz) : Pt) :: A1)).length = x3 at *
        clear hX3
        generalize hX4 : (X ++ (((xv, xn, .slice xa xL xc, xz) : Pt) :: A1) ++ []).length = x4 at *
        clear hX4
        go_wp2_with (at_builtin; go_must (first | (refine Lib.wpList_append_run _ rfl _ _ _ _ rfl _ _ rfl rfl _ _ hrun3 ?_; clear hrun3) | (refine Lib.wpList_append_run _ rfl _ _ _ _ rfl _ _ rfl rfl _ _ hrun4 ?_)))
        refine hwz.mono ?_
        rintro e w5 ⟨v5, rfl, ho5, hf5⟩
        obtain ⟨ao5, n5, cap5, rfl⟩ : ∃ a n c, v5 = .slice a n c := (by obtain ⟨a, c, e, _⟩ := ho5.len; exact ⟨_, _, _, e⟩)
        have HO5 := hide ho5
        have HF5 := hide hf5
        clear ho5 hf5 hwz hrun4
        go_wp2
        go_ret
        exact ⟨_, _, rfl, HO5.out, fun m hm => (HG4.out.k32 HF5.out.2) m (List.mem_filter.1 hm).1, HEND.out.1, HEND.out.2, HB4.out.trans HF5.out.1⟩
      | cons y B1 =>
        obtain ⟨yv, yn, ym, yz⟩ := y
        obtain ⟨ya, yL, yc, e⟩ := HGB.out.sl (yv, yn, ym, yz) (HMG.out.sb _ (by simp))
        simp only at e
        subst e
        have hxg := HGA.out (xv, xn, .slice xa xL xc, xz) (HMG.out.sa _ (by simp))
        have hyg := HGB.out (yv, yn, .slice ya yL yc, yz) (HMG.out.sb _ (by simp))
        have hxb := HBA.out (xv, xz) (List.mem_map.2 ⟨(xv, xn, .slice xa xL xc, xz), HMG.out.sa _ (by simp), rfl⟩)
        have hyb := HBB.out (yv, yz) (List.mem_map.2 ⟨(yv, yn, .slice ya yL yc, yz), HMG.out.sb _ (by simp), rfl⟩)
        have HADD := hide (fun (W : World) (h : Below w.heap.size w W) => badd_calls ((hxg.2.arg hxb (by omega)).below h) ((hyg.2.arg hyb (by omega)).below h))
        have HXG := hide hxg
        have HYG := hide hyg
        clear hxg hyg hxb hyb
        have hlen := HXL.out
        simp only [List.length_cons, HLA.out, HLB.out] at hlen
        obtain ⟨pG, pc1, hcutp, hrp1⟩ := HPR.out.cut (by omega)
        obtain ⟨qG, qc1, hcutq, hrq1⟩ := HQR.out.cut (by omega)
        have HRP1 := hide hrp1
        have HRQ1 := hide hrq1
        obtain ⟨_, _, e, _, _, h3⟩ := HPR.out
        cases e
        obtain ⟨pb, po, rfl, hpc⟩ := h3 0 _ rfl
        obtain ⟨_, _, e, _, _, k3⟩ := HQR.out
        cases e
        obtain ⟨qb, qo, rfl, hqc⟩ := k3 0 _ rfl
        have HSX : Hid (∀ W, Below w.heap.size w W → W.cell? ⟨pb, po, none⟩ = some (.int .i64 xv) ∧ W.cell? ⟨pb, po + 1, none⟩ = some (.bool xn) ∧ W.cell? ⟨pb, po + 2, none⟩ = some (.slice xa xL xc)) := fun W h => by
          have := hpc.below h
          simpa [CellsP] using this
        have HSY : Hid (∀ W, Below w.heap.size w W → W.cell? ⟨qb, qo, none⟩ = some (.int .i64 yv) ∧ W.cell? ⟨qb, qo + 1, none⟩ = some (.bool yn) ∧ W.cell? ⟨qb, qo + 2, none⟩ = some (.slice ya yL yc)) := fun W h => by
          have := hqc.below h
          simpa [CellsP] using this
        clear h3 k3 hpc hqc hrp1 hrq1 hlen
        generalize hA1 : ((xv, xn, Value.slice xa xL xc, xz) :: A1).length = l1 at *
        generalize hB1 : ((yv, yn, Value.slice ya yL yc, yz) :: B1).length = l2 at *
        have eA1 : l1 = A1.length + 1 := by rw [← hA1]; rfl
        have eB1 : l2 = B1.length + 1 := by rw [← hB1]; rfl
        have HL1 := hide hA1
        have HL2 := hide hB1
        have l0 : (0 : Int) < (l1 : Int) := by omega
        have l0' : (0 : Int) < (l2 : Int) := by omega
        have HE1 := hide eA1
        have HE2 := hide eB1
        clear hA1 hB1 eA1 eB1
        generalize hA2 : A1.length = n1 at *
        generalize hB2 : B1.length = n2 at *
        have HA2 := hide hA2
        have HB2 := hide hB2
        clear hA2 hB2
        have hcc := AnyG.cmp_Compare_int Tryd.cmpInt xv yv
        change ∀ W', Calls Tryd.prog 40 _ _ _ at hcc
        rcases Int.lt_trichotomy xv yv with hlt | heq | hgt
        · rw [show Lib.compareInt xv yv = -1 by unfold Lib.compareInt; rw [if_pos hlt]] at hcc
          have HLT := hide hlt
          clear hlt
          have HS3 : Hid (∀ W, Below w.heap.size w W → W.cell? ⟨pb, po, none⟩ = some (.int .i64 xv) ∧ W.cell? ⟨qb, qo, none⟩ = some (.int .i64 yv)) := fun W h => ⟨(HSX.out W h).1, (HSY.out W h).1⟩
          go_upto_region 3 with fail
          refine wp_region_held_drew (S := fun X : World => X.cell? ⟨pb, po, none⟩ = some (.int .i64 xv) ∧ X.cell? ⟨qb, qo, none⟩ = some (.int .i64 yv)) (by kernel_rfl) ?_ (fun hHeld => ?_)
          · exact HS3.out _ (by (first | exact (bdrewN HBW.out _).drew | exact HBW.out.drew.drew | exact HBW.out.drew | exact bdrewN HBW.out _ | exact HBW.out))
          refine takeD (i := 0) (v := ?v1) (some 20) rfl (by kernel_rfl) (by kernel_rfl) (by kernel_rfl) (fun _ _ _ h => h) (Or.inl ⟨by rfl, ?hy1⟩) (by assumption) (by rfl) ?rest1
          case hy1 => first | (intro w hSw; (try dsimp only at hSw); obtain ⟨q1, q2⟩ := hSw; go_simp; done) | (intro w hSw; (try dsimp only at hSw); obtain ⟨q1, q2⟩ := hSw; go_simp; with_reducible rfl)
          try simp only [Act.put, List.setIfInBounds_toArray, List.set_cons_zero, List.set_cons_succ]
          refine takeD (i := 1) (v := ?v2) (some 21) rfl (by kernel_rfl) (by kernel_rfl) (by kernel_rfl) (fun _ _ _ h => h) (Or.inl ⟨by rfl, ?hy2⟩) (by assumption) (by rfl) ?rest2
          case hy2 => first | (intro w hSw; (try dsimp only at hSw); obtain ⟨q1, q2⟩ := hSw; go_simp; done) | (intro w hSw; (try dsimp only at hSw); obtain ⟨q1, q2⟩ := hSw; go_simp; with_reducible rfl)
          try simp only [Act.put, List.setIfInBounds_toArray, List.set_cons_zero, List.set_cons_succ]
          refine takeD (i := 2) (v := ?v3) (some 22) rfl (by kernel_rfl) (by kernel_rfl) (by kernel_rfl) (fun _ _ _ h => h) (Or.inl ⟨by rfl, ?hy3⟩) (by assumption) (by rfl) ?rest3
          case hy3 => first | (intro w hSw; (try dsimp only at hSw); obtain ⟨q1, q2⟩ := hSw; go_simp; done) | (intro w hSw; (try dsimp only at hSw); obtain ⟨q1, q2⟩ := hSw; go_simp; with_reducible rfl)
          try simp only [Act.put, List.setIfInBounds_toArray, List.set_cons_zero, List.set_cons_succ]
          refine takeD (i := 3) (v := ?v4) (some 23) rfl (by kernel_rfl) (by kernel_rfl) (by kernel_rfl) (fun _ _ _ h => h) (Or.inl ⟨by rfl, ?hy4⟩) (by assumption) (by rfl) ?rest4
          case hy4 => first | (intro w hSw; (try dsimp only at hSw); obtain ⟨q1, q2⟩ := hSw; go_simp; done) | (intro w hSw; (try dsimp only at hSw); obtain ⟨q1, q2⟩ := hSw; go_simp; with_reducible rfl)
          try simp only [Act.put, List.setIfInBounds_toArray, List.set_cons_zero, List.set_cons_succ]
          refine takeD (i := 4) (v := ?v5) (some 24) rfl (by kernel_rfl) (by kernel_rfl) (by kernel_rfl) (fun _ _ _ h => h) (Or.inl ⟨by rfl, ?hy5⟩) (by assumption) (by rfl) ?rest5
          case hy5 => first | (intro w hSw; (try dsimp only at hSw); obtain ⟨q1, q2⟩ := hSw; go_simp; done) | (intro w hSw; (try dsimp only at hSw); obtain ⟨q1, q2⟩ := hSw; go_simp; with_reducible rfl)
          try simp only [Act.put, List.setIfInBounds_toArray, List.set_cons_zero, List.set_cons_succ]
          refine takeD (i := 5) (v := ?v6) (some 25) rfl (by kernel_rfl) (by kernel_rfl) (by kernel_rfl) (fun _ _ _ h => h) (Or.inl ⟨by rfl, ?hy6⟩) (by assumption) (by rfl) ?rest6
          case hy6 => first | (intro w hSw; (try dsimp only at hSw); obtain ⟨q1, q2⟩ := hSw; go_simp; done) | (intro w hSw; (try dsimp only at hSw); obtain ⟨q1, q2⟩ := hSw; go_simp; with_reducible rfl)
          try simp only [Act.put, List.setIfInBounds_toArray, List.set_cons_zero, List.set_cons_succ]
          refine takeD (i := 6) (v := ?v7) (some 26) rfl (by kernel_rfl) (by kernel_rfl) (by kernel_rfl) (fun _ _ _ h => h) (Or.inl ⟨by rfl, ?hy7⟩) (by assumption) (by rfl) ?rest7
          case hy7 => first | (intro w hSw; (try dsimp only at hSw); obtain ⟨q1, q2⟩ := hSw; go_simp; done) | (intro w hSw; (try dsimp only at hSw); obtain ⟨q1, q2⟩ := hSw; go_simp; with_reducible rfl)
          try simp only [Act.put, List.setIfInBounds_toArray, List.set_cons_zero, List.set_cons_succ]
          refine takeD (i := 7) (v := ?v8) (some 27) rfl (by kernel_rfl) (by kernel_rfl) (by kernel_rfl) (fun _ _ _ h => h) (Or.inl ⟨by rfl, ?hy8⟩) (by assumption) (by rfl) ?rest8
          case hy8 => first | (intro w hSw; (try dsimp only at hSw); obtain ⟨q1, q2⟩ := hSw; go_simp; done) | (intro w hSw; (try dsimp only at hSw); obtain ⟨q1, q2⟩ := hSw; go_simp; with_reducible rfl)
          try simp only [Act.put, List.setIfInBounds_toArray, List.set_cons_zero, List.set_cons_succ]
          refine wpAnyH_ready (rs := [8]) (by kernel_rfl) (by simp) ?_
          refine AllReadyH.cons rfl (fun K hK => ?_) AllReadyH.nil
          go_simp
          refine (hcc _).mono ?_
          rintro e w4 ⟨rfl, hw4⟩
          have HR4 : Hid (Below wr.heap.size wr w4) := by
            show Below _ _ _
            rw [hw4]
            (first | exact (bdrewN (Below.refl _ _) _).drew | exact ((Below.refl _ _).drew).drew | exact (Below.refl _ _).drew | exact bdrewN (Below.refl _ _) _ | exact Below.refl _ _)
          have HB4 := hide (bafter HBW.out HR4.out (Nat.le_refl _))
          clear hw4 hcc hHeld
          go_wp2_with fail
          refine hK.out _ _ (HS3.out _ HB4.out) (fun hHeld => ?_)
          clear hK K hHeld
          try simp only [Act.put, List.setIfInBounds_toArray, List.set_cons_zero, List.set_cons_succ]
          refine wpAnyH_done (by kernel_rfl) ?_ _
          go_upto_region 7 with fail
          refine wp_region_held_drew (S := fun X : World => X.cell? ⟨pb, po, none⟩ = some (.int .i64 xv) ∧ X.cell? ⟨pb, po + 1, none⟩ = some (.bool xn) ∧ X.cell? ⟨pb, po + 2, none⟩ = some (.slice xa xL xc)) (by kernel_rfl) ?_ (fun hHeld => ?_)
          · exact HSX.out _ (by first | exact HB4.out.drew | exact HB4.out)
          refine takeD (i := 0) (v := ?v9) (some 52) rfl (by kernel_rfl) (by kernel_rfl) (by kernel_rfl) (fun _ _ _ h => h) (Or.inl ⟨by rfl, ?hy9⟩) (by assumption) (by rfl) ?rest9
          case hy9 => first | (intro w hSw; (try dsimp only at hSw); obtain ⟨q0, q1, q2⟩ := hSw; go_simp; done) | (intro w hSw; (try dsimp only at hSw); obtain ⟨q0, q1, q2⟩ := hSw; go_simp; with_reducible rfl)
          try simp only [Act.put, List.setIfInBounds_toArray, List.set_cons_zero, List.set_cons_succ]
          refine takeD (i := 1) (v := ?v10) (some 53) rfl (by kernel_rfl) (by kernel_rfl) (by kernel_rfl) (fun _ _ _ h => h) (Or.inl ⟨by rfl, ?hy10⟩) (by assumption) (by rfl) ?rest10
          case hy10 => first | (intro w hSw; (try dsimp only at hSw); obtain ⟨q0, q1, q2⟩ := hSw; go_simp; done) | (intro w hSw; (try dsimp only at hSw); obtain ⟨q0, q1, q2⟩ := hSw; go_simp; with_reducible rfl)
          try simp only [Act.put, List.setIfInBounds_toArray, List.set_cons_zero, List.set_cons_succ]
          refine takeD (i := 2) (v := ?v11) (some 54) rfl (by kernel_rfl) (by kernel_rfl) (by kernel_rfl) (fun _ _ _ h => h) (Or.inl ⟨by rfl, ?hy11⟩) (by assumption) (by rfl) ?rest11
          case hy11 => first | (intro w hSw; (try dsimp only at hSw); obtain ⟨q0, q1, q2⟩ := hSw; go_simp; done) | (intro w hSw; (try dsimp only at hSw); obtain ⟨q0, q1, q2⟩ := hSw; go_simp; with_reducible rfl)
          try simp only [Act.put, List.setIfInBounds_toArray, List.set_cons_zero, List.set_cons_succ]
          refine takeD (i := 3) (v := ?v12) (some 55) rfl (by kernel_rfl) (by kernel_rfl) (by kernel_rfl) (fun _ _ _ h => h) (Or.inl ⟨by rfl, ?hy12⟩) (by assumption) (by rfl) ?rest12
          case hy12 => first | (intro w hSw; (try dsimp only at hSw); obtain ⟨q0, q1, q2⟩ := hSw; go_simp; done) | (intro w hSw; (try dsimp only at hSw); obtain ⟨q0, q1, q2⟩ := hSw; go_simp; with_reducible rfl)
          try simp only [Act.put, List.setIfInBounds_toArray, List.set_cons_zero, List.set_cons_succ]
          refine takeD (i := 6) (v := ?v13) (some 58) rfl (by kernel_rfl) (by kernel_rfl) (by kernel_rfl) (fun _ _ _ h => h) (Or.inl ⟨by rfl, ?hy13⟩) (by assumption) (by rfl) ?rest13
          case hy13 => first | (intro w hSw; (try dsimp only at hSw); obtain ⟨q0, q1, q2⟩ := hSw; go_simp; done) | (intro w hSw; (try dsimp only at hSw); obtain ⟨q0, q1, q2⟩ := hSw; go_simp; with_reducible rfl)
          try simp only [Act.put, List.setIfInBounds_toArray, List.set_cons_zero, List.set_cons_succ]
          refine takeD (i := 7) (v := ?v14) (some 59) rfl (by kernel_rfl) (by kernel_rfl) (by kernel_rfl) (fun _ _ _ h => h) (Or.inl ⟨by rfl, ?hy14⟩) (by assumption) (by rfl) ?rest14
          case hy14 => first | (intro w hSw; (try dsimp only at hSw); obtain ⟨q0, q1, q2⟩ := hSw; go_simp; done) | (intro w hSw; (try dsimp only at hSw); obtain ⟨q0, q1, q2⟩ := hSw; go_simp; with_reducible rfl)
          try simp only [Act.put, List.setIfInBounds_toArray, List.set_cons_zero, List.set_cons_succ]
          refine wpAnyH_ready (rs := [4]) (by kernel_rfl) (by simp) ?_
          refine AllReadyH.cons rfl (fun K hK => ?_) AllReadyH.nil
          go_simp
          have hbl := bel w4 (.cells #[.int .i64 xv, .bool xn, .slice xa xL xc] 31)
          have HB5 := hide ((bafter HB4.out hbl (Nat.le_refl _)).drew)
          have HR5 := hide ((bafter HR4.out hbl (Nat.le_refl _)).drew)
          have HBL := hide hbl
          have HRL := hide ((row_lit w4 xv xn (.slice xa xL xc) (xz)).below ((Below.refl _ _).drew))
          clear hbl
          generalize hw5 : ((w4).alloc (.cells #[.int .i64 xv, .bool xn, .slice xa xL xc] 31)).drew = w5 at *
          clear hw5
          refine hK.out _ _ (HSX.out _ HB5.out) (fun hHeld => ?_)
          clear hK K hHeld
          try simp only [Act.put, List.setIfInBounds_toArray, List.set_cons_zero, List.set_cons_succ]
          obtain ⟨v6, w6, hrun6, ho6, hg6, ha6, hk6⟩ := run_appP w5 w.heap.size 25 _ X (HO.out.below HR5.out) _ [((xv, xn, .slice xa xL xc, xz) : Pt)] HRL.out (fun m hm => by simp at hm; subst hm; rfl) (by have h9 := HXL.out; have h8 := HLA.out; have h7 := HLB.out; simp only [List.length_append, List.length_cons, List.length_nil] at *; omega) HB5.out.size
          have HB6 : Hid (Below w.heap.size w w6) := HB5.out.grown hg6 HB5.out.size (fun j hj => (HO.out.lt hj).1)
          have HG6 : Hid (GoodR w6 (X ++ [((xv, xn, .slice xa xL xc, xz) : Pt)])) := by
            intro m hm
            rcases List.mem_append.1 hm with h | h
            · exact ((HGR.out.below HR5.out).k32 hk6) m h
            · simp at h
              subst h
              exact ⟨HXG.out.1, HXG.out.2.below HB6.out⟩
          obtain ⟨oa6, oc6, rfl, _, _⟩ := ho6.len
          have HO6 := hide ho6
          clear ho6 hg6 ha6 hk6
          refine wpAnyH_ready (rs := [5]) (by kernel_rfl) (by simp) ?_
          refine AllReadyH.cons rfl (fun K hK => ?_) AllReadyH.nil
          refine Lib.wp_append_run _ _ _ _ _ rfl _ _ rfl rfl _ _ hrun6 ?_
          clear hrun6
          refine hK.out _ _ (HSX.out _ HB6.out) (fun hHeld => ?_)
          clear hK K hHeld
          try simp only [Act.put, List.setIfInBounds_toArray, List.set_cons_zero, List.set_cons_succ]
          refine wpAnyH_ready (rs := [8]) (by kernel_rfl) (by simp) ?_
          refine AllReadyH.cons rfl (fun K hK => ?_) AllReadyH.nil
          go_simp
          refine hK.out _ _ (HSX.out _ HB6.out) (fun hHeld => ?_)
          clear hK K hHeld
          try simp only [Act.put, List.setIfInBounds_toArray, List.set_cons_zero, List.set_cons_succ]
          refine wpAnyH_ready (rs := [9]) (by kernel_rfl) (by simp) ?_
          refine AllReadyH.cons rfl (fun K hK => ?_) AllReadyH.nil
          go_simp
          refine hK.out _ _ (HSX.out _ HB6.out) (fun hHeld => ?_)
          clear hK K hHeld
          try simp only [Act.put, List.setIfInBounds_toArray, List.set_cons_zero, List.set_cons_succ]
          refine wpAnyH_done (by kernel_rfl) ?_ _
          go_wp2
          go_roundw
          case rel =>
            have e1 := HA2.out
            have e2 := HB2.out
            have e3 := HL1.out
            have e4 := HL2.out
            subst e1
            subst e2
            subst e3
            subst e4
            exact ⟨A1, _, _, _, _, _, _, _, _, rfl, rfl, (by first | rfl | simp), HRP1.out, HQR.out, HMG.out.left HLT.out HBA.out, HO6.out, HG6.out, HB6.out⟩
          case measure =>
            have e3 := HE1.out
            simp only [lenV]
            omega
        · rw [show Lib.compareInt xv yv = 0 by unfold Lib.compareInt; rw [if_neg (by omega), if_neg (by omega)]] at hcc
          have HEQ := hide heq
          clear heq
          have HS3 : Hid (∀ W, Below w.heap.size w W → W.cell? ⟨pb, po, none⟩ = some (.int .i64 xv) ∧ W.cell? ⟨qb, qo, none⟩ = some (.int .i64 yv)) := fun W h => ⟨(HSX.out W h).1, (HSY.out W h).1⟩
          go_upto_region 3 with fail
          refine wp_region_held_drew (S := fun X : World => X.cell? ⟨pb, po, none⟩ = some (.int .i64 xv) ∧ X.cell? ⟨qb, qo, none⟩ = some (.int .i64 yv)) (by kernel_rfl) ?_ (fun hHeld => ?_)
          · exact HS3.out _ (by (first | exact (bdrewN HBW.out _).drew | exact HBW.out.drew.drew | exact HBW.out.drew | exact bdrewN HBW.out _ | exact HBW.out))
          refine takeD (i := 0) (v := ?v15) (some 20) rfl (by kernel_rfl) (by kernel_rfl) (by kernel_rfl) (fun _ _ _ h => h) (Or.inl ⟨by rfl, ?hy15⟩) (by assumption) (by rfl) ?rest15
          case hy15 => first | (intro w hSw; (try dsimp only at hSw); obtain ⟨q1, q2⟩ := hSw; go_simp; done) | (intro w hSw; (try dsimp only at hSw); obtain ⟨q1, q2⟩ := hSw; go_simp; with_reducible rfl)
          try simp only [Act.put, List.setIfInBounds_toArray, List.set_cons_zero, List.set_cons_succ]
          refine takeD (i := 1) (v := ?v16) (some 21) rfl (by kernel_rfl) (by kernel_rfl) (by kernel_rfl) (fun _ _ _ h => h) (Or.inl ⟨by rfl, ?hy16⟩) (by assumption) (by rfl) ?rest16
          case hy16 => first | (intro w hSw; (try dsimp only at hSw); obtain ⟨q1, q2⟩ := hSw; go_simp; done) | (intro w hSw; (try dsimp only at hSw); obtain ⟨q1, q2⟩ := hSw; go_simp; with_reducible rfl)
          try simp only [Act.put, List.setIfInBounds_toArray, List.set_cons_zero, List.set_cons_succ]
          refine takeD (i := 2) (v := ?v17) (some 22) rfl (by kernel_rfl) (by kernel_rfl) (by kernel_rfl) (fun _ _ _ h => h) (Or.inl ⟨by rfl, ?hy17⟩) (by assumption) (by rfl) ?rest17
          case hy17 => first | (intro w hSw; (try dsimp only at hSw); obtain ⟨q1, q2⟩ := hSw; go_simp; done) | (intro w hSw; (try dsimp only at hSw); obtain ⟨q1, q2⟩ := hSw; go_simp; with_reducible rfl)
          try simp only [Act.put, List.setIfInBounds_toArray, List.set_cons_zero, List.set_cons_succ]
          refine takeD (i := 3) (v := ?v18) (some 23) rfl (by kernel_rfl) (by kernel_rfl) (by kernel_rfl) (fun _ _ _ h => h) (Or.inl ⟨by rfl, ?hy18⟩) (by assumption) (by rfl) ?rest18
          case hy18 => first | (intro w hSw; (try dsimp only at hSw); obtain ⟨q1, q2⟩ := hSw; go_simp; done) | (intro w hSw; (try dsimp only at hSw); obtain ⟨q1, q2⟩ := hSw; go_simp; with_reducible rfl)
          try simp only [Act.put, List.setIfInBounds_toArray, List.set_cons_zero, List.set_cons_succ]
          refine takeD (i := 4) (v := ?v19) (some 24) rfl (by kernel_rfl) (by kernel_rfl) (by kernel_rfl) (fun _ _ _ h => h) (Or.inl ⟨by rfl, ?hy19⟩) (by assumption) (by rfl) ?rest19
          case hy19 => first | (intro w hSw; (try dsimp only at hSw); obtain ⟨q1, q2⟩ := hSw; go_simp; done) | (intro w hSw; (try dsimp only at hSw); obtain ⟨q1, q2⟩ := hSw; go_simp; with_reducible rfl)
          try simp only [Act.put, List.setIfInBounds_toArray, List.set_cons_zero, List.set_cons_succ]
          refine takeD (i := 5) (v := ?v20) (some 25) rfl (by kernel_rfl) (by kernel_rfl) (by kernel_rfl) (fun _ _ _ h => h) (Or.inl ⟨by rfl, ?hy20⟩) (by assumption) (by rfl) ?rest20
          case hy20 => first | (intro w hSw; (try dsimp only at hSw); obtain ⟨q1, q2⟩ := hSw; go_simp; done) | (intro w hSw; (try dsimp only at hSw); obtain ⟨q1, q2⟩ := hSw; go_simp; with_reducible rfl)
          try simp only [Act.put, List.setIfInBounds_toArray, List.set_cons_zero, List.set_cons_succ]
          refine takeD (i := 6) (v := ?v21) (some 26) rfl (by kernel_rfl) (by kernel_rfl) (by kernel_rfl) (fun _ _ _ h => h) (Or.inl ⟨by rfl, ?hy21⟩) (by assumption) (by rfl) ?rest21
          case hy21 => first | (intro w hSw; (try dsimp only at hSw); obtain ⟨q1, q2⟩ := hSw; go_simp; done) | (intro w hSw; (try dsimp only at hSw); obtain ⟨q1, q2⟩ := hSw; go_simp; with_reducible rfl)
          try simp only [Act.put, List.setIfInBounds_toArray, List.set_cons_zero, List.set_cons_succ]
          refine takeD (i := 7) (v := ?v22) (some 27) rfl (by kernel_rfl) (by kernel_rfl) (by kernel_rfl) (fun _ _ _ h => h) (Or.inl ⟨by rfl, ?hy22⟩) (by assumption) (by rfl) ?rest22
          case hy22 => first | (intro w hSw; (try dsimp only at hSw); obtain ⟨q1, q2⟩ := hSw; go_simp; done) | (intro w hSw; (try dsimp only at hSw); obtain ⟨q1, q2⟩ := hSw; go_simp; with_reducible rfl)
          try simp only [Act.put, List.setIfInBounds_toArray, List.set_cons_zero, List.set_cons_succ]
          refine wpAnyH_ready (rs := [8]) (by kernel_rfl) (by simp) ?_
          refine AllReadyH.cons rfl (fun K hK => ?_) AllReadyH.nil
          go_simp
          refine (hcc _).mono ?_
          rintro e w4 ⟨rfl, hw4⟩
          have HR4 : Hid (Below wr.heap.size wr w4) := by
            show Below _ _ _
            rw [hw4]
            (first | exact (bdrewN (Below.refl _ _) _).drew | exact ((Below.refl _ _).drew).drew | exact (Below.refl _ _).drew | exact bdrewN (Below.refl _ _) _ | exact Below.refl _ _)
          have HB4 := hide (bafter HBW.out HR4.out (Nat.le_refl _))
          clear hw4 hcc hHeld
          go_wp2_with fail
          refine hK.out _ _ (HS3.out _ HB4.out) (fun hHeld => ?_)
          clear hK K hHeld
          try simp only [Act.put, List.setIfInBounds_toArray, List.set_cons_zero, List.set_cons_succ]
          refine wpAnyH_done (by kernel_rfl) ?_ _
          have HSB : Hid (∀ W, Below w.heap.size w W → W.cell? ⟨pb, po, none⟩ = some (.int .i64 xv) ∧ W.cell? ⟨pb, po + 1, none⟩ = some (.bool xn) ∧ W.cell? ⟨pb, po + 2, none⟩ = some (.slice xa xL xc) ∧ W.cell? ⟨qb, qo + 1, none⟩ = some (.bool yn) ∧ W.cell? ⟨qb, qo + 2, none⟩ = some (.slice ya yL yc)) := fun W h => ⟨(HSX.out W h).1, (HSX.out W h).2.1, (HSX.out W h).2.2, (HSY.out W h).2.1, (HSY.out W h).2.2⟩
          go_upto_region 4 with fail
          refine wp_region_held_drew (S := fun X : World => X.cell? ⟨pb, po, none⟩ = some (.int .i64 xv) ∧ X.cell? ⟨pb, po + 1, none⟩ = some (.bool xn) ∧ X.cell? ⟨pb, po + 2, none⟩ = some (.slice xa xL xc) ∧ X.cell? ⟨qb, qo + 1, none⟩ = some (.bool yn) ∧ X.cell? ⟨qb, qo + 2, none⟩ = some (.slice ya yL yc)) (by kernel_rfl) ?_ (fun hHeld => ?_)
          · exact HSB.out _ (by first | exact HB4.out.drew | exact HB4.out)
          refine takeD (i := 0) (v := ?v23) (some 29) rfl (by kernel_rfl) (by kernel_rfl) (by kernel_rfl) (fun _ _ _ h => h) (Or.inl ⟨by rfl, ?hy23⟩) (by assumption) (by rfl) ?rest23
          case hy23 => first | (intro w hSw; (try dsimp only at hSw); obtain ⟨q0, q1, q2, q3, q4⟩ := hSw; go_simp; done) | (intro w hSw; (try dsimp only at hSw); obtain ⟨q0, q1, q2, q3, q4⟩ := hSw; go_simp; with_reducible rfl)
          try simp only [Act.put, List.setIfInBounds_toArray, List.set_cons_zero, List.set_cons_succ]
          refine takeD (i := 1) (v := ?v24) (some 30) rfl (by kernel_rfl) (by kernel_rfl) (by kernel_rfl) (fun _ _ _ h => h) (Or.inl ⟨by rfl, ?hy24⟩) (by assumption) (by rfl) ?rest24
          case hy24 => first | (intro w hSw; (try dsimp only at hSw); obtain ⟨q0, q1, q2, q3, q4⟩ := hSw; go_simp; done) | (intro w hSw; (try dsimp only at hSw); obtain ⟨q0, q1, q2, q3, q4⟩ := hSw; go_simp; with_reducible rfl)
          try simp only [Act.put, List.setIfInBounds_toArray, List.set_cons_zero, List.set_cons_succ]
          refine takeD (i := 2) (v := ?v25) (some 31) rfl (by kernel_rfl) (by kernel_rfl) (by kernel_rfl) (fun _ _ _ h => h) (Or.inl ⟨by rfl, ?hy25⟩) (by assumption) (by rfl) ?rest25
          case hy25 => first | (intro w hSw; (try dsimp only at hSw); obtain ⟨q0, q1, q2, q3, q4⟩ := hSw; go_simp; done) | (intro w hSw; (try dsimp only at hSw); obtain ⟨q0, q1, q2, q3, q4⟩ := hSw; go_simp; with_reducible rfl)
          try simp only [Act.put, List.setIfInBounds_toArray, List.set_cons_zero, List.set_cons_succ]
          refine takeD (i := 3) (v := ?v26) (some 32) rfl (by kernel_rfl) (by kernel_rfl) (by kernel_rfl) (fun _ _ _ h => h) (Or.inl ⟨by rfl, ?hy26⟩) (by assumption) (by rfl) ?rest26
          case hy26 => first | (intro w hSw; (try dsimp only at hSw); obtain ⟨q0, q1, q2, q3, q4⟩ := hSw; go_simp; done) | (intro w hSw; (try dsimp only at hSw); obtain ⟨q0, q1, q2, q3, q4⟩ := hSw; go_simp; with_reducible rfl)
          try simp only [Act.put, List.setIfInBounds_toArray, List.set_cons_zero, List.set_cons_succ]
          refine takeD (i := 4) (v := ?v27) (some 33) rfl (by kernel_rfl) (by kernel_rfl) (by kernel_rfl) (fun _ _ _ h => h) (Or.inl ⟨by rfl, ?hy27⟩) (by assumption) (by rfl) ?rest27
          case hy27 => first | (intro w hSw; (try dsimp only at hSw); obtain ⟨q0, q1, q2, q3, q4⟩ := hSw; go_simp; done) | (intro w hSw; (try dsimp only at hSw); obtain ⟨q0, q1, q2, q3, q4⟩ := hSw; go_simp; with_reducible rfl)
          try simp only [Act.put, List.setIfInBounds_toArray, List.set_cons_zero, List.set_cons_succ]
          refine takeD (i := 5) (v := ?v28) (some 34) rfl (by kernel_rfl) (by kernel_rfl) (by kernel_rfl) (fun _ _ _ h => h) (Or.inl ⟨by rfl, ?hy28⟩) (by assumption) (by rfl) ?rest28
          case hy28 => first | (intro w hSw; (try dsimp only at hSw); obtain ⟨q0, q1, q2, q3, q4⟩ := hSw; go_simp; done) | (intro w hSw; (try dsimp only at hSw); obtain ⟨q0, q1, q2, q3, q4⟩ := hSw; go_simp; with_reducible rfl)
          try simp only [Act.put, List.setIfInBounds_toArray, List.set_cons_zero, List.set_cons_succ]
          refine takeD (i := 6) (v := ?v29) (some 35) rfl (by kernel_rfl) (by kernel_rfl) (by kernel_rfl) (fun _ _ _ h => h) (Or.inl ⟨by rfl, ?hy29⟩) (by assumption) (by rfl) ?rest29
          case hy29 => first | (intro w hSw; (try dsimp only at hSw); obtain ⟨q0, q1, q2, q3, q4⟩ := hSw; go_simp; done) | (intro w hSw; (try dsimp only at hSw); obtain ⟨q0, q1, q2, q3, q4⟩ := hSw; go_simp; with_reducible rfl)
          try simp only [Act.put, List.setIfInBounds_toArray, List.set_cons_zero, List.set_cons_succ]
          refine takeD (i := 7) (v := ?v30) (some 36) rfl (by kernel_rfl) (by kernel_rfl) (by kernel_rfl) (fun _ _ _ h => h) (Or.inl ⟨by rfl, ?hy30⟩) (by assumption) (by rfl) ?rest30
          case hy30 => first | (intro w hSw; (try dsimp only at hSw); obtain ⟨q0, q1, q2, q3, q4⟩ := hSw; go_simp; done) | (intro w hSw; (try dsimp only at hSw); obtain ⟨q0, q1, q2, q3, q4⟩ := hSw; go_simp; with_reducible rfl)
          try simp only [Act.put, List.setIfInBounds_toArray, List.set_cons_zero, List.set_cons_succ]
          refine takeD (i := 8) (v := ?v31) (some 37) rfl (by kernel_rfl) (by kernel_rfl) (by kernel_rfl) (fun _ _ _ h => h) (Or.inl ⟨by rfl, ?hy31⟩) (by assumption) (by rfl) ?rest31
          case hy31 => first | (intro w hSw; (try dsimp only at hSw); obtain ⟨q0, q1, q2, q3, q4⟩ := hSw; go_simp; done) | (intro w hSw; (try dsimp only at hSw); obtain ⟨q0, q1, q2, q3, q4⟩ := hSw; go_simp; with_reducible rfl)
          try simp only [Act.put, List.setIfInBounds_toArray, List.set_cons_zero, List.set_cons_succ]
          refine takeD (i := 9) (v := ?v32) (some 38) rfl (by kernel_rfl) (by kernel_rfl) (by kernel_rfl) (fun _ _ _ h => h) (Or.inl ⟨by rfl, ?hy32⟩) (by assumption) (by rfl) ?rest32
          case hy32 => first | (intro w hSw; (try dsimp only at hSw); obtain ⟨q0, q1, q2, q3, q4⟩ := hSw; go_simp; done) | (intro w hSw; (try dsimp only at hSw); obtain ⟨q0, q1, q2, q3, q4⟩ := hSw; go_simp; with_reducible rfl)
          try simp only [Act.put, List.setIfInBounds_toArray, List.set_cons_zero, List.set_cons_succ]
          refine takeD (i := 10) (v := ?v33) (some 39) rfl (by kernel_rfl) (by kernel_rfl) (by kernel_rfl) (fun _ _ _ h => h) (Or.inl ⟨by rfl, ?hy33⟩) (by assumption) (by rfl) ?rest33
          case hy33 => first | (intro w hSw; (try dsimp only at hSw); obtain ⟨q0, q1, q2, q3, q4⟩ := hSw; go_simp; done) | (intro w hSw; (try dsimp only at hSw); obtain ⟨q0, q1, q2, q3, q4⟩ := hSw; go_simp; with_reducible rfl)
          try simp only [Act.put, List.setIfInBounds_toArray, List.set_cons_zero, List.set_cons_succ]
          refine takeD (i := 11) (v := ?v34) (some 40) rfl (by kernel_rfl) (by kernel_rfl) (by kernel_rfl) (fun _ _ _ h => h) (Or.inl ⟨by rfl, ?hy34⟩) (by assumption) (by rfl) ?rest34
          case hy34 => first | (intro w hSw; (try dsimp only at hSw); obtain ⟨q0, q1, q2, q3, q4⟩ := hSw; go_simp; done) | (intro w hSw; (try dsimp only at hSw); obtain ⟨q0, q1, q2, q3, q4⟩ := hSw; go_simp; with_reducible rfl)
          try simp only [Act.put, List.setIfInBounds_toArray, List.set_cons_zero, List.set_cons_succ]
          refine takeD (i := 12) (v := ?v35) (some 41) rfl (by kernel_rfl) (by kernel_rfl) (by kernel_rfl) (fun _ _ _ h => h) (Or.inl ⟨by rfl, ?hy35⟩) (by assumption) (by rfl) ?rest35
          case hy35 => first | (intro w hSw; (try dsimp only at hSw); obtain ⟨q0, q1, q2, q3, q4⟩ := hSw; go_simp; done) | (intro w hSw; (try dsimp only at hSw); obtain ⟨q0, q1, q2, q3, q4⟩ := hSw; go_simp; with_reducible rfl)
          try simp only [Act.put, List.setIfInBounds_toArray, List.set_cons_zero, List.set_cons_succ]
          refine wpAnyH_ready (rs := [13]) (by kernel_rfl) (by simp) ?_
          refine AllReadyH.cons rfl (fun K hK => ?_) AllReadyH.nil
          go_simp
          refine (HADD.out w4.drew HB4.out.drew).mono ?_
          rintro e w7 ⟨v7, rfl, hr7, hb7⟩
          obtain ⟨zn, za, zL, zc, rfl⟩ := hr7.form
          have HB7 := hide (bafter HB4.out.drew hb7 (Nat.le_refl _))
          have HR7 := hide (bafter HR4.out.drew hb7 (Nat.le_refl _))
          have HRES := hide hr7
          clear hr7 hb7 hHeld
          go_wp2_with fail
          refine hK.out _ _ (HSB.out _ HB7.out) (fun hHeld => ?_)
          clear hK K
          try simp only [Act.put, List.setIfInBounds_toArray, List.set_cons_zero, List.set_cons_succ]
          refine takeD (i := 14) (v := ?v36) (some 43) rfl (by kernel_rfl) (by kernel_rfl) (by kernel_rfl) (fun _ _ _ h => h) (Or.inl ⟨by rfl, ?hy36⟩) (by assumption) (by rfl) ?rest36
          case hy36 => first | (intro w hSw; (try dsimp only at hSw); obtain ⟨q0, q1, q2, q3, q4⟩ := hSw; go_simp; done) | (intro w hSw; (try dsimp only at hSw); obtain ⟨q0, q1, q2, q3, q4⟩ := hSw; go_simp; with_reducible rfl)
          try simp only [Act.put, List.setIfInBounds_toArray, List.set_cons_zero, List.set_cons_succ]
          refine wpAnyH_ready (rs := [15]) (by kernel_rfl) (by simp) ?_
          refine AllReadyH.cons rfl (fun K hK => ?_) AllReadyH.nil
          go_simp
          have hbl := bel w7 (.cells #[.int .i64 xv, .bool zn, .slice za zL zc] 31)
          have HB5 := hide ((bafter HB7.out hbl (Nat.le_refl _)))
          have HR5 := hide ((bafter HR7.out hbl (Nat.le_refl _)))
          have HBL := hide hbl
          have HRL := hide ((row_lit w7 xv zn (.slice za zL zc) (xz + yz)))
          clear hbl
          generalize hw5 : ((w7).alloc (.cells #[.int .i64 xv, .bool zn, .slice za zL zc] 31)) = w5 at *
          clear hw5
          refine hK.out _ _ (HSB.out _ HB5.out) (fun hHeld => ?_)
          clear hK K hHeld
          try simp only [Act.put, List.setIfInBounds_toArray, List.set_cons_zero, List.set_cons_succ]
          obtain ⟨v6, w6, hrun6, ho6, hg6, ha6, hk6⟩ := run_appP w5 w.heap.size 25 _ X (HO.out.below HR5.out) _ [((xv, zn, .slice za zL zc, xz + yz) : Pt)] HRL.out (fun m hm => by simp at hm; subst hm; rfl) (by have h9 := HXL.out; have h8 := HLA.out; have h7 := HLB.out; simp only [List.length_append, List.length_cons, List.length_nil] at *; omega) HB5.out.size
          have HB6 : Hid (Below w.heap.size w w6) := HB5.out.grown hg6 HB5.out.size (fun j hj => (HO.out.lt hj).1)
          have HG6 : Hid (GoodR w6 (X ++ [((xv, zn, .slice za zL zc, xz + yz) : Pt)])) := by
            intro m hm
            rcases List.mem_append.1 hm with h | h
            · exact ((HGR.out.below HR5.out).k32 hk6) m h
            · simp at h
              subst h
              exact ⟨HXG.out.1, (HRES.out.below HBL.out).k32 hk6⟩
          obtain ⟨oa6, oc6, rfl, _, _⟩ := ho6.len
          have HO6 := hide ho6
          clear ho6 hg6 ha6 hk6
          refine wpAnyH_ready (rs := [16]) (by kernel_rfl) (by simp) ?_
          refine AllReadyH.cons rfl (fun K hK => ?_) AllReadyH.nil
          refine Lib.wp_append_run _ _ _ _ _ rfl _ _ rfl rfl _ _ hrun6 ?_
          clear hrun6
          refine hK.out _ _ (HSB.out _ HB6.out) (fun hHeld => ?_)
          clear hK K hHeld
          try simp only [Act.put, List.setIfInBounds_toArray, List.set_cons_zero, List.set_cons_succ]
          refine wpAnyH_ready (rs := [17]) (by kernel_rfl) (by simp) ?_
          refine AllReadyH.cons rfl (fun K hK => ?_) AllReadyH.nil
          go_simp
          refine hK.out _ _ (HSB.out _ HB6.out) (fun hHeld => ?_)
          clear hK K hHeld
          try simp only [Act.put, List.setIfInBounds_toArray, List.set_cons_zero, List.set_cons_succ]
          refine wpAnyH_done (by kernel_rfl) ?_ _
          go_upto_region 5 with fail
          refine wp_region_held_drew (S := fun X : World => True) (by kernel_rfl) ?_ (fun hHeld => ?_)
          · exact trivial
          refine takeD (i := 0) (v := ?v37) (some 46) rfl (by kernel_rfl) (by kernel_rfl) (by kernel_rfl) (fun _ _ _ h => h) (Or.inl ⟨by rfl, ?hy37⟩) (by assumption) (by rfl) ?rest37
          case hy37 => first | (intro w hSw; (try dsimp only at hSw); go_simp; done) | (intro w hSw; (try dsimp only at hSw); go_simp; with_reducible rfl)
          try simp only [Act.put, List.setIfInBounds_toArray, List.set_cons_zero, List.set_cons_succ]
          refine takeD (i := 1) (v := ?v38) (some 47) rfl (by kernel_rfl) (by kernel_rfl) (by kernel_rfl) (fun _ _ _ h => h) (Or.inl ⟨by rfl, ?hy38⟩) (by assumption) (by rfl) ?rest38
          case hy38 => first | (intro w hSw; (try dsimp only at hSw); go_simp; done) | (intro w hSw; (try dsimp only at hSw); go_simp; with_reducible rfl)
          try simp only [Act.put, List.setIfInBounds_toArray, List.set_cons_zero, List.set_cons_succ]
          refine takeD (i := 2) (v := ?v39) (some 48) rfl (by kernel_rfl) (by kernel_rfl) (by kernel_rfl) (fun _ _ _ h => h) (Or.inl ⟨by rfl, ?hy39⟩) (by assumption) (by rfl) ?rest39
          case hy39 => first | (intro w hSw; (try dsimp only at hSw); go_simp; done) | (intro w hSw; (try dsimp only at hSw); go_simp; with_reducible rfl)
          try simp only [Act.put, List.setIfInBounds_toArray, List.set_cons_zero, List.set_cons_succ]
          refine takeD (i := 3) (v := ?v40) (some 49) rfl (by kernel_rfl) (by kernel_rfl) (by kernel_rfl) (fun _ _ _ h => h) (Or.inl ⟨by rfl, ?hy40⟩) (by assumption) (by rfl) ?rest40
          case hy40 => first | (intro w hSw; (try dsimp only at hSw); go_simp; done) | (intro w hSw; (try dsimp only at hSw); go_simp; with_reducible rfl)
          try simp only [Act.put, List.setIfInBounds_toArray, List.set_cons_zero, List.set_cons_succ]
          refine wpAnyH_ready (rs := [4]) (by kernel_rfl) (by simp) ?_
          refine AllReadyH.cons rfl (fun K hK => ?_) AllReadyH.nil
          go_simp
          refine hK.out _ _ (trivial) (fun hHeld => ?_)
          clear hK K hHeld
          try simp only [Act.put, List.setIfInBounds_toArray, List.set_cons_zero, List.set_cons_succ]
          refine wpAnyH_ready (rs := [5]) (by kernel_rfl) (by simp) ?_
          refine AllReadyH.cons rfl (fun K hK => ?_) AllReadyH.nil
          go_simp
          refine hK.out _ _ (trivial) (fun hHeld => ?_)
          clear hK K hHeld
          try simp only [Act.put, List.setIfInBounds_toArray, List.set_cons_zero, List.set_cons_succ]
          refine wpAnyH_done (by kernel_rfl) ?_ _
          go_wp2
          go_roundw
          case rel =>
            have e1 := HA2.out
            have e2 := HB2.out
            have e3 := HL1.out
            have e4 := HL2.out
            subst e1
            subst e2
            subst e3
            subst e4
            exact ⟨A1, B1, _, _, _, _, _, _, _, rfl, rfl, (by first | rfl | simp), HRP1.out, HRQ1.out, HMG.out.both HEQ.out HBA.out HBB.out zn _, HO6.out, HG6.out, by first | exact HB6.out.drew | exact HB6.out⟩
          case measure =>
            have e3 := HE1.out
            have e4 := HE2.out
            simp only [lenV]
            omega
        · rw [show Lib.compareInt xv yv = 1 by unfold Lib.compareInt; rw [if_neg (by omega), if_pos (by omega)]] at hcc
          have HGT := hide hgt
          clear hgt
          have HS3 : Hid (∀ W, Below w.heap.size w W → W.cell? ⟨pb, po, none⟩ = some (.int .i64 xv) ∧ W.cell? ⟨qb, qo, none⟩ = some (.int .i64 yv)) := fun W h => ⟨(HSX.out W h).1, (HSY.out W h).1⟩
          go_upto_region 3 with fail
          refine wp_region_held_drew (S := fun X : World => X.cell? ⟨pb, po, none⟩ = some (.int .i64 xv) ∧ X.cell? ⟨qb, qo, none⟩ = some (.int .i64 yv)) (by kernel_rfl) ?_ (fun hHeld => ?_)
          · exact HS3.out _ (by (first | exact (bdrewN HBW.out _).drew | exact HBW.out.drew.drew | exact HBW.out.drew | exact bdrewN HBW.out _ | exact HBW.out))
          refine takeD (i := 0) (v := ?v41) (some 20) rfl (by kernel_rfl) (by kernel_rfl) (by kernel_rfl) (fun _ _ _ h => h) (Or.inl ⟨by rfl, ?hy41⟩) (by assumption) (by rfl) ?rest41
          case hy41 => first | (intro w hSw; (try dsimp only at hSw); obtain ⟨q1, q2⟩ := hSw; go_simp; done) | (intro w hSw; (try dsimp only at hSw); obtain ⟨q1, q2⟩ := hSw; go_simp; with_reducible rfl)
          try simp only [Act.put, List.setIfInBounds_toArray, List.set_cons_zero, List.set_cons_succ]
          refine takeD (i := 1) (v := ?v42) (some 21) rfl (by kernel_rfl) (by kernel_rfl) (by kernel_rfl) (fun _ _ _ h => h) (Or.inl ⟨by rfl, ?hy42⟩) (by assumption) (by rfl) ?rest42
          case hy42 => first | (intro w hSw; (try dsimp only at hSw); obtain ⟨q1, q2⟩ := hSw; go_simp; done) | (intro w hSw; (try dsimp only at hSw); obtain ⟨q1, q2⟩ := hSw; go_simp; with_reducible rfl)
          try simp only [Act.put, List.setIfInBounds_toArray, List.set_cons_zero, List.set_cons_succ]
          refine takeD (i := 2) (v := ?v43) (some 22) rfl (by kernel_rfl) (by kernel_rfl) (by kernel_rfl) (fun _ _ _ h => h) (Or.inl ⟨by rfl, ?hy43⟩) (by assumption) (by rfl) ?rest43
          case hy43 => first | (intro w hSw; (try dsimp only at hSw); obtain ⟨q1, q2⟩ := hSw; go_simp; done) | (intro w hSw; (try dsimp only at hSw); obtain ⟨q1, q2⟩ := hSw; go_simp; with_reducible rfl)
          try simp only [Act.put, List.setIfInBounds_toArray, List.set_cons_zero, List.set_cons_succ]
          refine takeD (i := 3) (v := ?v44) (some 23) rfl (by kernel_rfl) (by kernel_rfl) (by kernel_rfl) (fun _ _ _ h => h) (Or.inl ⟨by rfl, ?hy44⟩) (by assumption) (by rfl) ?rest44
          case hy44 => first | (intro w hSw; (try dsimp only at hSw); obtain ⟨q1, q2⟩ := hSw; go_simp; done) | (intro w hSw; (try dsimp only at hSw); obtain ⟨q1, q2⟩ := hSw; go_simp; with_reducible rfl)
          try simp only [Act.put, List.setIfInBounds_toArray, List.set_cons_zero, List.set_cons_succ]
          refine takeD (i := 4) (v := ?v45) (some 24) rfl (by kernel_rfl) (by kernel_rfl) (by kernel_rfl) (fun _ _ _ h => h) (Or.inl ⟨by rfl, ?hy45⟩) (by assumption) (by rfl) ?rest45
          case hy45 => first | (intro w hSw; (try dsimp only at hSw); obtain ⟨q1, q2⟩ := hSw; go_simp; done) | (intro w hSw; (try dsimp only at hSw); obtain ⟨q1, q2⟩ := hSw; go_simp; with_reducible rfl)
          try simp only [Act.put, List.setIfInBounds_toArray, List.set_cons_zero, List.set_cons_succ]
          refine takeD (i := 5) (v := ?v46) (some 25) rfl (by kernel_rfl) (by kernel_rfl) (by kernel_rfl) (fun _ _ _ h => h) (Or.inl ⟨by rfl, ?hy46⟩) (by assumption) (by rfl) ?rest46
          case hy46 => first | (intro w hSw; (try dsimp only at hSw); obtain ⟨q1, q2⟩ := hSw; go_simp; done) | (intro w hSw; (try dsimp only at hSw); obtain ⟨q1, q2⟩ := hSw; go_simp; with_reducible rfl)
          try simp only [Act.put, List.setIfInBounds_toArray, List.set_cons_zero, List.set_cons_succ]
          refine takeD (i := 6) (v := ?v47) (some 26) rfl (by kernel_rfl) (by kernel_rfl) (by kernel_rfl) (fun _ _ _ h => h) (Or.inl ⟨by rfl, ?hy47⟩) (by assumption) (by rfl) ?rest47
          case hy47 => first | (intro w hSw; (try dsimp only at hSw); obtain ⟨q1, q2⟩ := hSw; go_simp; done) | (intro w hSw; (try dsimp only at hSw); obtain ⟨q1, q2⟩ := hSw; go_simp; with_reducible rfl)
          try simp only [Act.put, List.setIfInBounds_toArray, List.set_cons_zero, List.set_cons_succ]
          refine takeD (i := 7) (v := ?v48) (some 27) rfl (by kernel_rfl) (by kernel_rfl) (by kernel_rfl) (fun _ _ _ h => h) (Or.inl ⟨by rfl, ?hy48⟩) (by assumption) (by rfl) ?rest48
          case hy48 => first | (intro w hSw; (try dsimp only at hSw); obtain ⟨q1, q2⟩ := hSw; go_simp; done) | (intro w hSw; (try dsimp only at hSw); obtain ⟨q1, q2⟩ := hSw; go_simp; with_reducible rfl)
          try simp only [Act.put, List.setIfInBounds_toArray, List.set_cons_zero, List.set_cons_succ]
          refine wpAnyH_ready (rs := [8]) (by kernel_rfl) (by simp) ?_
          refine AllReadyH.cons rfl (fun K hK => ?_) AllReadyH.nil
          go_simp
          refine (hcc _).mono ?_
          rintro e w4 ⟨rfl, hw4⟩
          have HR4 : Hid (Below wr.heap.size wr w4) := by
            show Below _ _ _
            rw [hw4]
            (first | exact (bdrewN (Below.refl _ _) _).drew | exact ((Below.refl _ _).drew).drew | exact (Below.refl _ _).drew | exact bdrewN (Below.refl _ _) _ | exact Below.refl _ _)
          have HB4 := hide (bafter HBW.out HR4.out (Nat.le_refl _))
          clear hw4 hcc hHeld
          go_wp2_with fail
          refine hK.out _ _ (HS3.out _ HB4.out) (fun hHeld => ?_)
          clear hK K hHeld
          try simp only [Act.put, List.setIfInBounds_toArray, List.set_cons_zero, List.set_cons_succ]
          refine wpAnyH_done (by kernel_rfl) ?_ _
          go_upto_region 9 with fail
          refine wp_region_held_drew (S := fun X : World => X.cell? ⟨qb, qo, none⟩ = some (.int .i64 yv) ∧ X.cell? ⟨qb, qo + 1, none⟩ = some (.bool yn) ∧ X.cell? ⟨qb, qo + 2, none⟩ = some (.slice ya yL yc)) (by kernel_rfl) ?_ (fun hHeld => ?_)
          · exact HSY.out _ (by first | exact HB4.out.drew | exact HB4.out)
          refine takeD (i := 0) (v := ?v49) (some 62) rfl (by kernel_rfl) (by kernel_rfl) (by kernel_rfl) (fun _ _ _ h => h) (Or.inl ⟨by rfl, ?hy49⟩) (by assumption) (by rfl) ?rest49
          case hy49 => first | (intro w hSw; (try dsimp only at hSw); obtain ⟨q0, q1, q2⟩ := hSw; go_simp; done) | (intro w hSw; (try dsimp only at hSw); obtain ⟨q0, q1, q2⟩ := hSw; go_simp; with_reducible rfl)
          try simp only [Act.put, List.setIfInBounds_toArray, List.set_cons_zero, List.set_cons_succ]
          refine takeD (i := 1) (v := ?v50) (some 63) rfl (by kernel_rfl) (by kernel_rfl) (by kernel_rfl) (fun _ _ _ h => h) (Or.inl ⟨by rfl, ?hy50⟩) (by assumption) (by rfl) ?rest50
          case hy50 => first | (intro w hSw; (try dsimp only at hSw); obtain ⟨q0, q1, q2⟩ := hSw; go_simp; done) | (intro w hSw; (try dsimp only at hSw); obtain ⟨q0, q1, q2⟩ := hSw; go_simp; with_reducible rfl)
          try simp only [Act.put, List.setIfInBounds_toArray, List.set_cons_zero, List.set_cons_succ]
          refine takeD (i := 2) (v := ?v51) (some 64) rfl (by kernel_rfl) (by kernel_rfl) (by kernel_rfl) (fun _ _ _ h => h) (Or.inl ⟨by rfl, ?hy51⟩) (by assumption) (by rfl) ?rest51
          case hy51 => first | (intro w hSw; (try dsimp only at hSw); obtain ⟨q0, q1, q2⟩ := hSw; go_simp; done) | (intro w hSw; (try dsimp only at hSw); obtain ⟨q0, q1, q2⟩ := hSw; go_simp; with_reducible rfl)
          try simp only [Act.put, List.setIfInBounds_toArray, List.set_cons_zero, List.set_cons_succ]
          refine takeD (i := 3) (v := ?v52) (some 65) rfl (by kernel_rfl) (by kernel_rfl) (by kernel_rfl) (fun _ _ _ h => h) (Or.inl ⟨by rfl, ?hy52⟩) (by assumption) (by rfl) ?rest52
          case hy52 => first | (intro w hSw; (try dsimp only at hSw); obtain ⟨q0, q1, q2⟩ := hSw; go_simp; done) | (intro w hSw; (try dsimp only at hSw); obtain ⟨q0, q1, q2⟩ := hSw; go_simp; with_reducible rfl)
          try simp only [Act.put, List.setIfInBounds_toArray, List.set_cons_zero, List.set_cons_succ]
          refine takeD (i := 6) (v := ?v53) (some 68) rfl (by kernel_rfl) (by kernel_rfl) (by kernel_rfl) (fun _ _ _ h => h) (Or.inl ⟨by rfl, ?hy53⟩) (by assumption) (by rfl) ?rest53
          case hy53 => first | (intro w hSw; (try dsimp only at hSw); obtain ⟨q0, q1, q2⟩ := hSw; go_simp; done) | (intro w hSw; (try dsimp only at hSw); obtain ⟨q0, q1, q2⟩ := hSw; go_simp; with_reducible rfl)
          try simp only [Act.put, List.setIfInBounds_toArray, List.set_cons_zero, List.set_cons_succ]
          refine takeD (i := 7) (v := ?v54) (some 69) rfl (by kernel_rfl) (by kernel_rfl) (by kernel_rfl) (fun _ _ _ h => h) (Or.inl ⟨by rfl, ?hy54⟩) (by assumption) (by rfl) ?rest54
          case hy54 => first | (intro w hSw; (try dsimp only at hSw); obtain ⟨q0, q1, q2⟩ := hSw; go_simp; done) | (intro w hSw; (try dsimp only at hSw); obtain ⟨q0, q1, q2⟩ := hSw; go_simp; with_reducible rfl)
          try simp only [Act.put, List.setIfInBounds_toArray, List.set_cons_zero, List.set_cons_succ]
          refine wpAnyH_ready (rs := [4]) (by kernel_rfl) (by simp) ?_
          refine AllReadyH.cons rfl (fun K hK => ?_) AllReadyH.nil
          go_simp
          have hbl := bel w4 (.cells #[.int .i64 yv, .bool yn, .slice ya yL yc] 31)
          have HB5 := hide ((bafter HB4.out hbl (Nat.le_refl _)).drew)
          have HR5 := hide ((bafter HR4.out hbl (Nat.le_refl _)).drew)
          have HBL := hide hbl
          have HRL := hide ((row_lit w4 yv yn (.slice ya yL yc) (yz)).below ((Below.refl _ _).drew))
          clear hbl
          generalize hw5 : ((w4).alloc (.cells #[.int .i64 yv, .bool yn, .slice ya yL yc] 31)).drew = w5 at *
          clear hw5
          refine hK.out _ _ (HSY.out _ HB5.out) (fun hHeld => ?_)
          clear hK K hHeld
          try simp only [Act.put, List.setIfInBounds_toArray, List.set_cons_zero, List.set_cons_succ]
          obtain ⟨v6, w6, hrun6, ho6, hg6, ha6, hk6⟩ := run_appP w5 w.heap.size 25 _ X (HO.out.below HR5.out) _ [((yv, yn, .slice ya yL yc, yz) : Pt)] HRL.out (fun m hm => by simp at hm; subst hm; rfl) (by have h9 := HXL.out; have h8 := HLA.out; have h7 := HLB.out; simp only [List.length_append, List.length_cons, List.length_nil] at *; omega) HB5.out.size
          have HB6 : Hid (Below w.heap.size w w6) := HB5.out.grown hg6 HB5.out.size (fun j hj => (HO.out.lt hj).1)
          have HG6 : Hid (GoodR w6 (X ++ [((yv, yn, .slice ya yL yc, yz) : Pt)])) := by
            intro m hm
            rcases List.mem_append.1 hm with h | h
            · exact ((HGR.out.below HR5.out).k32 hk6) m h
            · simp at h
              subst h
              exact ⟨HYG.out.1, HYG.out.2.below HB6.out⟩
          obtain ⟨oa6, oc6, rfl, _, _⟩ := ho6.len
          have HO6 := hide ho6
          clear ho6 hg6 ha6 hk6
          refine wpAnyH_ready (rs := [5]) (by kernel_rfl) (by simp) ?_
          refine AllReadyH.cons rfl (fun K hK => ?_) AllReadyH.nil
          refine Lib.wp_append_run _ _ _ _ _ rfl _ _ rfl rfl _ _ hrun6 ?_
          clear hrun6
          refine hK.out _ _ (HSY.out _ HB6.out) (fun hHeld => ?_)
          clear hK K hHeld
          try simp only [Act.put, List.setIfInBounds_toArray, List.set_cons_zero, List.set_cons_succ]
          refine wpAnyH_ready (rs := [8]) (by kernel_rfl) (by simp) ?_
          refine AllReadyH.cons rfl (fun K hK => ?_) AllReadyH.nil
          go_simp
          refine hK.out _ _ (HSY.out _ HB6.out) (fun hHeld => ?_)
          clear hK K hHeld
          try simp only [Act.put, List.setIfInBounds_toArray, List.set_cons_zero, List.set_cons_succ]
          refine wpAnyH_ready (rs := [9]) (by kernel_rfl) (by simp) ?_
          refine AllReadyH.cons rfl (fun K hK => ?_) AllReadyH.nil
          go_simp
          refine hK.out _ _ (HSY.out _ HB6.out) (fun hHeld => ?_)
          clear hK K hHeld
          try simp only [Act.put, List.setIfInBounds_toArray, List.set_cons_zero, List.set_cons_succ]
          refine wpAnyH_done (by kernel_rfl) ?_ _
          go_wp2
          go_roundw
          case rel =>
            have e1 := HA2.out
            have e2 := HB2.out
            have e3 := HL1.out
            have e4 := HL2.out
            subst e1
            subst e2
            subst e3
            subst e4
            exact ⟨_, B1, _, _, _, _, _, _, _, rfl, rfl, (by first | rfl | simp), HPR.out, HRQ1.out, HMG.out.right HGT.out HBB.out, HO6.out, HG6.out, HB6.out⟩
          case measure =>
            have e3 := HE2.out
            simp only [lenV]
            omega

end Go.Proofs.YtkdhcpfmlelfcaaDoor

namespace Go.Proofs.YtkdhcpfmlelfcaaDoor
set_option linter.unusedVariables false
set_option linter.unusedSimpArgs false
set_option maxRecDepth 100000
open Go Go.RowKit Go.Shelf Go.Lib

theorem Thr.new2 (W : World) (o o' : Obj) (x y z : Value) (t : TypeId) : Thr (((W.alloc o).alloc o').alloc (.cells #[x, y, z] t)) (W.heap.size + 2) x y z t := by
  have h := Thr.new ((W.alloc o).alloc o') x y z t
  rw [World.size_alloc, World.size_alloc] at h
  exact h
theorem Two.new1 (W : World) (o : Obj) (x y : Value) (t : TypeId) : Two ((W.alloc o).alloc (.cells #[x, y] t)) (W.heap.size + 1) x y t := two_second W o x y t
theorem bel3 (w : World) (a b c : Obj) : Below w.heap.size w (((w.alloc a).alloc b).alloc c) := ((bel _ _).trans ((bel _ _).mono (by simp))).trans ((bel _ _).mono (by simp; omega))
theorem put3_cells {W : World} {b k : Nat} (h : k ≠ b) (p q r : Value) {j : Nat} : (put3 W b p q r).cell? ⟨k, j, none⟩ = W.cell? ⟨k, j, none⟩ := World.cell?_of_block (a := ⟨k, j, none⟩) (put3_other h p q r)

set_option maxHeartbeats 4000000 in
theorem laddF_calls {k : Nat} {w : World} {v u : Value} {c d : Int} {A B : List Pt} (h : TermA k w v c A) (g : TermA k w u d B) (hk : k ≤ 400000) :
    Calls Tryd.prog 7 #[v, u] w fun e w' => TermF w (c + d) (fun x => cf x (ps A) + cf x (ps B)) e w' := by
  obtain ⟨cn, ca, cL, cc, pa, pl, pc, rfl⟩ := h.form
  obtain ⟨dn, da, dL, dc, qa, ql, qc, rfl⟩ := g.form
  have tb := ((Thr.new w (.bool cn) (.slice ca cL cc) (.slice pa pl pc) 27).alloc (.cells #[.bool dn, .slice da dL dc, .slice qa ql qc] 27)).alloc (.cells #[.bool false, .slice none 0 0, .slice none 0 0] 27)
  have tc := (Thr.new1 w (.cells #[.bool cn, .slice ca cL cc, .slice pa pl pc] 27) (.bool dn) (.slice da dL dc) (.slice qa ql qc) 27).alloc (.cells #[.bool false, .slice none 0 0, .slice none 0 0] 27)
  have tz := Thr.new2 w (.cells #[.bool cn, .slice ca cL cc, .slice pa pl pc] 27) (.cells #[.bool dn, .slice da dL dc, .slice qa ql qc] 27) (.bool false) (.slice none 0 0) (.slice none 0 0) 27
  have hba := bel3 w (.cells #[.bool cn, .slice ca cL cc, .slice pa pl pc] 27) (.cells #[.bool dn, .slice da dL dc, .slice qa ql qc] 27) (.cells #[.bool false, .slice none 0 0, .slice none 0 0] 27)
  generalize hwA : ((w.alloc (.cells #[.bool cn, .slice ca cL cc, .slice pa pl pc] 27)).alloc (.cells #[.bool dn, .slice da dL dc, .slice qa ql qc] 27)).alloc (.cells #[.bool false, .slice none 0 0, .slice none 0 0] 27) = wA at *
  have HWA := hide hwA
  have TB := hide tb
  have TC := hide tc
  have TZ := hide tz
  have HBA := hide hba
  have HT := hide h
  have HG := hide g
  have HS : Hid (∀ X : World, Below wA.heap.size wA X → X.cell? ⟨w.heap.size, 0, none⟩ = some (.bool cn) ∧ X.cell? ⟨w.heap.size, 1, none⟩ = some (.slice ca cL cc) ∧ X.cell? ⟨w.heap.size, 2, none⟩ = some (.slice pa pl pc) ∧ X.cell? ⟨w.heap.size + 1, 0, none⟩ = some (.bool dn) ∧ X.cell? ⟨w.heap.size + 1, 1, none⟩ = some (.slice da dL dc) ∧ X.cell? ⟨w.heap.size + 1, 2, none⟩ = some (.slice qa ql qc)) := fun X hX => ⟨(TB.out.keep hX).c0, (TB.out.keep hX).c1, (TB.out.keep hX).c2, (TC.out.keep hX).c0, (TC.out.keep hX).c1, (TC.out.keep hX).c2⟩
  have HC1 := hide (fun (X : World) (hX : Below wA.heap.size wA X) => badd_calls (h.num.below (bafter hba hX (Nat.le_refl _))) (g.num.below (bafter hba hX (Nat.le_refl _))))
  clear hwA tb tc tz hba h g
  go_enter Tryd.func7, Tryd.ntmps7
  go_upto_region 1 with fail
  rw [HWA.out]
  refine wp_region_held_drew (S := fun X : World => X.cell? ⟨w.heap.size, 0, none⟩ = some (.bool cn) ∧ X.cell? ⟨w.heap.size, 1, none⟩ = some (.slice ca cL cc) ∧ X.cell? ⟨w.heap.size, 2, none⟩ = some (.slice pa pl pc) ∧ X.cell? ⟨w.heap.size + 1, 0, none⟩ = some (.bool dn) ∧ X.cell? ⟨w.heap.size + 1, 1, none⟩ = some (.slice da dL dc) ∧ X.cell? ⟨w.heap.size + 1, 2, none⟩ = some (.slice qa ql qc)) (by kernel_rfl) ?_ (fun hHeld => ?_)
  · exact HS.out _ (by (first | exact (Below.refl _ _).drew | exact Below.refl _ _))
  refine takeD (i := 0) (v := ?v1) (some 5) rfl (by kernel_rfl) (by kernel_rfl) (by kernel_rfl) (fun _ _ _ h => h) (Or.inl ⟨by rfl, ?hy1⟩) (by assumption) (by rfl) ?rest1
  case hy1 => first | (intro w hSw; (try dsimp only at hSw); obtain ⟨q0, q1, q2, q3, q4, q5⟩ := hSw; go_simp; done) | (intro w hSw; (try dsimp only at hSw); obtain ⟨q0, q1, q2, q3, q4, q5⟩ := hSw; go_simp; with_reducible rfl)
  try simp only [Act.put, List.setIfInBounds_toArray, List.set_cons_zero, List.set_cons_succ]
  refine takeD (i := 1) (v := ?v2) (some 6) rfl (by kernel_rfl) (by kernel_rfl) (by kernel_rfl) (fun _ _ _ h => h) (Or.inl ⟨by rfl, ?hy2⟩) (by assumption) (by rfl) ?rest2
  case hy2 => first | (intro w hSw; (try dsimp only at hSw); obtain ⟨q0, q1, q2, q3, q4, q5⟩ := hSw; go_simp; done) | (intro w hSw; (try dsimp only at hSw); obtain ⟨q0, q1, q2, q3, q4, q5⟩ := hSw; go_simp; with_reducible rfl)
  try simp only [Act.put, List.setIfInBounds_toArray, List.set_cons_zero, List.set_cons_succ]
  refine takeD (i := 2) (v := ?v3) (some 7) rfl (by kernel_rfl) (by kernel_rfl) (by kernel_rfl) (fun _ _ _ h => h) (Or.inl ⟨by rfl, ?hy3⟩) (by assumption) (by rfl) ?rest3
  case hy3 => first | (intro w hSw; (try dsimp only at hSw); obtain ⟨q0, q1, q2, q3, q4, q5⟩ := hSw; go_simp; done) | (intro w hSw; (try dsimp only at hSw); obtain ⟨q0, q1, q2, q3, q4, q5⟩ := hSw; go_simp; with_reducible rfl)
  try simp only [Act.put, List.setIfInBounds_toArray, List.set_cons_zero, List.set_cons_succ]
  refine takeD (i := 3) (v := ?v4) (some 8) rfl (by kernel_rfl) (by kernel_rfl) (by kernel_rfl) (fun _ _ _ h => h) (Or.inl ⟨by rfl, ?hy4⟩) (by assumption) (by rfl) ?rest4
  case hy4 => first | (intro w hSw; (try dsimp only at hSw); obtain ⟨q0, q1, q2, q3, q4, q5⟩ := hSw; go_simp; done) | (intro w hSw; (try dsimp only at hSw); obtain ⟨q0, q1, q2, q3, q4, q5⟩ := hSw; go_simp; with_reducible rfl)
  try simp only [Act.put, List.setIfInBounds_toArray, List.set_cons_zero, List.set_cons_succ]
  refine takeD (i := 5) (v := ?v5) (some 10) rfl (by kernel_rfl) (by kernel_rfl) (by kernel_rfl) (fun _ _ _ h => h) (Or.inl ⟨by rfl, ?hy5⟩) (by assumption) (by rfl) ?rest5
  case hy5 => first | (intro w hSw; (try dsimp only at hSw); obtain ⟨q0, q1, q2, q3, q4, q5⟩ := hSw; go_simp; done) | (intro w hSw; (try dsimp only at hSw); obtain ⟨q0, q1, q2, q3, q4, q5⟩ := hSw; go_simp; with_reducible rfl)
  try simp only [Act.put, List.setIfInBounds_toArray, List.set_cons_zero, List.set_cons_succ]
  refine takeD (i := 6) (v := ?v6) (some 11) rfl (by kernel_rfl) (by kernel_rfl) (by kernel_rfl) (fun _ _ _ h => h) (Or.inl ⟨by rfl, ?hy6⟩) (by assumption) (by rfl) ?rest6
  case hy6 => first | (intro w hSw; (try dsimp only at hSw); obtain ⟨q0, q1, q2, q3, q4, q5⟩ := hSw; go_simp; done) | (intro w hSw; (try dsimp only at hSw); obtain ⟨q0, q1, q2, q3, q4, q5⟩ := hSw; go_simp; with_reducible rfl)
  try simp only [Act.put, List.setIfInBounds_toArray, List.set_cons_zero, List.set_cons_succ]
  refine takeD (i := 8) (v := ?v7) (some 13) rfl (by kernel_rfl) (by kernel_rfl) (by kernel_rfl) (fun _ _ _ h => h) (Or.inl ⟨by rfl, ?hy7⟩) (by assumption) (by rfl) ?rest7
  case hy7 => first | (intro w hSw; (try dsimp only at hSw); obtain ⟨q0, q1, q2, q3, q4, q5⟩ := hSw; go_simp; done) | (intro w hSw; (try dsimp only at hSw); obtain ⟨q0, q1, q2, q3, q4, q5⟩ := hSw; go_simp; with_reducible rfl)
  try simp only [Act.put, List.setIfInBounds_toArray, List.set_cons_zero, List.set_cons_succ]
  refine takeD (i := 9) (v := ?v8) (some 14) rfl (by kernel_rfl) (by kernel_rfl) (by kernel_rfl) (fun _ _ _ h => h) (Or.inl ⟨by rfl, ?hy8⟩) (by assumption) (by rfl) ?rest8
  case hy8 => first | (intro w hSw; (try dsimp only at hSw); obtain ⟨q0, q1, q2, q3, q4, q5⟩ := hSw; go_simp; done) | (intro w hSw; (try dsimp only at hSw); obtain ⟨q0, q1, q2, q3, q4, q5⟩ := hSw; go_simp; with_reducible rfl)
  try simp only [Act.put, List.setIfInBounds_toArray, List.set_cons_zero, List.set_cons_succ]
  refine wpAnyH_ready (rs := [4]) (by kernel_rfl) (by simp) ?_
  refine AllReadyH.cons rfl (fun K hK => ?_) AllReadyH.nil
  go_simp
  refine (HC1.out _ (by (first | exact (Below.refl _ _).drew | exact Below.refl _ _))).mono ?_
  rintro e w1 ⟨v1, rfl, hr1, hb1⟩
  obtain ⟨nb, na, nL, nc, rfl⟩ := hr1.form
  have HB1 : Hid (Below wA.heap.size wA w1) := bafter (by (first | exact (Below.refl _ _).drew | exact Below.refl _ _)) hb1 (Nat.le_refl _)
  have HR1 := hide hr1
  clear hr1 hb1 hHeld
  go_wp2_with fail
  refine hK.out _ _ (HS.out _ HB1.out) (fun hHeld => ?_)
  clear hK K
  try simp only [Act.put, List.setIfInBounds_toArray, List.set_cons_zero, List.set_cons_succ]
  refine wpAnyH_ready (rs := [7]) (by kernel_rfl) (by simp) ?_
  refine AllReadyH.cons rfl (fun K hK => ?_) AllReadyH.nil
  go_simp
  refine (HT.out.tidies (by omega) w1 (bafter HBA.out HB1.out (Nat.le_refl _))).mono ?_
  rintro e w2 ⟨v2, M2, rfl, hr2, hg2, hn2, hc2, hb2⟩
  obtain ⟨sa, sL, sc, rfl⟩ := hr2.shape
  have HB2 := hide (bafter HB1.out hb2 (Nat.le_refl _))
  have HR2 := hide hr2
  have HG2 := hide hg2
  have HN2 := hide hn2
  have HC2 := hide hc2
  have HBS2 := hide hb2
  clear hr2 hg2 hn2 hc2 hb2 hHeld
  go_wp2_with fail
  refine hK.out _ _ (HS.out _ HB2.out) (fun hHeld => ?_)
  clear hK K
  try simp only [Act.put, List.setIfInBounds_toArray, List.set_cons_zero, List.set_cons_succ]
  refine wpAnyH_ready (rs := [10]) (by kernel_rfl) (by simp) ?_
  refine AllReadyH.cons rfl (fun K hK => ?_) AllReadyH.nil
  go_simp
  refine (HG.out.tidies (by omega) w2 (bafter HBA.out HB2.out (Nat.le_refl _))).mono ?_
  rintro e w3 ⟨v3, M3, rfl, hr3, hg3, hn3, hc3, hb3⟩
  obtain ⟨ta, tL, tc, rfl⟩ := hr3.shape
  have HB3 := hide (bafter HB2.out hb3 (Nat.le_refl _))
  have HR3 := hide hr3
  have HG3 := hide hg3
  have HN3 := hide hn3
  have HC3 := hide hc3
  have HBS3 := hide hb3
  clear hr3 hg3 hn3 hc3 hb3 hHeld
  go_wp2_with fail
  refine hK.out _ _ (HS.out _ HB3.out) (fun hHeld => ?_)
  clear hK K
  try simp only [Act.put, List.setIfInBounds_toArray, List.set_cons_zero, List.set_cons_succ]
  refine wpAnyH_ready (rs := [11]) (by kernel_rfl) (by simp) ?_
  refine AllReadyH.cons rfl (fun K hK => ?_) AllReadyH.nil
  go_simp
  have hla := len_of HN2.out HC2.out
  have hlb := len_of HN3.out HC3.out
  have hl1 := HT.out.len
  have hl2 := HG.out.len
  have bA : Bnd (k + 1000) (ps M2) := fun p hp => lt_up (nf_bnd HN2.out HC2.out HT.out.bnd.1 p hp) (by rw [ps_length]; omega)
  have bB : Bnd (k + 1000) (ps M3) := fun p hp => lt_up (nf_bnd HN3.out HC3.out HG.out.bnd.1 p hp) (by rw [ps_length]; omega)
  refine (merged_calls (k0 := k + 1000) (HR2.out.below HBS3.out) HR3.out (HG2.out.below HBS3.out) HG3.out HN2.out HN3.out bA bB (by omega) (by omega) (by omega)).mono ?_
  clear bA bB hla hlb hl1 hl2
  rintro e w4 ⟨v4, M4, rfl, ho4, hg4, hn4, hc4, hb4⟩
  obtain ⟨ua, uL, uc, rfl⟩ := ho4.row.shape
  have HB4 := hide (bafter HB3.out hb4 (Nat.le_refl _))
  have HR4 := hide ho4.row
  have HOW4 := hide ho4
  have HG4 := hide hg4
  have HN4 := hide hn4
  have HC4 := hide hc4
  have HBS4 := hide hb4
  clear ho4 hg4 hn4 hc4 hb4 hHeld
  go_wp2_with fail
  refine hK.out _ _ (HS.out _ HB4.out) (fun hHeld => ?_)
  clear hK K
  try simp only [Act.put, List.setIfInBounds_toArray, List.set_cons_zero, List.set_cons_succ]
  refine wpAnyH_ready (rs := [12]) (by kernel_rfl) (by simp) ?_
  refine AllReadyH.cons rfl (fun K hK => ?_) AllReadyH.nil
  go_simp
  refine madeF_calls.mono ?_
  rintro e w5 ⟨ra, rl, rc, rfl, hrow5, how5, hb5⟩
  have HOW5 : Hid (OwnT w.heap.size w5 (.agg #[.bool nb, .slice na nL nc, .slice ra rl rc]) M4) := ⟨_, _, _, _, _, rfl, (how5 _ w5 M4 (HOW4.out.below hb5)).down (Nat.le_trans HBA.out.size HB3.out.size)⟩
  clear how5
  have HB5 := hide (bafter HB4.out hb5 (Nat.le_refl _))
  have HR5 := hide (hrow5 w5 M4 (HR4.out.below hb5))
  have HBS5 := hide hb5
  clear hrow5 hb5 hHeld
  go_wp2_with fail
  refine hK.out _ _ (HS.out _ HB5.out) (fun hHeld => ?_)
  clear hK K
  try simp only [Act.put, List.setIfInBounds_toArray, List.set_cons_zero, List.set_cons_succ]
  have TZ4 := hide (TZ.out.keep HB5.out)
  obtain ⟨d0, d1, d2, f0, f1, f2⟩ := TZ4.out.every
  have HTR : Hid (TermR w5 (.agg #[.bool nb, .slice na nL nc, .slice ra rl rc]) (c + d) M4) := ⟨_, _, _, _, _, _, _, rfl, (((HR1.out.below HBS2.out).below HBS3.out).below HBS4.out).below HBS5.out, HR5.out, HG4.out.below HBS5.out, HN4.out⟩
  have HS5 : Hid (let X := put3 w5 (w.heap.size + 2) (.bool nb) (.slice na nL nc) (.slice ra rl rc); X.cell? ⟨w.heap.size, 0, none⟩ = some (.bool cn) ∧ X.cell? ⟨w.heap.size, 1, none⟩ = some (.slice ca cL cc) ∧ X.cell? ⟨w.heap.size, 2, none⟩ = some (.slice pa pl pc) ∧ X.cell? ⟨w.heap.size + 1, 0, none⟩ = some (.bool dn) ∧ X.cell? ⟨w.heap.size + 1, 1, none⟩ = some (.slice da dL dc) ∧ X.cell? ⟨w.heap.size + 1, 2, none⟩ = some (.slice qa ql qc)) := by
    show _ ∧ _ ∧ _ ∧ _ ∧ _ ∧ _
    rw [put3_cells (by omega), put3_cells (by omega), put3_cells (by omega), put3_cells (by omega), put3_cells (by omega), put3_cells (by omega)]
    exact HS.out _ HB5.out
  refine wpAnyH_ready (rs := [13]) (by kernel_rfl) (by simp) ?_
  refine AllReadyH.cons rfl (fun K hK => ?_) AllReadyH.nil
  go_simp
  refine hK.out _ _ (HS5.out) (fun hHeld => ?_)
  clear hK K hHeld
  try simp only [Act.put, List.setIfInBounds_toArray, List.set_cons_zero, List.set_cons_succ]
  refine wpAnyH_done (by kernel_rfl) ?_ _
  clear d0 d1 d2 f0 f1 f2
  go_wp2
  refine bodyPost_ret (results_term rfl rfl (TZ4.out.put _ _ _)) rfl ?_
  exact ⟨_, _, rfl, HTR.out.but (TZ4.out.but _ _ _), (fun u => by rw [HC4.out, HC2.out, HC3.out]), HOW5.out.put TZ4.out _ _ _, put3_below (bafter HBA.out HB5.out (Nat.le_refl _)) (by omega) _ _ _⟩
theorem ladd_calls {k : Nat} {w : World} {v u : Value} {c d : Int} {A B : List Pt} (h : TermA k w v c A) (g : TermA k w u d B) (hk : k ≤ 400000) :
    Calls Tryd.prog 7 #[v, u] w fun e w' => TermE w (c + d) (fun x => cf x (ps A) + cf x (ps B)) e w' :=
  (laddF_calls h g hk).mono fun e w' ⟨v, M, h1, h2, h3, _, h4⟩ => ⟨v, M, h1, h2, h3, h4⟩

end Go.Proofs.YtkdhcpfmlelfcaaDoor

namespace Go.Proofs.YtkdhcpfmlelfcaaDoor
set_option linter.unusedVariables false
set_option linter.unusedSimpArgs false
set_option maxRecDepth 100000
open Go Go.RowKit Go.Shelf Go.Lib

/-- A row of parts has no block of another kind. -/
theorem OwnP.apart {n₀ : Nat} {W : World} {v : Value} {M : List Pt} (h : OwnP n₀ W v M) {b : Nat} {cs : Array Value} {t : TypeId} {m : Nat × Nat} (hb : W.heap[b]? = some (.cells cs t m)) (ht : t ≠ 31) : v.ownBlock ≠ some b := by
  intro e
  rcases h.1.2 with ⟨hv, _⟩ | ⟨g, cap, cur, hv, h1, h2, _⟩
  · rw [hv] at e
    simp [Value.ownBlock] at e
  · rw [hv] at e
    simp only [Value.ownBlock, Option.some.injEq] at e
    subst e
    rw [hb] at h2
    simp only [Option.some.injEq, Obj.cells.injEq] at h2
    exact ht h2.2.1
theorem OwnP.isCells {n₀ : Nat} {W : World} {v : Value} {M : List Pt} (h : OwnP n₀ W v M) {j : Nat} {o : Obj} (hj : v.ownBlock = some j) (ho : W.heap[j]? = some o) : o.isCells = true := by
  rcases h.1.2 with ⟨hv, _⟩ | ⟨g, cap, cur, hv, h1, h2, _⟩
  · rw [hv] at hj
    simp [Value.ownBlock] at hj
  · rw [hv] at hj
    simp only [Value.ownBlock, Option.some.injEq] at hj
    subst hj
    rw [h2] at ho
    cases ho
    rfl

def times (z : Int) (l : Ps) : Ps := l.map fun p => (p.1, p.2 * z)
/-- What was gathered of the first so many parts; B5 holds the row, which lies below n2 or from n3 on; the parts lie between. -/
structure ScJ (B5 n1 n2 n3 : Nat) (T : World → Prop) (z : Int) (B0 : Nat) (v0 : Value) (M : List Pt) (i : Nat) (W : World) (X : List Pt) (oa : Option Addr) (oc : Nat) : Prop where
  box : Uno W B5 (.slice oa X.length oc) 25
  own : OwnP n1 W (.slice oa X.length oc) X
  off : ∀ g, (Value.slice oa X.length oc).ownBlock = some g → g < n2 ∨ n3 ≤ g
  good : GoodR W X
  ps : ps X = times z (Go.Proofs.YtkdhcpfmlelfcaaDoor.ps (M.take i))
  it : Uno W B0 v0 25
  row : OwnP n2 W v0 M
  lt : ∀ b, v0.ownBlock = some b → b < n3
  gd : GoodR W M
  oth : T W
theorem ScJ.cel {B5 n1 n2 n3 : Nat} {T : World → Prop} {z : Int} {B0 : Nat} {v0 : Value} {M : List Pt} {i : Nat} {W W' : World} {X : List Pt} {oa : Option Addr} {oc : Nat} (h : ScJ B5 n1 n2 n3 T z B0 v0 M i W X oa oc) (hT : ∀ W W', T W → Cel W W' → T W') (hc : Cel W W') : ScJ B5 n1 n2 n3 T z B0 v0 M i W' X oa oc :=
  ⟨hc.uno h.box, hc.own h.own, h.off, h.good.k32 hc.k32, h.ps, hc.uno h.it, hc.own h.row, h.lt, h.gd.k32 hc.k32, hT _ _ h.oth hc⟩
/-- One part more. -/
theorem ScJ.step {B5 n1 n2 n3 : Nat} {T : World → Prop} {z : Int} {B0 : Nat} {v0 : Value} {M : List Pt} {i : Nat} {W w5 w6 : World} {X : List Pt} {oa oa6 : Option Addr} {oc oc6 : Nat} {m : Pt} {rb : Bool} {rv : Value}
    (h : ScJ B5 n1 n2 n3 T z B0 v0 M i W X oa oc) (hm : M[i]? = some m) (h5 : Below W.heap.size W w5) (hn3 : n3 ≤ W.heap.size) (hne : B0 ≠ B5)
    (ho : OwnP n1 w6 (.slice oa6 (X ++ [(m.1, rb, rv, m.2.2.2 * z)]).length oc6) (X ++ [(m.1, rb, rv, m.2.2.2 * z)])) (hg : w5.grownBy w6 (Value.slice oa X.length oc).ownBlock)
    (ha : (Value.slice oa6 (X ++ [((m.1, rb, rv, m.2.2.2 * z) : Pt)]).length oc6).ownBlock = (Value.slice oa X.length oc).ownBlock ∨ (Value.slice oa6 (X ++ [((m.1, rb, rv, m.2.2.2 * z) : Pt)]).length oc6).ownBlock = some w5.heap.size)
    (hk : K32 w5 w6) (hr : Rng m.1 ∧ BRes w5 (.agg #[.bool rb, rv]) (m.2.2.2 * z))
    (hT : ∀ W' : World, (∀ b, b ≠ B5 → (Value.slice oa X.length oc).ownBlock ≠ some b → b < W.heap.size → W'.heap[b]? = W.heap[b]?) → T W') :
    ScJ B5 n1 n2 n3 T z B0 v0 M (i + 1) (w6.setCell ⟨B5, 0, none⟩ (.slice oa6 (X ++ [(m.1, rb, rv, m.2.2.2 * z)]).length oc6)) (X ++ [(m.1, rb, rv, m.2.2.2 * z)]) oa6 oc6 ∧ KeepsOthers W (w6.setCell ⟨B5, 0, none⟩ (.slice oa6 (X ++ [(m.1, rb, rv, m.2.2.2 * z)]).length oc6)) := by
  have hsame : ∀ b, (Value.slice oa X.length oc).ownBlock ≠ some b → b < W.heap.size → w6.heap[b]? = W.heap[b]? := fun b hb hl => (hg.block b (Nat.lt_of_lt_of_le hl h5.size) (fun e => hb e.symm)).trans (h5.block b hl)
  have hap : (Value.slice oa X.length oc).ownBlock ≠ some B5 := h.own.apart h.box (by decide)
  have hbox6 : Uno w6 B5 (.slice oa X.length oc) 25 := (hsame B5 hap h.box.lt).trans h.box
  have hsame7 : ∀ b, b ≠ B5 → (w6.setCell ⟨B5, 0, none⟩ (.slice oa6 (X ++ [((m.1, rb, rv, m.2.2.2 * z) : Pt)]).length oc6)).heap[b]? = w6.heap[b]? := fun b hb => heap_setCell_other w6 ⟨B5, 0, none⟩ b _ hb
  have hk7 : K32 w6 (w6.setCell ⟨B5, 0, none⟩ (.slice oa6 (X ++ [((m.1, rb, rv, m.2.2.2 * z) : Pt)]).length oc6)) := fun a x hx => (World.cell?_of_block (hsame7 a.block (hbox6.noInt.off hx))).trans hx
  have hap6 : (Value.slice oa6 (X ++ [((m.1, rb, rv, m.2.2.2 * z) : Pt)]).length oc6).ownBlock ≠ some B5 := ho.apart hbox6 (by decide)
  have hrow0 : ∀ b, v0.ownBlock = some b → b ≠ B5 ∧ (Value.slice oa X.length oc).ownBlock ≠ some b ∧ b < W.heap.size := fun b hb => by
    have h1 := h.row.lt hb
    have h2 := h.lt b hb
    refine ⟨fun e => ?_, fun e => ?_, h1.2⟩
    · subst e
      exact h.row.apart h.box (by decide) hb
    · have := h.off b e
      omega
  refine ⟨⟨hbox6.put _, ho.block (fun j hj => hsame7 j (fun e => hap6 (by rw [← e]; exact hj))), fun g hg2 => ?_, ?_, ?_, ?_, ?_, h.lt, ((h.gd.below h5).k32 hk).k32 hk7, hT _ (fun b h1 h2 h3 => (hsame7 b h1).trans (hsame b h2 h3))⟩, ?_⟩
  · rcases ha with e | e
    · rw [e] at hg2
      exact h.off g hg2
    · rw [e] at hg2
      cases hg2
      have := h5.size
      omega
  · refine GoodR.k32 ?_ hk7
    intro p hp
    rcases List.mem_append.1 hp with hp | hp
    · exact ((h.good.below h5).k32 hk) p hp
    · simp at hp
      subst hp
      exact ⟨hr.1, hr.2.k32 hk⟩
  · rw [ps_append, h.ps, List.take_add_one, hm]
    simp [times, Go.Proofs.YtkdhcpfmlelfcaaDoor.ps, pt]
  · exact (hsame7 B0 hne).trans ((hsame B0 (h.own.apart h.it (by decide)) h.it.lt).trans h.it)
  · exact h.row.block (fun b hb => by
      obtain ⟨x1, x2, x3⟩ := hrow0 b hb
      exact (hsame7 b x1).trans (hsame b x2 x3))
  · exact (KeepsOthers.mk h5.size (fun k o hk _ => (h5.block k (Array.getElem?_eq_some_iff.1 hk).1).trans hk)).trans ((KeepsOthers.of_grownBy hg (fun j o hj ho2 => ((h.own.below h5).isCells hj ho2))).trans (KeepsOthers.setCell _ _ _))
theorem TermR.cel {W W' : World} {v : Value} {c : Int} {M : List Pt} (h : TermR W v c M) (hb : Cel W W') : TermR W' v c M := by
  obtain ⟨cn, ca, cL, cc, pa, pl, pc, e, h1, h3, h4, h5⟩ := h
  exact ⟨cn, ca, cL, cc, pa, pl, pc, e, h1.k32 hb.k32, hb.row h3, h4.k32 hb.k32, h5⟩
theorem sg_not0 {z : Int} (h : z ≠ 0) : (sg z == 0) = false := by
  unfold sg
  rw [if_neg h]
  split <;> rfl
theorem times_nf {l : Ps} {z : Int} (h : NF l) (hz : z ≠ 0) : NF (times z l) := nf_scale h hz

set_option maxHeartbeats 2000000 in
theorem scale_zero {k : Nat} {w : World} {v u : Value} {c z : Int} {M : List Pt} (h : TermA k w v c M) (g : BArg w u z) (hz : z = 0) :
    Calls Tryd.prog 23 #[v, u] w fun e w' => TermE w (c * z) (fun x => cf x (ps M) * z) e w' := by
  subst hz
  obtain ⟨cn, ca, cL, cc, pa, pl, pc, rfl⟩ := h.form
  obtain ⟨dn, dm, n, rfl, hm, _⟩ := id g
  obtain ⟨da, dL, dc, rfl⟩ := hm.shape
  have tz := Thr.new2 w (.cells #[.bool cn, .slice ca cL cc, .slice pa pl pc] 27) (.cells #[.bool dn, .slice da dL dc] 24) (.bool false) (.slice none 0 0) (.slice none 0 0) 27
  have hba := bel3 w (.cells #[.bool cn, .slice ca cL cc, .slice pa pl pc] 27) (.cells #[.bool dn, .slice da dL dc] 24) (.cells #[.bool false, .slice none 0 0, .slice none 0 0] 27)
  have hs := sign_calls (g.below hba)
  have TZ := hide tz
  have HBA := hide hba
  rw [sg_zero] at hs
  clear tz hba hm g h
  go_enter Tryd.func23, Tryd.ntmps23
  go_wp2_with fail
  refine hs.mono ?_
  rintro e w1 ⟨rfl, hb1⟩
  have TZ1 := hide (TZ.out.keep hb1)
  obtain ⟨d0, d1, d2, f0, f1, f2⟩ := TZ1.out.every
  have HB1 := hide (bafter HBA.out hb1 (Nat.le_refl _))
  clear hs hb1
  go_wp2
  refine bodyPost_ret (results_term rfl rfl (TZ1.out.put _ _ _)) rfl ?_
  refine ⟨_, [], rfl, ?_, fun x => by simp [ps, cf], put3_below HB1.out (by omega) _ _ _⟩
  rw [Int.mul_zero]
  exact TermR.but ⟨_, _, _, _, none, 0, 0, rfl, ⟨_, rfl, Res.nil _⟩, ⟨none, 0, rfl, Nat.le_refl _, by simp [maxLen], fun j m hj => by simp at hj⟩, fun m hm => (by cases hm), NF.nil⟩ (TZ1.out.but _ _ _)

end Go.Proofs.YtkdhcpfmlelfcaaDoor

namespace Go.Proofs.YtkdhcpfmlelfcaaDoor
set_option linter.unusedVariables false
set_option linter.unusedSimpArgs false
set_option maxRecDepth 100000
open Go Go.RowKit Go.Shelf Go.Lib
attribute [local go_sem] Oper.semAt_some

def ScT (s : Nat) (b1 b2 b3 d1 d2 : Value) (W : World) : Prop := Thr W s b1 b2 b3 27 ∧ Two W (s + 1) d1 d2 24 ∧ Thr W (s + 2) (.bool false) (.slice none 0 0) (.slice none 0 0) 27
theorem ScT.cel {s : Nat} {b1 b2 b3 d1 d2 : Value} {W W' : World} (h : ScT s b1 b2 b3 d1 d2 W) (hc : Cel W W') : ScT s b1 b2 b3 d1 d2 W' := ⟨hc.thr h.1, hc.two h.2.1, hc.thr h.2.2⟩
theorem own_base {n m : Nat} {W : World} {v : Value} {M : List Pt} (h : OwnP n W v M) (hm : m ≤ n) : OwnP m W v M :=
  ⟨⟨h.1.1, h.1.2.imp id (fun ⟨g, cap, cur, hv, h1, h2⟩ => ⟨g, cap, cur, hv, Nat.le_trans hm h1, h2⟩)⟩, h.2⟩

set_option maxHeartbeats 8000000 in
theorem scale_some {k : Nat} {w : World} {v u : Value} {c z : Int} {M : List Pt} (h : TermA k w v c M) (g : BArg w u z) (hz : z ≠ 0) (hk : k ≤ 400000) :
    Calls Tryd.prog 23 #[v, u] w fun e w' => TermE w (c * z) (fun x => cf x (ps M) * z) e w' := by
  obtain ⟨cn, ca, cL, cc, pa, pl, pc, rfl⟩ := h.form
  obtain ⟨dn, dm, n, rfl, hm, hzz⟩ := id g
  clear hzz
  obtain ⟨da, dL, dc, rfl⟩ := hm.shape
  obtain rfl : pl = M.length := by
    obtain ⟨_, _, _, _, _, _, _, e, _, _, ⟨_, _, e2, _⟩, _⟩ := h
    cases e
    cases e2
    rfl
  have hlen := h.len
  generalize hLn : M.length = Ln at *
  have HLN := hide hLn
  have tb := ((Thr.new w (.bool cn) (.slice ca cL cc) (.slice pa Ln pc) 27).alloc (.cells #[.bool dn, .slice da dL dc] 24)).alloc (.cells #[.bool false, .slice none 0 0, .slice none 0 0] 27)
  have tc := (Two.new1 w (.cells #[.bool cn, .slice ca cL cc, .slice pa Ln pc] 27) (.bool dn) (.slice da dL dc) 24).alloc (.cells #[.bool false, .slice none 0 0, .slice none 0 0] 27)
  have tz := Thr.new2 w (.cells #[.bool cn, .slice ca cL cc, .slice pa Ln pc] 27) (.cells #[.bool dn, .slice da dL dc] 24) (.bool false) (.slice none 0 0) (.slice none 0 0) 27
  have hba := bel3 w (.cells #[.bool cn, .slice ca cL cc, .slice pa Ln pc] 27) (.cells #[.bool dn, .slice da dL dc] 24) (.cells #[.bool false, .slice none 0 0, .slice none 0 0] 27)
  have hs := sign_calls (g.below hba)
  have HT := hide h
  have HG := hide g
  have HBA := hide hba
  have HSC : Hid (ScT w.heap.size (.bool cn) (.slice ca cL cc) (.slice pa Ln pc) (.bool dn) (.slice da dL dc) (((w.alloc (.cells #[.bool cn, .slice ca cL cc, .slice pa Ln pc] 27)).alloc (.cells #[.bool dn, .slice da dL dc] 24)).alloc (.cells #[.bool false, .slice none 0 0, .slice none 0 0] 27))) := ⟨tb, tc, tz⟩
  generalize hwA : ((w.alloc (.cells #[.bool cn, .slice ca cL cc, .slice pa Ln pc] 27)).alloc (.cells #[.bool dn, .slice da dL dc] 24)).alloc (.cells #[.bool false, .slice none 0 0, .slice none 0 0] 27) = wA at *
  have HWA := hide hwA
  clear tb tc tz hba hm g h hwA hLn
  refine calls_of_marks Tryd.func23 rfl ?_
  simp only [Tryd.ntmps23, List.size_toArray, List.length_cons, List.length_nil, Nat.reduceAdd, Nat.reduceSub, Array.replicate_succ, Array.replicate_zero, List.push_toArray, List.append_toArray, List.nil_append, List.cons_append]
  go_wp2_with fail
  rw [HWA.out]
  refine hs.mono ?_
  rintro e w1 ⟨rfl, hb1⟩
  have z1 := sg_not0 hz
  generalize sg z = sz at *
  have hsc1 := HSC.out.cel (Cel.of hb1)
  have hb01 := bafter HBA.out hb1 (Nat.le_refl _)
  have hbm := bel w1 (.cells (Builtin.zeroCells zPart.cells Ln) 31)
  have hmk := make_parts w1 Ln (by omega)
  have hmade := own_made (n := w1.heap.size) w1 Ln (Nat.le_refl _) (by unfold maxLen; omega)
  have hszm : (w1.alloc (.cells (Builtin.zeroCells zPart.cells Ln) 31)).heap.size = w1.heap.size + 1 := by simp
  have m1 : (0 : Int) ≤ (Ln : Int) := by omega
  obtain ⟨c0, c1, c2, _, _, _⟩ := hsc1.1.every
  generalize hwm : w1.alloc (.cells (Builtin.zeroCells zPart.cells Ln) 31) = wm at *
  have hbx := bel wm (.cells #[.slice (some ⟨w1.heap.size, 0, none⟩) 0 Ln] 25)
  have hux : Uno (wm.alloc (.cells #[.slice (some ⟨w1.heap.size, 0, none⟩) 0 Ln] 25)) wm.heap.size (.slice (some ⟨w1.heap.size, 0, none⟩) 0 Ln) 25 := World.alloc_heap_new wm _
  have hown2 := hmade.below hbx
  have hsc2 := (hsc1.cel (Cel.of hbm)).cel (Cel.of hbx)
  have hb02 := bafter (bafter hb01 hbm (Nat.le_refl _)) hbx (Nat.le_refl _)
  have hvars := vars_calls (HT.out.below hb02) (by omega)
  obtain ⟨x0, x1, x2, _, _, _⟩ := hsc2.1.every
  have hsz2 : (wm.alloc (.cells #[.slice (some ⟨w1.heap.size, 0, none⟩) 0 Ln] 25)).heap.size = wm.heap.size + 1 := by simp
  generalize hw2 : wm.alloc (.cells #[.slice (some ⟨w1.heap.size, 0, none⟩) 0 Ln] 25) = w2 at *
  have HW2 := hide hw2
  have HSC2 := hide hsc2
  have HOWN2 := hide hown2
  have HUX := hide hux
  have HB02 := hide hb02
  have HB01 := hide hb01
  have HSZM := hide hszm
  have HSZ2 := hide hsz2
  clear hs hb1 hsc1 hb01 hbm hmade hwm hw2 hbx hux hown2 hsc2 hb02 hszm hsz2
  go_upto_region 4 with fail
  rw [HW2.out]
  go_wp2_with fail
  refine hvars.mono ?_
  clear hvars hmk c0 c1 c2
  rintro e w3 ⟨B0, M3, a3, l3, k3, rfl, hu3, hB0, ho3, hg3, hn3, hc3, hb3⟩
  have HU3 := hide hu3
  have HB0 := hide hB0
  have HO3 := hide ho3
  have HG3 := hide hg3
  have HN3 := hide hn3
  have HC3 := hide hc3
  have HB3 := hide hb3
  clear hu3 hB0 ho3 hg3 hn3 hc3 hb3 x0 x1 x2
  go_wp2_with fail
  refine (wpIn_wide (n := 3)).1 ?_
  have HL3 : Hid (M3.length ≤ 1000) := by
    have h1 := len_of HN3.out HC3.out
    have h2 := HLN.out
    show _ ≤ _
    omega
  have hstart : ∃ X oa oc, ScJ wm.heap.size w1.heap.size w2.heap.size w3.heap.size (ScT w.heap.size (.bool cn) (.slice ca cL cc) (.slice pa Ln pc) (.bool dn) (.slice da dL dc)) z B0 (.slice a3 l3 k3) M3 0 w3 X oa oc :=
    ⟨[], _, _, ⟨HUX.out.keep HB3.out, HOWN2.out.below HB3.out, fun g hg => (by
      simp only [Value.ownBlock, Option.some.injEq] at hg
      have := HSZM.out
      have := HSZ2.out
      omega), fun m hm => (by cases hm), by simp [times, ps], HU3.out, HO3.out, fun b hb => (HO3.out.lt hb).2, HG3.out, HSC2.out.cel (Cel.of HB3.out)⟩⟩
  refine range_knownC (gf := 48) (lb := #[.pointer (some ⟨B0, 0, none⟩)]) ?hg (enters_of Tryd.func48 (by kernel_rfl) rfl)
    (vars_hands B0 (.slice a3 l3 k3) M3 HG3.out.sl (by have := HL3.out; omega)) (fun _ => rfl)
    (fun i W => ∃ X oa oc, ScJ wm.heap.size w1.heap.size w2.heap.size w3.heap.size (ScT w.heap.size (.bool cn) (.slice ca cL cc) (.slice pa Ln pc) (.bool dn) (.slice da dL dc)) z B0 (.slice a3 l3 k3) M3 i W X oa oc)
    (fun _ _ _ => False) (fun i W W' ⟨X, oa, oc, hj⟩ hc => ⟨X, oa, oc, hj.cel (fun _ _ h c => h.cel c) hc⟩) (fun _ _ _ _ h _ => h.elim) w.heap.size w (Nat.le_refl _) (Nat.le_trans HB02.out.size HB3.out.size)
    (fun i W ⟨X, oa, oc, hj⟩ => ⟨hj.it.c0, hj.row.row⟩) ⟨hstart, bafter HB02.out HB3.out (Nat.le_refl _)⟩
    (fun i => .cells #[.bool (atP M3 i).2.1, (atP M3 i).2.2.1] 24) (fun _ => rfl) ?a1 ?assign ?body ?done ?stop
  case hg => rfl
  case assign =>
    intro l i B W K hi hB hK
    obtain ⟨ma, mL, mc, hsl⟩ := HG3.out.sl (atP M3 i) (by rw [atP_of (List.getElem?_eq_getElem hi)]; exact List.getElem_mem hi)
    unfold varV
    rw [hsl]
    have HSL := hide hsl
    have HBE := hide hB
    generalize hA1 : (atP M3 i).1 = vr at *
    generalize hA2 : (atP M3 i).2.1 = nb at *
    have HA1 := hide hA1
    have HA2 := hide hA2
    clear hsl hB hA1 hA2
    gi_wp2
    have hsl := HSL.out
    have hB := HBE.out
    have hA1 := HA1.out
    have hA2 := HA2.out
    rw [hB]
    subst hA1
    subst hA2
    rw [← hsl]
    exact hK
  case body =>
    rintro l i B W hi ⟨X, oa, oc, hj⟩ hbw hB hBlt
    obtain ⟨⟨vr, nb, mv, cz⟩, hm⟩ : ∃ m, M3[i]? = some m := ⟨_, List.getElem?_eq_getElem hi⟩
    obtain ⟨ma, mL, mc, e⟩ := HG3.out.sl _ (List.mem_of_getElem? hm)
    simp only at e
    subst e
    try dsimp only
    rw [atP_of hm] at hB ⊢
    have HJ := hide hj
    have HBW := hide hbw
    have HM := hide hm
    have HBB : Hid (Two W B (.bool nb) (.slice ma mL mc) 24) := hB
    have HBL := hide hBlt
    have hmem := hj.gd _ (List.mem_of_getElem? hm)
    have hcb : cz.natAbs < R ^ (k + 1000) := by
      have h1 := nf_bnd HN3.out HC3.out HT.out.bnd.1 (vr, cz) (List.mem_map.2 ⟨_, List.mem_of_getElem? hm, rfl⟩)
      exact lt_up h1 (by rw [ps_length]; have := HT.out.len; omega)
    have HMUL := hide (fun (Y : World) (hY : Below W.heap.size W Y) => bmul_calls ((hmem.2.arg hcb (by omega)).below hY) (HG.out.below (bafter hbw hY (Nat.le_refl _))))
    have HRG := hide hmem.1
    have HS : Hid (∀ Y, Below W.heap.size W Y → Y.cell? ⟨B, 0, none⟩ = some (.bool nb) ∧ Y.cell? ⟨B, 1, none⟩ = some (.slice ma mL mc) ∧ Y.cell? ⟨w.heap.size + 1, 0, none⟩ = some (.bool dn) ∧ Y.cell? ⟨w.heap.size + 1, 1, none⟩ = some (.slice da dL dc)) := fun Y hY => ⟨(HBB.out.keep hY).c0, (HBB.out.keep hY).c1, (hj.oth.2.1.keep hY).c0, (hj.oth.2.1.keep hY).c1⟩
    clear hj hbw hm hB hBlt hmem hcb
    gi_wp2
    refine round_any 1 l (by kernel_rfl) (no_defer (by simp)) (by rintro ⟨_, _, h⟩; exact h) (wpAny_of_held (S := fun Y => Y.cell? ⟨B, 0, none⟩ = some (.bool nb) ∧ Y.cell? ⟨B, 1, none⟩ = some (.slice ma mL mc) ∧ Y.cell? ⟨w.heap.size + 1, 0, none⟩ = some (.bool dn) ∧ Y.cell? ⟨w.heap.size + 1, 1, none⟩ = some (.slice da dL dc)) _ _ _ _ ?_)
    have hSS : (fun Y : World => Y.cell? ⟨B, 0, none⟩ = some (.bool nb) ∧ Y.cell? ⟨B, 1, none⟩ = some (.slice ma mL mc) ∧ Y.cell? ⟨w.heap.size + 1, 0, none⟩ = some (.bool dn) ∧ Y.cell? ⟨w.heap.size + 1, 1, none⟩ = some (.slice da dL dc)) W.drew := HS.out _ ((Below.refl _ _).drew)
    refine takeD (i := 1) (v := ?v1) (some 21) rfl (by kernel_rfl) (by kernel_rfl) (by kernel_rfl) (fun _ _ _ h => h) (Or.inl ⟨by rfl, ?hy1⟩) (by assumption) (by rfl) ?rest1
    case hy1 => first | (intro w hSw; (try dsimp only at hSw); obtain ⟨q0, q1, q2, q3⟩ := hSw; go_simp; done) | (intro w hSw; (try dsimp only at hSw); obtain ⟨q0, q1, q2, q3⟩ := hSw; go_simp; with_reducible rfl)
    try simp only [Act.put, List.setIfInBounds_toArray, List.set_cons_zero, List.set_cons_succ]
    refine takeD (i := 2) (v := ?v2) (some 22) rfl (by kernel_rfl) (by kernel_rfl) (by kernel_rfl) (fun _ _ _ h => h) (Or.inl ⟨by rfl, ?hy2⟩) (by assumption) (by rfl) ?rest2
    case hy2 => first | (intro w hSw; (try dsimp only at hSw); obtain ⟨q0, q1, q2, q3⟩ := hSw; go_simp; done) | (intro w hSw; (try dsimp only at hSw); obtain ⟨q0, q1, q2, q3⟩ := hSw; go_simp; with_reducible rfl)
    try simp only [Act.put, List.setIfInBounds_toArray, List.set_cons_zero, List.set_cons_succ]
    refine takeD (i := 3) (v := ?v3) (some 23) rfl (by kernel_rfl) (by kernel_rfl) (by kernel_rfl) (fun _ _ _ h => h) (Or.inl ⟨by rfl, ?hy3⟩) (by assumption) (by rfl) ?rest3
    case hy3 => first | (intro w hSw; (try dsimp only at hSw); obtain ⟨q0, q1, q2, q3⟩ := hSw; go_simp; done) | (intro w hSw; (try dsimp only at hSw); obtain ⟨q0, q1, q2, q3⟩ := hSw; go_simp; with_reducible rfl)
    try simp only [Act.put, List.setIfInBounds_toArray, List.set_cons_zero, List.set_cons_succ]
    refine wpAnyH_ready (rs := [0, 4]) (by kernel_rfl) (by simp) ?_
    refine AllReadyH.cons rfl (fun K hK => ?_) (AllReadyH.cons rfl (fun K hK => ?_) AllReadyH.nil)
    · have y0 := (HJ.out.box.keep ((Below.refl _ W).drew)).c0
      go_simp
      refine hK.out _ _ (HS.out _ ((Below.refl _ _).drew)) (fun hHeld => ?_)
      clear hK K
      try simp only [Act.put, List.setIfInBounds_toArray, List.set_cons_zero, List.set_cons_succ]
      clear y0
      refine wpAnyH_ready (rs := [4]) (by kernel_rfl) (by simp) ?_
      refine AllReadyH.cons rfl (fun K hK => ?_) AllReadyH.nil
      go_simp
      refine (HMUL.out _ (by (first | exact (Below.refl _ _).drew | exact Below.refl _ _))).mono ?_
      rintro e w4 ⟨v4, rfl, hr4, hb4⟩
      obtain ⟨rb, ra, rL, rc, rfl⟩ := hr4.form
      have HB4 : Hid (Below W.heap.size W w4) := bafter (by (first | exact (Below.refl _ _).drew | exact Below.refl _ _)) hb4 (Nat.le_refl _)
      have HR4 := hide hr4
      clear hr4 hb4
      go_wp2_with fail
      refine hK.out _ _ (HS.out _ HB4.out) (fun hHeld => ?_)
      clear hK K hSS
      try simp only [Act.put, List.setIfInBounds_toArray, List.set_cons_zero, List.set_cons_succ]
      refine takeD (i := 5) (v := ?v4) (some 25) rfl (by kernel_rfl) (by kernel_rfl) (by kernel_rfl) (fun _ _ _ h => h) (Or.inl ⟨by rfl, ?hy4⟩) (by assumption) (by rfl) ?rest4
      case hy4 => first | (intro w hSw; (try dsimp only at hSw); obtain ⟨q0, q1, q2, q3⟩ := hSw; go_simp; done) | (intro w hSw; (try dsimp only at hSw); obtain ⟨q0, q1, q2, q3⟩ := hSw; go_simp; with_reducible rfl)
      try simp only [Act.put, List.setIfInBounds_toArray, List.set_cons_zero, List.set_cons_succ]
      refine wpAnyH_ready (rs := [6]) (by kernel_rfl) (by simp) ?_
      refine AllReadyH.cons rfl (fun K hK => ?_) AllReadyH.nil
      go_simp
      have hbl := bel w4 (.cells #[.int .i64 vr, .bool rb, .slice ra rL rc] 31)
      have HB5 := hide (bafter HB4.out hbl (Nat.le_refl _))
      have HBL5 := hide hbl
      have HRL := hide (row_lit w4 vr rb (.slice ra rL rc) (cz * z))
      clear hbl
      generalize hw5 : w4.alloc (.cells #[.int .i64 vr, .bool rb, .slice ra rL rc] 31) = w5 at *
      clear hw5
      refine hK.out _ _ (HS.out _ HB5.out) (fun hHeld => ?_)
      clear hK K hHeld
      try simp only [Act.put, List.setIfInBounds_toArray, List.set_cons_zero, List.set_cons_succ]
      obtain ⟨v6, w6, hrun6, ho6, hg6, ha6, hk6⟩ := run_appP w5 w1.heap.size 25 _ X (HJ.out.own.below HB5.out) _ [(vr, rb, .slice ra rL rc, cz * z)] HRL.out (fun m hm => by simp at hm; subst hm; rfl) (by have h1 := congrArg List.length HJ.out.ps; have h2 := HL3.out; simp [ps, times] at h1; simp; omega) (by have h1 := HJ.out.box.lt; have h2 := HB5.out.size; have h3 := HSZM.out; omega)
      obtain ⟨oa6, oc6, rfl, _, _⟩ := ho6.len
      have hstep := HJ.out.step HM.out HB5.out (by have := HBB.out.lt'; have := HBL.out; omega) (by have := HB0.out; have := HSZ2.out; omega) ho6 hg6 ha6 hk6 ⟨HRG.out, HR4.out.below HBL5.out⟩ (fun W9 h9 => ⟨(h9 _ (by have := HUX.out; have := HJ.out.oth.1; intro e; rw [e] at this; exact absurd (HJ.out.box.symm.trans this) (by simp)) (HJ.out.own.apart HJ.out.oth.1 (by decide)) HJ.out.oth.1.lt).trans HJ.out.oth.1, (h9 _ (by have := HJ.out.oth.2.1; intro e; rw [e] at this; exact absurd (HJ.out.box.symm.trans this) (by simp)) (HJ.out.own.apart HJ.out.oth.2.1 (by decide)) HJ.out.oth.2.1.lt').trans HJ.out.oth.2.1, (h9 _ (by have := HJ.out.oth.2.2; intro e; rw [e] at this; exact absurd (HJ.out.box.symm.trans this) (by simp)) (HJ.out.own.apart HJ.out.oth.2.2 (by decide)) HJ.out.oth.2.2.lt).trans HJ.out.oth.2.2⟩)
      have HSTEP := hide hstep
      have HBF : Hid (Below w.heap.size w (w6.setCell ⟨wm.heap.size, 0, none⟩ (.slice oa6 (X ++ [((vr, rb, .slice ra rL rc, cz * z) : Pt)]).length oc6))) := ((bafter HBW.out HB5.out (Nat.le_refl _)).grown hg6 (Nat.le_trans HBW.out.size HB5.out.size) (fun j hj => Nat.le_trans HB01.out.size (HJ.out.own.lt hj).1)).setCell (p := ⟨wm.heap.size, 0, none⟩) (by have := HB01.out.size; have := HSZM.out; show _ ≤ wm.heap.size; omega) _
      have HS6 : Hid ((fun Y : World => Y.cell? ⟨B, 0, none⟩ = some (.bool nb) ∧ Y.cell? ⟨B, 1, none⟩ = some (.slice ma mL mc) ∧ Y.cell? ⟨w.heap.size + 1, 0, none⟩ = some (.bool dn) ∧ Y.cell? ⟨w.heap.size + 1, 1, none⟩ = some (.slice da dL dc)) w6) := by
        have h1 : Two w6 B (.bool nb) (.slice ma mL mc) 24 := (hg6.block B (Nat.lt_of_lt_of_le HBB.out.lt' HB5.out.size) (fun e => HJ.out.own.apart HBB.out (by decide) e.symm)).trans (HBB.out.keep HB5.out)
        have h2 : Two w6 (w.heap.size + 1) (.bool dn) (.slice da dL dc) 24 := (hg6.block _ (Nat.lt_of_lt_of_le HJ.out.oth.2.1.lt' HB5.out.size) (fun e => HJ.out.own.apart HJ.out.oth.2.1 (by decide) e.symm)).trans (HJ.out.oth.2.1.keep HB5.out)
        exact ⟨h1.c0, h1.c1, h2.c0, h2.c1⟩
      have hu6 : Uno w6 wm.heap.size (.slice oa X.length oc) 25 := (hg6.block _ (Nat.lt_of_lt_of_le HJ.out.box.lt HB5.out.size) (fun e => HJ.out.own.apart HJ.out.box (by decide) e.symm)).trans (HJ.out.box.keep HB5.out)
      have y0 := hu6.c0
      have y1 := hu6.f0 0
      have HS7 : Hid ((fun Y : World => Y.cell? ⟨B, 0, none⟩ = some (.bool nb) ∧ Y.cell? ⟨B, 1, none⟩ = some (.slice ma mL mc) ∧ Y.cell? ⟨w.heap.size + 1, 0, none⟩ = some (.bool dn) ∧ Y.cell? ⟨w.heap.size + 1, 1, none⟩ = some (.slice da dL dc)) (w6.setCell ⟨wm.heap.size, 0, none⟩ (.slice oa6 (X ++ [((vr, rb, .slice ra rL rc, cz * z) : Pt)]).length oc6))) := by
        obtain ⟨p0, p1, p2, p3⟩ := HS6.out
        have hn1 : B ≠ wm.heap.size := by
          intro e
          have h2 := HBB.out
          rw [e] at h2
          exact absurd (HJ.out.box.symm.trans h2) (by simp)
        have hn2 : w.heap.size + 1 ≠ wm.heap.size := by
          have := HSZM.out
          have := HSC2.out.2.1
          have h3 := HJ.out.oth.2.1
          intro e
          rw [e] at h3
          exact absurd (HJ.out.box.symm.trans h3) (by simp)
        refine ⟨?_, ?_, ?_, ?_⟩
        · exact (World.cell?_of_block (a := ⟨B, 0, none⟩) (heap_setCell_other w6 ⟨wm.heap.size, 0, none⟩ B _ hn1)).trans p0
        · exact (World.cell?_of_block (a := ⟨B, 1, none⟩) (heap_setCell_other w6 ⟨wm.heap.size, 0, none⟩ B _ hn1)).trans p1
        · exact (World.cell?_of_block (a := ⟨w.heap.size + 1, 0, none⟩) (heap_setCell_other w6 ⟨wm.heap.size, 0, none⟩ _ _ hn2)).trans p2
        · exact (World.cell?_of_block (a := ⟨w.heap.size + 1, 1, none⟩) (heap_setCell_other w6 ⟨wm.heap.size, 0, none⟩ _ _ hn2)).trans p3
      generalize hxl : (X ++ [((vr, rb, .slice ra rL rc, cz * z) : Pt)]).length = xl at *
      have HXL := hide hxl
      clear hstep ho6 hg6 ha6 hk6 hu6 hxl
      refine wpAnyH_ready (rs := [7]) (by kernel_rfl) (by simp) ?_
      refine AllReadyH.cons rfl (fun K hK => ?_) AllReadyH.nil
      refine Lib.wp_append_run _ _ _ _ _ rfl _ _ rfl rfl _ _ hrun6 ?_
      clear hrun6
      refine hK.out _ _ (HS6.out) (fun hHeld => ?_)
      clear hK K hHeld
      try simp only [Act.put, List.setIfInBounds_toArray, List.set_cons_zero, List.set_cons_succ]
      refine wpAnyH_ready (rs := [8]) (by kernel_rfl) (by simp) ?_
      refine AllReadyH.cons rfl (fun K hK => ?_) AllReadyH.nil
      go_simp
      refine hK.out _ _ (HS7.out) (fun hHeld => ?_)
      clear hK K hHeld
      try simp only [Act.put, List.setIfInBounds_toArray, List.set_cons_zero, List.set_cons_succ]
      refine wpAnyH_done (by kernel_rfl) ?_ _
      (try simp only [Exit.then])
      gi_wp2
      have e9 := HXL.out
      subst e9
      exact ⟨HSTEP.out.2.from _, ⟨_, _, _, HSTEP.out.1⟩, HBF.out⟩
    · go_simp
      refine (HMUL.out _ (by (first | exact (Below.refl _ _).drew | exact Below.refl _ _))).mono ?_
      rintro e w4 ⟨v4, rfl, hr4, hb4⟩
      obtain ⟨rb, ra, rL, rc, rfl⟩ := hr4.form
      have HB4 : Hid (Below W.heap.size W w4) := bafter (by (first | exact (Below.refl _ _).drew | exact Below.refl _ _)) hb4 (Nat.le_refl _)
      have HR4 := hide hr4
      clear hr4 hb4
      go_wp2_with fail
      refine hK.out _ _ (HS.out _ HB4.out) (fun hHeld => ?_)
      clear hK K hSS
      try simp only [Act.put, List.setIfInBounds_toArray, List.set_cons_zero, List.set_cons_succ]
      refine takeD (i := 5) (v := ?v5) (some 25) rfl (by kernel_rfl) (by kernel_rfl) (by kernel_rfl) (fun _ _ _ h => h) (Or.inl ⟨by rfl, ?hy5⟩) (by assumption) (by rfl) ?rest5
      case hy5 => first | (intro w hSw; (try dsimp only at hSw); obtain ⟨q0, q1, q2, q3⟩ := hSw; go_simp; done) | (intro w hSw; (try dsimp only at hSw); obtain ⟨q0, q1, q2, q3⟩ := hSw; go_simp; with_reducible rfl)
      try simp only [Act.put, List.setIfInBounds_toArray, List.set_cons_zero, List.set_cons_succ]
      refine wpAnyH_ready (rs := [0, 6]) (by kernel_rfl) (by simp) ?_
      refine AllReadyH.cons rfl (fun K hK => ?_) (AllReadyH.cons rfl (fun K hK => ?_) AllReadyH.nil)
      · have y0 := (HJ.out.box.keep HB4.out).c0
        go_simp
        refine hK.out _ _ (HS.out _ HB4.out) (fun hHeld => ?_)
        clear hK K
        try simp only [Act.put, List.setIfInBounds_toArray, List.set_cons_zero, List.set_cons_succ]
        clear y0
        refine wpAnyH_ready (rs := [6]) (by kernel_rfl) (by simp) ?_
        refine AllReadyH.cons rfl (fun K hK => ?_) AllReadyH.nil
        go_simp
        have hbl := bel w4 (.cells #[.int .i64 vr, .bool rb, .slice ra rL rc] 31)
        have HB5 := hide (bafter HB4.out hbl (Nat.le_refl _))
        have HBL5 := hide hbl
        have HRL := hide (row_lit w4 vr rb (.slice ra rL rc) (cz * z))
        clear hbl
        generalize hw5 : w4.alloc (.cells #[.int .i64 vr, .bool rb, .slice ra rL rc] 31) = w5 at *
        clear hw5
        refine hK.out _ _ (HS.out _ HB5.out) (fun hHeld => ?_)
        clear hK K hHeld
        try simp only [Act.put, List.setIfInBounds_toArray, List.set_cons_zero, List.set_cons_succ]
        obtain ⟨v6, w6, hrun6, ho6, hg6, ha6, hk6⟩ := run_appP w5 w1.heap.size 25 _ X (HJ.out.own.below HB5.out) _ [(vr, rb, .slice ra rL rc, cz * z)] HRL.out (fun m hm => by simp at hm; subst hm; rfl) (by have h1 := congrArg List.length HJ.out.ps; have h2 := HL3.out; simp [ps, times] at h1; simp; omega) (by have h1 := HJ.out.box.lt; have h2 := HB5.out.size; have h3 := HSZM.out; omega)
        obtain ⟨oa6, oc6, rfl, _, _⟩ := ho6.len
        have hstep := HJ.out.step HM.out HB5.out (by have := HBB.out.lt'; have := HBL.out; omega) (by have := HB0.out; have := HSZ2.out; omega) ho6 hg6 ha6 hk6 ⟨HRG.out, HR4.out.below HBL5.out⟩ (fun W9 h9 => ⟨(h9 _ (by have := HUX.out; have := HJ.out.oth.1; intro e; rw [e] at this; exact absurd (HJ.out.box.symm.trans this) (by simp)) (HJ.out.own.apart HJ.out.oth.1 (by decide)) HJ.out.oth.1.lt).trans HJ.out.oth.1, (h9 _ (by have := HJ.out.oth.2.1; intro e; rw [e] at this; exact absurd (HJ.out.box.symm.trans this) (by simp)) (HJ.out.own.apart HJ.out.oth.2.1 (by decide)) HJ.out.oth.2.1.lt').trans HJ.out.oth.2.1, (h9 _ (by have := HJ.out.oth.2.2; intro e; rw [e] at this; exact absurd (HJ.out.box.symm.trans this) (by simp)) (HJ.out.own.apart HJ.out.oth.2.2 (by decide)) HJ.out.oth.2.2.lt).trans HJ.out.oth.2.2⟩)
        have HSTEP := hide hstep
        have HBF : Hid (Below w.heap.size w (w6.setCell ⟨wm.heap.size, 0, none⟩ (.slice oa6 (X ++ [((vr, rb, .slice ra rL rc, cz * z) : Pt)]).length oc6))) := ((bafter HBW.out HB5.out (Nat.le_refl _)).grown hg6 (Nat.le_trans HBW.out.size HB5.out.size) (fun j hj => Nat.le_trans HB01.out.size (HJ.out.own.lt hj).1)).setCell (p := ⟨wm.heap.size, 0, none⟩) (by have := HB01.out.size; have := HSZM.out; show _ ≤ wm.heap.size; omega) _
        have HS6 : Hid ((fun Y : World => Y.cell? ⟨B, 0, none⟩ = some (.bool nb) ∧ Y.cell? ⟨B, 1, none⟩ = some (.slice ma mL mc) ∧ Y.cell? ⟨w.heap.size + 1, 0, none⟩ = some (.bool dn) ∧ Y.cell? ⟨w.heap.size + 1, 1, none⟩ = some (.slice da dL dc)) w6) := by
          have h1 : Two w6 B (.bool nb) (.slice ma mL mc) 24 := (hg6.block B (Nat.lt_of_lt_of_le HBB.out.lt' HB5.out.size) (fun e => HJ.out.own.apart HBB.out (by decide) e.symm)).trans (HBB.out.keep HB5.out)
          have h2 : Two w6 (w.heap.size + 1) (.bool dn) (.slice da dL dc) 24 := (hg6.block _ (Nat.lt_of_lt_of_le HJ.out.oth.2.1.lt' HB5.out.size) (fun e => HJ.out.own.apart HJ.out.oth.2.1 (by decide) e.symm)).trans (HJ.out.oth.2.1.keep HB5.out)
          exact ⟨h1.c0, h1.c1, h2.c0, h2.c1⟩
        have hu6 : Uno w6 wm.heap.size (.slice oa X.length oc) 25 := (hg6.block _ (Nat.lt_of_lt_of_le HJ.out.box.lt HB5.out.size) (fun e => HJ.out.own.apart HJ.out.box (by decide) e.symm)).trans (HJ.out.box.keep HB5.out)
        have y0 := hu6.c0
        have y1 := hu6.f0 0
        have HS7 : Hid ((fun Y : World => Y.cell? ⟨B, 0, none⟩ = some (.bool nb) ∧ Y.cell? ⟨B, 1, none⟩ = some (.slice ma mL mc) ∧ Y.cell? ⟨w.heap.size + 1, 0, none⟩ = some (.bool dn) ∧ Y.cell? ⟨w.heap.size + 1, 1, none⟩ = some (.slice da dL dc)) (w6.setCell ⟨wm.heap.size, 0, none⟩ (.slice oa6 (X ++ [((vr, rb, .slice ra rL rc, cz * z) : Pt)]).length oc6))) := by
          obtain ⟨p0, p1, p2, p3⟩ := HS6.out
          have hn1 : B ≠ wm.heap.size := by
            intro e
            have h2 := HBB.out
            rw [e] at h2
            exact absurd (HJ.out.box.symm.trans h2) (by simp)
          have hn2 : w.heap.size + 1 ≠ wm.heap.size := by
            have := HSZM.out
            have := HSC2.out.2.1
            have h3 := HJ.out.oth.2.1
            intro e
            rw [e] at h3
            exact absurd (HJ.out.box.symm.trans h3) (by simp)
          refine ⟨?_, ?_, ?_, ?_⟩
          · exact (World.cell?_of_block (a := ⟨B, 0, none⟩) (heap_setCell_other w6 ⟨wm.heap.size, 0, none⟩ B _ hn1)).trans p0
          · exact (World.cell?_of_block (a := ⟨B, 1, none⟩) (heap_setCell_other w6 ⟨wm.heap.size, 0, none⟩ B _ hn1)).trans p1
          · exact (World.cell?_of_block (a := ⟨w.heap.size + 1, 0, none⟩) (heap_setCell_other w6 ⟨wm.heap.size, 0, none⟩ _ _ hn2)).trans p2
          · exact (World.cell?_of_block (a := ⟨w.heap.size + 1, 1, none⟩) (heap_setCell_other w6 ⟨wm.heap.size, 0, none⟩ _ _ hn2)).trans p3
        generalize hxl : (X ++ [((vr, rb, .slice ra rL rc, cz * z) : Pt)]).length = xl at *
        have HXL := hide hxl
        clear hstep ho6 hg6 ha6 hk6 hu6 hxl
        refine wpAnyH_ready (rs := [7]) (by kernel_rfl) (by simp) ?_
        refine AllReadyH.cons rfl (fun K hK => ?_) AllReadyH.nil
        refine Lib.wp_append_run _ _ _ _ _ rfl _ _ rfl rfl _ _ hrun6 ?_
        clear hrun6
        refine hK.out _ _ (HS6.out) (fun hHeld => ?_)
        clear hK K hHeld
        try simp only [Act.put, List.setIfInBounds_toArray, List.set_cons_zero, List.set_cons_succ]
        refine wpAnyH_ready (rs := [8]) (by kernel_rfl) (by simp) ?_
        refine AllReadyH.cons rfl (fun K hK => ?_) AllReadyH.nil
        go_simp
        refine hK.out _ _ (HS7.out) (fun hHeld => ?_)
        clear hK K hHeld
        try simp only [Act.put, List.setIfInBounds_toArray, List.set_cons_zero, List.set_cons_succ]
        refine wpAnyH_done (by kernel_rfl) ?_ _
        (try simp only [Exit.then])
        gi_wp2
        have e9 := HXL.out
        subst e9
        exact ⟨HSTEP.out.2.from _, ⟨_, _, _, HSTEP.out.1⟩, HBF.out⟩
      · go_simp
        have hbl := bel w4 (.cells #[.int .i64 vr, .bool rb, .slice ra rL rc] 31)
        have HB5 := hide (bafter HB4.out hbl (Nat.le_refl _))
        have HBL5 := hide hbl
        have HRL := hide (row_lit w4 vr rb (.slice ra rL rc) (cz * z))
        clear hbl
        generalize hw5 : w4.alloc (.cells #[.int .i64 vr, .bool rb, .slice ra rL rc] 31) = w5 at *
        clear hw5
        refine hK.out _ _ (HS.out _ HB5.out) (fun hHeld => ?_)
        clear hK K hHeld
        try simp only [Act.put, List.setIfInBounds_toArray, List.set_cons_zero, List.set_cons_succ]
        have y0 := (HJ.out.box.keep HB5.out).c0
        refine wpAnyH_ready (rs := [0]) (by kernel_rfl) (by simp) ?_
        refine AllReadyH.cons rfl (fun K hK => ?_) AllReadyH.nil
        go_simp
        refine hK.out _ _ (HS.out _ HB5.out) (fun hHeld => ?_)
        clear hK K hHeld
        try simp only [Act.put, List.setIfInBounds_toArray, List.set_cons_zero, List.set_cons_succ]
        clear y0
        obtain ⟨v6, w6, hrun6, ho6, hg6, ha6, hk6⟩ := run_appP w5 w1.heap.size 25 _ X (HJ.out.own.below HB5.out) _ [(vr, rb, .slice ra rL rc, cz * z)] HRL.out (fun m hm => by simp at hm; subst hm; rfl) (by have h1 := congrArg List.length HJ.out.ps; have h2 := HL3.out; simp [ps, times] at h1; simp; omega) (by have h1 := HJ.out.box.lt; have h2 := HB5.out.size; have h3 := HSZM.out; omega)
        obtain ⟨oa6, oc6, rfl, _, _⟩ := ho6.len
        have hstep := HJ.out.step HM.out HB5.out (by have := HBB.out.lt'; have := HBL.out; omega) (by have := HB0.out; have := HSZ2.out; omega) ho6 hg6 ha6 hk6 ⟨HRG.out, HR4.out.below HBL5.out⟩ (fun W9 h9 => ⟨(h9 _ (by have := HUX.out; have := HJ.out.oth.1; intro e; rw [e] at this; exact absurd (HJ.out.box.symm.trans this) (by simp)) (HJ.out.own.apart HJ.out.oth.1 (by decide)) HJ.out.oth.1.lt).trans HJ.out.oth.1, (h9 _ (by have := HJ.out.oth.2.1; intro e; rw [e] at this; exact absurd (HJ.out.box.symm.trans this) (by simp)) (HJ.out.own.apart HJ.out.oth.2.1 (by decide)) HJ.out.oth.2.1.lt').trans HJ.out.oth.2.1, (h9 _ (by have := HJ.out.oth.2.2; intro e; rw [e] at this; exact absurd (HJ.out.box.symm.trans this) (by simp)) (HJ.out.own.apart HJ.out.oth.2.2 (by decide)) HJ.out.oth.2.2.lt).trans HJ.out.oth.2.2⟩)
        have HSTEP := hide hstep
        have HBF : Hid (Below w.heap.size w (w6.setCell ⟨wm.heap.size, 0, none⟩ (.slice oa6 (X ++ [((vr, rb, .slice ra rL rc, cz * z) : Pt)]).length oc6))) := ((bafter HBW.out HB5.out (Nat.le_refl _)).grown hg6 (Nat.le_trans HBW.out.size HB5.out.size) (fun j hj => Nat.le_trans HB01.out.size (HJ.out.own.lt hj).1)).setCell (p := ⟨wm.heap.size, 0, none⟩) (by have := HB01.out.size; have := HSZM.out; show _ ≤ wm.heap.size; omega) _
        have HS6 : Hid ((fun Y : World => Y.cell? ⟨B, 0, none⟩ = some (.bool nb) ∧ Y.cell? ⟨B, 1, none⟩ = some (.slice ma mL mc) ∧ Y.cell? ⟨w.heap.size + 1, 0, none⟩ = some (.bool dn) ∧ Y.cell? ⟨w.heap.size + 1, 1, none⟩ = some (.slice da dL dc)) w6) := by
          have h1 : Two w6 B (.bool nb) (.slice ma mL mc) 24 := (hg6.block B (Nat.lt_of_lt_of_le HBB.out.lt' HB5.out.size) (fun e => HJ.out.own.apart HBB.out (by decide) e.symm)).trans (HBB.out.keep HB5.out)
          have h2 : Two w6 (w.heap.size + 1) (.bool dn) (.slice da dL dc) 24 := (hg6.block _ (Nat.lt_of_lt_of_le HJ.out.oth.2.1.lt' HB5.out.size) (fun e => HJ.out.own.apart HJ.out.oth.2.1 (by decide) e.symm)).trans (HJ.out.oth.2.1.keep HB5.out)
          exact ⟨h1.c0, h1.c1, h2.c0, h2.c1⟩
        have hu6 : Uno w6 wm.heap.size (.slice oa X.length oc) 25 := (hg6.block _ (Nat.lt_of_lt_of_le HJ.out.box.lt HB5.out.size) (fun e => HJ.out.own.apart HJ.out.box (by decide) e.symm)).trans (HJ.out.box.keep HB5.out)
        have y0 := hu6.c0
        have y1 := hu6.f0 0
        have HS7 : Hid ((fun Y : World => Y.cell? ⟨B, 0, none⟩ = some (.bool nb) ∧ Y.cell? ⟨B, 1, none⟩ = some (.slice ma mL mc) ∧ Y.cell? ⟨w.heap.size + 1, 0, none⟩ = some (.bool dn) ∧ Y.cell? ⟨w.heap.size + 1, 1, none⟩ = some (.slice da dL dc)) (w6.setCell ⟨wm.heap.size, 0, none⟩ (.slice oa6 (X ++ [((vr, rb, .slice ra rL rc, cz * z) : Pt)]).length oc6))) := by
          obtain ⟨p0, p1, p2, p3⟩ := HS6.out
          have hn1 : B ≠ wm.heap.size := by
            intro e
            have h2 := HBB.out
            rw [e] at h2
            exact absurd (HJ.out.box.symm.trans h2) (by simp)
          have hn2 : w.heap.size + 1 ≠ wm.heap.size := by
            have := HSZM.out
            have := HSC2.out.2.1
            have h3 := HJ.out.oth.2.1
            intro e
            rw [e] at h3
            exact absurd (HJ.out.box.symm.trans h3) (by simp)
          refine ⟨?_, ?_, ?_, ?_⟩
          · exact (World.cell?_of_block (a := ⟨B, 0, none⟩) (heap_setCell_other w6 ⟨wm.heap.size, 0, none⟩ B _ hn1)).trans p0
          · exact (World.cell?_of_block (a := ⟨B, 1, none⟩) (heap_setCell_other w6 ⟨wm.heap.size, 0, none⟩ B _ hn1)).trans p1
          · exact (World.cell?_of_block (a := ⟨w.heap.size + 1, 0, none⟩) (heap_setCell_other w6 ⟨wm.heap.size, 0, none⟩ _ _ hn2)).trans p2
          · exact (World.cell?_of_block (a := ⟨w.heap.size + 1, 1, none⟩) (heap_setCell_other w6 ⟨wm.heap.size, 0, none⟩ _ _ hn2)).trans p3
        generalize hxl : (X ++ [((vr, rb, .slice ra rL rc, cz * z) : Pt)]).length = xl at *
        have HXL := hide hxl
        clear hstep ho6 hg6 ha6 hk6 hu6 hxl
        refine wpAnyH_ready (rs := [7]) (by kernel_rfl) (by simp) ?_
        refine AllReadyH.cons rfl (fun K hK => ?_) AllReadyH.nil
        refine Lib.wp_append_run _ _ _ _ _ rfl _ _ rfl rfl _ _ hrun6 ?_
        clear hrun6
        refine hK.out _ _ (HS6.out) (fun hHeld => ?_)
        clear hK K hHeld
        try simp only [Act.put, List.setIfInBounds_toArray, List.set_cons_zero, List.set_cons_succ]
        refine wpAnyH_ready (rs := [8]) (by kernel_rfl) (by simp) ?_
        refine AllReadyH.cons rfl (fun K hK => ?_) AllReadyH.nil
        go_simp
        refine hK.out _ _ (HS7.out) (fun hHeld => ?_)
        clear hK K hHeld
        try simp only [Act.put, List.setIfInBounds_toArray, List.set_cons_zero, List.set_cons_succ]
        refine wpAnyH_done (by kernel_rfl) ?_ _
        (try simp only [Exit.then])
        gi_wp2
        have e9 := HXL.out
        subst e9
        exact ⟨HSTEP.out.2.from _, ⟨_, _, _, HSTEP.out.1⟩, HBF.out⟩
  case done =>
    rintro D W hD ⟨X, oa, oc, hj⟩ hbw hK
    have HJ := hide hj
    have HBW := hide hbw
    have HK := hide hK
    have HD := hide hD
    have HPS : Hid (ps X = times z (ps M3)) := by
      have h1 := hj.ps
      rw [List.take_length] at h1
      exact h1
    have HMUL := hide (fun (Y : World) (hY : Below W.heap.size W Y) => bmul_calls (HT.out.num.below (bafter hbw hY (Nat.le_refl _))) (HG.out.below (bafter hbw hY (Nat.le_refl _))))
    have HOWN := hide hj.own
    have HBOX := hide hj.box
    clear hj hbw hK hD hstart
    generalize hxl : X.length = xl at *
    have HXL := hide hxl
    clear hxl
    have HS : Hid (∀ Y, Below W.heap.size W Y → Y.cell? ⟨w.heap.size, 0, none⟩ = some (.bool cn) ∧ Y.cell? ⟨w.heap.size, 1, none⟩ = some (.slice ca cL cc) ∧ Y.cell? ⟨w.heap.size + 1, 0, none⟩ = some (.bool dn) ∧ Y.cell? ⟨w.heap.size + 1, 1, none⟩ = some (.slice da dL dc) ∧ Y.cell? ⟨wm.heap.size, 0, none⟩ = some (.slice oa xl oc)) := fun Y hY => ⟨(HJ.out.oth.1.keep hY).c0, (HJ.out.oth.1.keep hY).c1, (HJ.out.oth.2.1.keep hY).c0, (HJ.out.oth.2.1.keep hY).c1, (HBOX.out.keep hY).c0⟩
    go_upto_region 8 with fail
    refine wp_region_held_drew (S := fun X : World => X.cell? ⟨w.heap.size, 0, none⟩ = some (.bool cn) ∧ X.cell? ⟨w.heap.size, 1, none⟩ = some (.slice ca cL cc) ∧ X.cell? ⟨w.heap.size + 1, 0, none⟩ = some (.bool dn) ∧ X.cell? ⟨w.heap.size + 1, 1, none⟩ = some (.slice da dL dc) ∧ X.cell? ⟨wm.heap.size, 0, none⟩ = some (.slice oa xl oc)) (by kernel_rfl) ?_ (fun hHeld => ?_)
    · exact HS.out _ (by (first | exact (Below.refl _ _).drew | exact Below.refl _ _))
    refine takeD (i := 0) (v := ?v101) (some 28) rfl (by kernel_rfl) (by kernel_rfl) (by kernel_rfl) (fun _ _ _ h => h) (Or.inl ⟨by rfl, ?hy101⟩) (by assumption) (by rfl) ?rest101
    case hy101 => first | (intro w hSw; (try dsimp only at hSw); obtain ⟨q0, q1, q2, q3, q4⟩ := hSw; go_simp; done) | (intro w hSw; (try dsimp only at hSw); obtain ⟨q0, q1, q2, q3, q4⟩ := hSw; go_simp; with_reducible rfl)
    try simp only [Act.put, List.setIfInBounds_toArray, List.set_cons_zero, List.set_cons_succ]
    refine takeD (i := 1) (v := ?v102) (some 29) rfl (by kernel_rfl) (by kernel_rfl) (by kernel_rfl) (fun _ _ _ h => h) (Or.inl ⟨by rfl, ?hy102⟩) (by assumption) (by rfl) ?rest102
    case hy102 => first | (intro w hSw; (try dsimp only at hSw); obtain ⟨q0, q1, q2, q3, q4⟩ := hSw; go_simp; done) | (intro w hSw; (try dsimp only at hSw); obtain ⟨q0, q1, q2, q3, q4⟩ := hSw; go_simp; with_reducible rfl)
    try simp only [Act.put, List.setIfInBounds_toArray, List.set_cons_zero, List.set_cons_succ]
    refine takeD (i := 2) (v := ?v103) (some 30) rfl (by kernel_rfl) (by kernel_rfl) (by kernel_rfl) (fun _ _ _ h => h) (Or.inl ⟨by rfl, ?hy103⟩) (by assumption) (by rfl) ?rest103
    case hy103 => first | (intro w hSw; (try dsimp only at hSw); obtain ⟨q0, q1, q2, q3, q4⟩ := hSw; go_simp; done) | (intro w hSw; (try dsimp only at hSw); obtain ⟨q0, q1, q2, q3, q4⟩ := hSw; go_simp; with_reducible rfl)
    try simp only [Act.put, List.setIfInBounds_toArray, List.set_cons_zero, List.set_cons_succ]
    refine takeD (i := 4) (v := ?v104) (some 32) rfl (by kernel_rfl) (by kernel_rfl) (by kernel_rfl) (fun _ _ _ h => h) (Or.inl ⟨by rfl, ?hy104⟩) (by assumption) (by rfl) ?rest104
    case hy104 => first | (intro w hSw; (try dsimp only at hSw); obtain ⟨q0, q1, q2, q3, q4⟩ := hSw; go_simp; done) | (intro w hSw; (try dsimp only at hSw); obtain ⟨q0, q1, q2, q3, q4⟩ := hSw; go_simp; with_reducible rfl)
    try simp only [Act.put, List.setIfInBounds_toArray, List.set_cons_zero, List.set_cons_succ]
    refine wpAnyH_ready (rs := [3]) (by kernel_rfl) (by simp) ?_
    refine AllReadyH.cons rfl (fun K hK => ?_) AllReadyH.nil
    go_simp
    refine (HMUL.out _ (by (first | exact (Below.refl _ _).drew | exact Below.refl _ _))).mono ?_
    rintro e w4 ⟨v4, rfl, hr4, hb4⟩
    obtain ⟨rb, ra, rL, rc, rfl⟩ := hr4.form
    have HB4 : Hid (Below W.heap.size W w4) := bafter (by (first | exact (Below.refl _ _).drew | exact Below.refl _ _)) hb4 (Nat.le_refl _)
    have HR4 := hide hr4
    clear hr4 hb4
    go_wp2_with fail
    refine hK.out _ _ (HS.out _ HB4.out) (fun hHeld => ?_)
    clear hK K
    try simp only [Act.put, List.setIfInBounds_toArray, List.set_cons_zero, List.set_cons_succ]
    refine wpAnyH_ready (rs := [5]) (by kernel_rfl) (by simp) ?_
    refine AllReadyH.cons rfl (fun K hK => ?_) AllReadyH.nil
    go_simp
    refine made_calls.mono ?_
    rintro e w5 ⟨ta, tl, tc, rfl, hrow5, hb5⟩
    have HB5 := hide (bafter HB4.out hb5 (Nat.le_refl _))
    have HR5 : Hid (RowP w5 (.slice ta tl tc) X) := hrow5 w5 X (by have h1 := HXL.out; subst h1; exact (HOWN.out.below HB5.out).row)
    have HR45 := hide (HR4.out.below hb5)
    clear hrow5 hb5 hHeld
    go_wp2_with fail
    refine hK.out _ _ (HS.out _ HB5.out) (fun hHeld => ?_)
    clear hK K
    try simp only [Act.put, List.setIfInBounds_toArray, List.set_cons_zero, List.set_cons_succ]
    have TZ5 := hide (HJ.out.oth.2.2.keep HB5.out)
    obtain ⟨d0, d1, d2, f0, f1, f2⟩ := TZ5.out.every
    have HTR : Hid (TermR w5 (.agg #[.bool rb, .slice ra rL rc, .slice ta tl tc]) (c * z) X) := ⟨_, _, _, _, _, _, _, rfl, HR45.out, HR5.out, HJ.out.good.below HB5.out, by rw [HPS.out]; exact times_nf HN3.out hz⟩
    have hne : wm.heap.size ≠ w.heap.size + 2 := by
      have h1 := HJ.out.oth.2.2
      intro e
      rw [← e] at h1
      exact absurd (HBOX.out.symm.trans h1) (by simp)
    have HS6 : Hid (let X := put3 w5 (w.heap.size + 2) (.bool rb) (.slice ra rL rc) (.slice ta tl tc); X.cell? ⟨w.heap.size, 0, none⟩ = some (.bool cn) ∧ X.cell? ⟨w.heap.size, 1, none⟩ = some (.slice ca cL cc) ∧ X.cell? ⟨w.heap.size + 1, 0, none⟩ = some (.bool dn) ∧ X.cell? ⟨w.heap.size + 1, 1, none⟩ = some (.slice da dL dc) ∧ X.cell? ⟨wm.heap.size, 0, none⟩ = some (.slice oa xl oc)) := by
      show _ ∧ _ ∧ _ ∧ _ ∧ _
      rw [put3_cells (by omega), put3_cells (by omega), put3_cells (by omega), put3_cells (by omega), put3_cells hne]
      exact HS.out _ HB5.out
    clear hne
    refine wpAnyH_ready (rs := [6]) (by kernel_rfl) (by simp) ?_
    refine AllReadyH.cons rfl (fun K hK => ?_) AllReadyH.nil
    go_simp
    refine hK.out _ _ (HS6.out) (fun hHeld => ?_)
    clear hK K hHeld
    try simp only [Act.put, List.setIfInBounds_toArray, List.set_cons_zero, List.set_cons_succ]
    refine wpAnyH_done (by kernel_rfl) ?_ _
    clear d0 d1 d2 f0 f1 f2
    go_wp2
    have hK' : (put3 w5 (w.heap.size + 2) (.bool rb) (.slice ra rL rc) (.slice ta tl tc)).heap[D]? = some (.deferred (some [])) := by
      have hDlt := (Array.getElem?_eq_some_iff.1 HK.out).1
      have hk5 := (HB5.out.block D hDlt).trans HK.out
      refine (put3_other ?_ _ _ _).trans hk5
      intro e
      have h1 := TZ5.out
      rw [← e] at h1
      exact absurd (h1.symm.trans hk5) (by simp)
    refine ⟨by simp, .inl ⟨_, _, rfl, run_takeDeferred hK', ?_⟩⟩
    have hcel := cel_put (.deferred none) hK' rfl
    refine ⟨_, results_term rfl rfl (hcel.thr (TZ5.out.put _ _ _)), ?_⟩
    refine ⟨_, X, rfl, (HTR.out.but (TZ5.out.but _ _ _)).cel hcel, fun x => ?_, ?_⟩
    · rw [HPS.out, times, cf_scale, HC3.out]
    · exact (put3_below (bafter HBW.out HB5.out (Nat.le_refl _)) (by omega) _ _ _).trans (belowK_b (w := w) (Nat.le_refl _) _ D _ _ (by have h1 := HD.out; have h2 := HB02.out.size; have h3 := HB3.out.size; omega) hK' rfl rfl)
  case stop => exact fun D c k W hD hk h hb hK => h.elim

theorem scale_calls {k : Nat} {w : World} {v u : Value} {c z : Int} {M : List Pt} (h : TermA k w v c M) (g : BArg w u z) (hk : k ≤ 400000) :
    Calls Tryd.prog 23 #[v, u] w fun e w' => TermE w (c * z) (fun x => cf x (ps M) * z) e w' := by
  by_cases hz : z = 0
  · exact scale_zero h g hz
  · exact scale_some h g hz hk

end Go.Proofs.YtkdhcpfmlelfcaaDoor

namespace Go.Proofs.YtkdhcpfmlelfcaaDoor
set_option linter.unusedVariables false
set_option linter.unusedSimpArgs false
set_option maxRecDepth 100000
open Go Go.RowKit Go.Shelf Go.Lib

theorem TermA.up {k k' : Nat} {w : World} {v : Value} {c : Int} {M : List Pt} (h : TermA k w v c M) (hk : k ≤ k') : TermA k' w v c M := by
  obtain ⟨cn, ca, cL, cc, pa, pl, pc, e, h1, h2, h3, h4, h5, h6, h7⟩ := h
  exact ⟨cn, ca, cL, cc, pa, pl, pc, e, h1, lt_up h2 hk, h3, h4, fun p hp => lt_up (h5 p hp) hk, h6, h7⟩
theorem bnd_times {l : Ps} {k j : Nat} {z : Int} (h : Bnd k l) (hz : z.natAbs < R ^ j) : Bnd (k + j) (times z l) := fun p hp => by
  obtain ⟨q, hq, rfl⟩ := List.mem_map.1 hp
  exact bl_mul (h q hq) hz
theorem TermR.nf {W : World} {v : Value} {c : Int} {M : List Pt} (h : TermR W v c M) : NF (ps M) := by
  obtain ⟨cn, ca, cL, cc, pa, pl, pc, e, h1, h3, h4, h5⟩ := h
  exact h5
theorem TermR.bounded {k : Nat} {W : World} {v : Value} {c : Int} {M : List Pt} {l : Ps} (h : TermR W v c M) (hc : ∀ x, cf x (ps M) = cf x l) (hb : Bnd k l) (hl : l.length ≤ 1000) (hcb : c.natAbs < R ^ k) (hk : k ≤ 400000) : TermA (k + l.length) W v c M := by
  have h1 := nf_length h.nf hc
  rw [ps_length] at h1
  exact h.arg (lt_up hcb (by omega)) (nf_bnd h.nf hc hb) (by omega) (by omega)
theorem bnd_append {k : Nat} {a b : Ps} (h : Bnd k a) (g : Bnd k b) : Bnd k (a ++ b) := fun p hp => (List.mem_append.1 hp).elim (h p) (g p)
theorem bnd_up {k k' : Nat} {a : Ps} (h : Bnd k a) (hk : k ≤ k') : Bnd k' a := fun p hp => lt_up (h p hp) hk
theorem times_length (z : Int) (l : Ps) : (times z l).length = l.length := by simp [times]
theorem one_lt_R {z : Int} (h : z.natAbs ≤ 1) : z.natAbs < R ^ 1 := by
  have : 2 ≤ R ^ 1 := by rw [Nat.pow_one, R_eq]; decide
  omega

end Go.Proofs.YtkdhcpfmlelfcaaDoor

namespace Go.Proofs.YtkdhcpfmlelfcaaDoor
set_option linter.unusedVariables false
set_option linter.unusedSimpArgs false
set_option maxRecDepth 100000
open Go Go.RowKit Go.Shelf Go.Lib

/-- A builder in block b that holds bytes, in a row of its own from B on. -/
def BdP (B b : Nat) (p v : Value) (l : List UInt8) (W : World) : Prop := W.heap[b]? = some (.cells #[p, v] 60 (0, 0)) ∧ W.ownsRow B 5 1 v (byteCells l).length (byteCells l)
def Bd (B b : Nat) (l : List UInt8) (W : World) : Prop := ∃ p v, (p = .pointer none ∨ p = .pointer (some ⟨b, 0, none⟩)) ∧ BdP B b p v l W
/-- All blocks below B but b are as they were, and so is whatever is no cells. -/
structure BtB (B b : Nat) (w w' : World) : Prop where
  os : w'.os = w.os
  tape : w'.tape = w.tape
  output : w'.output = w.output
  size : w.heap.size ≤ w'.heap.size
  block : ∀ k, k < B → k ≠ b → w'.heap[k]? = w.heap[k]?
  oth : KeepsOthers w w'
  kin : ∀ k cs t m, w.heap[k]? = some (.cells cs t m) → t ≠ 5 → k ≠ b → w'.heap[k]? = some (.cells cs t m)
theorem BtB.refl (B b : Nat) (w : World) : BtB B b w w := ⟨rfl, rfl, rfl, Nat.le_refl _, fun _ _ _ => rfl, KeepsOthers.refl _, fun _ _ _ _ h _ _ => h⟩
theorem BtB.trans {B b : Nat} {x y z : World} (h : BtB B b x y) (k : BtB B b y z) : BtB B b x z := ⟨k.os.trans h.os, k.tape.trans h.tape, k.output.trans h.output, Nat.le_trans h.size k.size, fun i hi hn => (k.block i hi hn).trans (h.block i hi hn), h.oth.trans k.oth, fun i cs t m hi ht hn => k.kin i cs t m (h.kin i cs t m hi ht hn) ht hn⟩
theorem BtB.of {B b : Nat} {w w' : World} (h : Below w.heap.size w w') (hB : B ≤ w.heap.size) : BtB B b w w' := ⟨h.os, h.tape, h.output, h.size, fun k hk _ => h.block k (by omega), ⟨h.size, fun k o hk _ => (h.block k (Array.getElem?_eq_some_iff.1 hk).1).trans hk⟩, fun k cs t m hk _ _ => (h.block k (Array.getElem?_eq_some_iff.1 hk).1).trans hk⟩
theorem BtB.below {B b n : Nat} {w w' : World} (h : BtB B b w w') (hn : n ≤ B) (hb : n ≤ b) : Below n w w' := ⟨h.os, h.tape, h.output, h.size, fun k hk => h.block k (by omega) (by omega)⟩
theorem BtB.cell {B b : Nat} {w w' : World} (h : BtB B b w w') {a : Addr} (ha : a.block < B) (hb : a.block ≠ b) : w'.cell? a = w.cell? a := World.cell?_of_block (h.block _ ha hb)
theorem BdP.lt {B b : Nat} {p v : Value} {l : List UInt8} {W : World} (h : BdP B b p v l W) : b < W.heap.size := (Array.getElem?_eq_some_iff.1 h.1).1
theorem Bd.lt {B b : Nat} {l : List UInt8} {W : World} (h : Bd B b l W) : b < W.heap.size := by
  obtain ⟨p, v, _, h⟩ := h
  exact h.lt
theorem BdP.apart {B b : Nat} {p v : Value} {l : List UInt8} {W : World} (h : BdP B b p v l W) : v.ownBlock ≠ some b := Lib.ownBlock_ne h.2 h.1 (by decide)
theorem BdP.cel {B b : Nat} {p v : Value} {l : List UInt8} {W W' : World} (h : BdP B b p v l W) (hc : Cel W W') : BdP B b p v l W' := by
  refine ⟨hc _ _ h.1 rfl, h.2.1, ?_⟩
  rcases h.2.2 with hn | ⟨g, cap, cur, hv, h1, h2, h3⟩
  · exact .inl hn
  · exact .inr ⟨g, cap, cur, hv, h1, hc _ _ h2 rfl, h3⟩
theorem Bd.cel {B b : Nat} {l : List UInt8} {W W' : World} (h : Bd B b l W) (hc : Cel W W') : Bd B b l W' := by
  obtain ⟨p, v, hp, h⟩ := h
  exact ⟨p, v, hp, h.cel hc⟩
theorem Bd.below {B b : Nat} {l : List UInt8} {W W' : World} (h : Bd B b l W) (hc : Below W.heap.size W W') : Bd B b l W' := h.cel (Cel.of hc)
theorem bd_new (B : Nat) (w : World) : Bd B w.heap.size [] (w.alloc (.cells #[.pointer none, .slice none 0 0] 60)) := ⟨_, _, .inl rfl, World.alloc_heap_new w _, World.ownsRow_nil _ _ _ _⟩
/-- The row's base may be any, while there is none. -/
theorem Bd.base {B b C : Nat} {W : World} (h : Bd B b [] W) : Bd C b [] W ∨ ∃ p v g, BdP B b p v [] W ∧ v.ownBlock = some g := by
  obtain ⟨p, v, hp, h1, h2, h3⟩ := h
  rcases h3 with ⟨hv, hn⟩ | ⟨g, cap, cur, hv, h4⟩
  · refine .inl ⟨p, v, hp, h1, h2, .inl ⟨hv, hn⟩⟩
  · exact .inr ⟨p, v, g, ⟨h1, h2, .inr ⟨g, cap, cur, hv, h4⟩⟩, by rw [hv]; rfl⟩
theorem Bd.lib {B b : Nat} {l : List UInt8} {W : World} (h : Bd B b l W) (hB : b ≤ B) : Lib.IsBuilder 60 5 b b (byteCells l) W := by
  obtain ⟨p, v, hp, h1, h2⟩ := h
  have h3 : W.ownsRow b 5 1 v (byteCells l).length (byteCells l) := ⟨h2.1, h2.2.imp id (fun ⟨g, cap, cur, hv, h4, h5⟩ => ⟨g, cap, cur, hv, Nat.le_trans hB h4, h5⟩)⟩
  have h4 : v.ownBlock ≠ some b := Lib.ownBlock_ne h2 h1 (by decide)
  rcases hp with rfl | rfl
  · exact .inl ⟨Nat.le_refl _, v, h1, h3, h4⟩
  · exact .inr ⟨Nat.le_refl _, v, h1, h3, h4⟩

theorem sizeBld : (Tryd.prog.info? 60).map (fun i => i.size) = some 2 := by kernel_rfl
theorem infoByt : (Tryd.prog.info? 5).map (fun i => (i.zero, i.size, i.bytes)) = some (some (.int .u8 0), 1, 1) := by kernel_rfl

set_option maxHeartbeats 1000000 in
theorem copy_used (b : Nat) (w : World) (h0 : w.cell? ⟨b, 0, none⟩ = some (.pointer (some ⟨b, 0, none⟩))) :
    Calls Tryd.prog 51 #[.pointer (some ⟨b, 0, none⟩)] w fun e w' => e = .returned (.tuple #[]) ∧ w' = w := by
  obtain ⟨j, hj, _⟩ := Option.map_eq_some_iff.1 sizeBld
  go_enter Tryd.func51, Tryd.ntmps51
  go_wp2
  rw [Lib.run_neq_ptr_same w _ Tryd.underlying57 hj]
  go_wp2
  go_end0
  exact ⟨rfl, rfl⟩

set_option maxHeartbeats 1000000 in
theorem copy_fresh (b : Nat) (w : World) (h0 : w.cell? ⟨b, 0, none⟩ = some (.pointer none)) (hsh : w.shape? b = some (60, 2)) (hfz : w.frozen? ⟨b, 0, none⟩ = false) :
    Calls Tryd.prog 51 #[.pointer (some ⟨b, 0, none⟩)] w fun e w' => e = .returned (.tuple #[]) ∧ w' = w.setCell ⟨b, 0, none⟩ (.pointer (some ⟨b, 0, none⟩)) := by
  obtain ⟨j, hj, hjs⟩ := Option.map_eq_some_iff.1 sizeBld
  go_enter Tryd.func51, Tryd.ntmps51
  go_wp2
  rw [Lib.run_to_unsafe w ⟨b, 0, none⟩ Tryd.underlying57 Tryd.underlying101 hj (by rw [hjs]; decide) hsh (Nat.zero_lt_succ 1)]
  simp only [Result.andThen]
  rw [Oper.upon_value]
  go_wp2
  rw [run_callFunc_extern Tryd.func65 (by kernel_rfl) (by kernel_rfl) (by kernel_rfl) (e := Extern.AbiNoEscape.same) (by kernel_rfl)]
  rw [Lib.run_noEscape]
  simp only [Result.andThen]
  rw [Oper.upon_value]
  go_wp2
  rw [Lib.run_from_unsafe w ⟨b, 0, none⟩ Tryd.underlying101 Tryd.underlying57 hj hsh (by kernel_rfl)]
  simp only [Result.andThen]
  rw [Oper.upon_value]
  go_wp2
  go_end0
  exact ⟨rfl, rfl⟩

theorem copy_calls {B b : Nat} {l : List UInt8} {w : World} (h : Bd B b l w) :
    Calls Tryd.prog 51 #[.pointer (some ⟨b, 0, none⟩)] w fun e w' => e = .returned (.tuple #[]) ∧ (∃ v, BdP B b (.pointer (some ⟨b, 0, none⟩)) v l w') ∧ BtB B b w w' := by
  obtain ⟨p, v, hp, h1, h2⟩ := h
  have c0 : w.cell? ⟨b, 0, none⟩ = some p := by rw [Lib.cell_of_heap h1]; rfl
  rcases hp with rfl | rfl
  · refine (copy_fresh b w c0 (by simp [World.shape?, h1]) (Lib.frozen_of_heap h1 0)).mono ?_
    rintro e w' ⟨rfl, rfl⟩
    have hne := Lib.ownBlock_ne h2 h1 (by decide)
    have hs := heap_setCell_same w b 0 _ _ (.pointer (some ⟨b, 0, none⟩)) h1
    refine ⟨rfl, ⟨v, hs, ?_⟩, ⟨rfl, rfl, rfl, by simp, fun k _ hk => heap_setCell_other w ⟨b, 0, none⟩ k _ hk, KeepsOthers.setCell _ _ _, fun k cs t m hk _ hn => (heap_setCell_other w ⟨b, 0, none⟩ k _ hn).trans hk⟩⟩
    refine ⟨h2.1, h2.2.imp id (fun ⟨g, cap, cur, hv, h4, h5, h6⟩ => ⟨g, cap, cur, hv, h4, ?_, h6⟩)⟩
    refine (heap_setCell_other w ⟨b, 0, none⟩ g _ ?_).trans h5
    intro e
    simp only at e
    subst e
    exact hne (by rw [hv]; rfl)
  · refine (copy_used b w c0).mono ?_
    rintro e w' ⟨rfl, rfl⟩
    exact ⟨rfl, ⟨v, h1, h2⟩, BtB.refl _ _ _⟩

/-- The builder's row put anew. -/
theorem bd_put {B b : Nat} {v v' : Value} {l : List UInt8} {bs : List Value} {n : Nat} {w1 w2 : World} (h : BdP B b (.pointer (some ⟨b, 0, none⟩)) v l w1) (hg : w1.grownBy w2 v.ownBlock) (ho : w2.ownsRow B 5 1 v' n bs) (l' : List UInt8) (hB : B ≤ w1.heap.size) (hn : n = l'.length) (hbs : bs = byteCells l') :
    Bd B b l' (w2.setCell ⟨b, 1, none⟩ v') ∧ BtB B b w1 (w2.setCell ⟨b, 1, none⟩ v') := by
  have hb2 : w2.heap[b]? = some (.cells #[.pointer (some ⟨b, 0, none⟩), v] 60 (0, 0)) := (hg.block b h.lt (fun e => h.apart e.symm)).trans h.1
  have hne : v'.ownBlock ≠ some b := Lib.ownBlock_ne ho hb2 (by decide)
  subst hn
  subst hbs
  have hs := heap_setCell_same w2 b 1 _ _ v' hb2
  refine ⟨⟨_, v', .inr rfl, hs, ?_⟩, ⟨hg.os, hg.tape, hg.output, Nat.le_trans hg.size (by simp), fun k hk hkb => (heap_setCell_other w2 ⟨b, 1, none⟩ k _ hkb).trans ?_, (KeepsOthers.of_grownBy hg (fun j o hj hoj => ?_)).trans (KeepsOthers.setCell _ _ _), fun k cs t m hk ht hn => (heap_setCell_other w2 ⟨b, 1, none⟩ k _ hn).trans ((hg.block k (Array.getElem?_eq_some_iff.1 hk).1 (fun e => Lib.ownBlock_ne h.2 hk ht e.symm)).trans hk)⟩⟩
  · rw [byteCells_length]
    refine ⟨ho.1, ho.2.imp id (fun ⟨g, cap, cur, hv, h4, h5, h6⟩ => ⟨g, cap, cur, hv, h4, ?_, h6⟩)⟩
    refine (heap_setCell_other w2 ⟨b, 1, none⟩ g _ ?_).trans h5
    intro e
    simp only at e
    subst e
    exact hne (by rw [hv]; rfl)
  · exact hg.block k (by omega) (fun e => by have := (h.2.lt k e.symm).1; omega)
  · rcases h.2.2 with ⟨hv, _⟩ | ⟨g, cap, cur, hv, h1, h2, _⟩
    · rw [hv] at hj
      simp [Value.ownBlock] at hj
    · rw [hv] at hj
      simp only [Value.ownBlock, Option.some.injEq] at hj
      subst hj
      rw [h2] at hoj
      cases hoj
      rfl

end Go.Proofs.YtkdhcpfmlelfcaaDoor

namespace Go.Proofs.YtkdhcpfmlelfcaaDoor
set_option linter.unusedVariables false
set_option linter.unusedSimpArgs false
set_option maxRecDepth 100000
open Go Go.RowKit Go.Shelf Go.Lib

def WsE (B b : Nat) (w : World) (l : List UInt8) (e : Ending) (w' : World) : Prop := (∃ v, e = .returned v) ∧ Bd B b l w' ∧ BtB B b w w'

set_option maxHeartbeats 1000000 in
theorem ws_calls {B b : Nat} {l : List UInt8} {w : World} (h : Bd B b l w) (T : List UInt8) (hl : l.length + T.length ≤ 1000000000000) (hB : B ≤ w.heap.size) :
    Calls Tryd.prog 31 #[.pointer (some ⟨b, 0, none⟩), .string ⟨T.toArray⟩] w fun e w' => e = .returned (.tuple #[.int .i64 (T.length : Int), .nilIface]) ∧ Bd B b (l ++ T) w' ∧ BtB B b w w' := by
  obtain ⟨i0, hi, hz0, hz1, hz2⟩ := info_parts infoByt
  have hcc := copy_calls h
  have hsz : (⟨T.toArray⟩ : ByteArray).size = T.length := by simp [ByteArray.size]
  go_enter Tryd.func31, Tryd.ntmps31
  go_wp2_with fail
  refine hcc.mono ?_
  rintro e w1 ⟨rfl, ⟨v, hv⟩, hb1⟩
  have c0 : w1.cell? ⟨b, 0, none⟩ = some (.pointer (some ⟨b, 0, none⟩)) := by rw [Lib.cell_of_heap hv.1]; rfl
  have c1 : w1.cell? ⟨b, 1, none⟩ = some v := by rw [Lib.cell_of_heap hv.1]; rfl
  have HV := hide hv
  have HB1 := hide hb1
  have HSZ := hide hsz
  have hown := hv.2
  clear hcc hv hb1 hsz
  go_wp2_with (at_builtin; go_must (refine Lib.wpList_append_own_string _ rfl _ _ 58 9 rfl B 5 i0 Tryd.underlying58 Tryd.underlying9 hi hz0 hz1 hz2 _ _ _ rfl hown ⟨T.toArray⟩ rfl ?c3 ?c4 ?c5 ?_))
  case c3 => rw [HSZ.out, byteCells_length]; unfold maxLen; omega
  case c4 => rw [HSZ.out, byteCells_length]; omega
  case c5 => have := HB1.out.size; omega
  intro v' w2 hown' hgrow _
  have hput := bd_put HV.out hgrow hown' (l ++ T) (by have := HB1.out.size; omega) (by first | rw [HSZ.out, byteCells_length, List.length_append] | rw [byteCells_length, List.length_append]) (by rw [byteCells_append]; rfl)
  have hb2 : w2.heap[b]? = some (.cells #[.pointer (some ⟨b, 0, none⟩), v] 60 (0, 0)) := (hgrow.block b HV.out.lt (fun e => HV.out.apart e.symm)).trans HV.out.1
  have d0 : w2.cell? ⟨b, 0, none⟩ = some (.pointer (some ⟨b, 0, none⟩)) := by rw [Lib.cell_of_heap hb2]; rfl
  have d1 : w2.cell? ⟨b, 1, none⟩ = some v := by rw [Lib.cell_of_heap hb2]; rfl
  have f1 : w2.frozen? ⟨b, 1, none⟩ = false := Lib.frozen_of_heap hb2 1
  obtain ⟨ao, n', cap, rfl⟩ : ∃ ao n' cap, v' = .slice ao n' cap := by
    rcases hown'.2 with ⟨hv, _⟩ | ⟨g, cap, cur, hv, _⟩
    · exact ⟨_, _, _, hv⟩
    · exact ⟨_, _, _, hv⟩
  have HP := hide hput
  clear hput hb2 hown' hgrow hown c0 c1
  have hsz := HSZ.out
  go_wp2
  go_ret2
  exact ⟨by simp, HP.out.1, HB1.out.trans HP.out.2⟩

set_option maxHeartbeats 1000000 in
theorem wb_calls {B b : Nat} {l : List UInt8} {w : World} (h : Bd B b l w) (x : UInt8) (hl : l.length ≤ 1000000000000) (hB : B ≤ w.heap.size) :
    Calls Tryd.prog 49 #[.pointer (some ⟨b, 0, none⟩), .int .u8 (x.toNat : Int)] w fun e w' => e = .returned .nilIface ∧ Bd B b (l ++ [x]) w' ∧ BtB B b w w' := by
  obtain ⟨i0, hi, hz0, hz1, hz2⟩ := info_parts infoByt
  have hcc := copy_calls h
  generalize hxx : ((x.toNat : Nat) : Int) = xi at *
  have HXX := hide hxx
  clear hxx
  go_enter Tryd.func49, Tryd.ntmps49
  go_wp2_with fail
  refine hcc.mono ?_
  rintro e w1 ⟨rfl, ⟨v, hv⟩, hb1⟩
  have c0 : w1.cell? ⟨b, 0, none⟩ = some (.pointer (some ⟨b, 0, none⟩)) := by rw [Lib.cell_of_heap hv.1]; rfl
  have c1 : w1.cell? ⟨b, 1, none⟩ = some v := by rw [Lib.cell_of_heap hv.1]; rfl
  have hbl := bel w1 (.cells #[.int .u8 xi] 5)
  have hv2 : BdP B b (.pointer (some ⟨b, 0, none⟩)) v l (w1.alloc (.cells #[.int .u8 xi] 5)) := hv.cel (Cel.of hbl)
  have HV := hide hv2
  have HB1 := hide (hb1.trans (BtB.of hbl (by have := hb1.size; omega)))
  have hown := hv2.2
  have lb : b < w1.heap.size := hv.lt
  have hsz1 : B ≤ (w1.alloc (.cells #[.int .u8 xi] 5)).heap.size := by have := HB1.out.size; omega
  have e0 := heap_alloc_new w1 (.cells #[.int .u8 xi] 5)
  have x0 : (w1.alloc (.cells #[.int .u8 xi] 5)).cell? ⟨w1.heap.size, 0, none⟩ = some (.int .u8 xi) := World.cell?_alloc_mark w1 _ _ (0, 0) 0
  clear hcc hv hb1 hv2 hbl e0
  obtain ⟨v', w2, hrun, hown', hgrow, _⟩ := run_append_own (P := Tryd.prog) (w1.alloc (.cells #[.int .u8 xi] 5)) B 58 58 5 i0 (.int .u8 0) 1 1 Tryd.underlying58 hi hz0 hz1 hz2 rfl (by decide) v (byteCells l).length (byteCells l) hown ⟨w1.heap.size, 0, none⟩ 1 1 [.int .u8 xi] rfl (fun j u hj => by
    cases j with
    | zero => simp at hj; subst hj; exact x0
    | succ j => simp at hj) (fun u hu => by simp at hu; subst hu; rfl) (by rw [byteCells_length]; unfold maxLen; omega) (by rw [byteCells_length]; omega) hsz1
  have hput := bd_put HV.out hgrow hown' (l ++ [x]) hsz1 (by rw [byteCells_length, List.length_append]; rfl) (by rw [byteCells_append, ← HXX.out]; rfl)
  have hb2 : w2.heap[b]? = some (.cells #[.pointer (some ⟨b, 0, none⟩), v] 60 (0, 0)) := (hgrow.block b HV.out.lt (fun e => HV.out.apart e.symm)).trans HV.out.1
  have d0 : w2.cell? ⟨b, 0, none⟩ = some (.pointer (some ⟨b, 0, none⟩)) := by rw [Lib.cell_of_heap hb2]; rfl
  have d1 : w2.cell? ⟨b, 1, none⟩ = some v := by rw [Lib.cell_of_heap hb2]; rfl
  have f1 : w2.frozen? ⟨b, 1, none⟩ = false := Lib.frozen_of_heap hb2 1
  obtain ⟨ao, n', cap, rfl⟩ : ∃ ao n' cap, v' = .slice ao n' cap := by
    rcases hown'.2 with ⟨hv, _⟩ | ⟨g, cap, cur, hv, _⟩
    · exact ⟨_, _, _, hv⟩
    · exact ⟨_, _, _, hv⟩
  have HP := hide hput
  clear hput hb2 hown' hgrow hown x0
  go_wp2_with (at_builtin; go_must (refine Lib.wpList_append_run _ rfl _ _ _ _ rfl _ _ rfl rfl _ _ hrun ?_))
  go_ret
  exact ⟨rfl, HP.out.1, HB1.out.trans HP.out.2⟩

/-- A number's text behind another: a sign stands between, if it is not below 0. -/
def wrN (l : List UInt8) (z : Int) : List UInt8 := (if l ≠ [] ∧ 0 ≤ z then l ++ [43] else l) ++ itoa z
theorem sg_ge (z : Int) : decide (0 ≤ sg z) = decide (0 ≤ z) := by
  unfold sg
  split
  · rename_i h
    rw [decide_eq_false (by omega), decide_eq_false (by omega)]
  · split
    · rename_i h1 h2
      rw [decide_eq_true (by omega), decide_eq_true (by omega)]
    · rename_i h1 h2
      rw [decide_eq_true (by omega), decide_eq_true (by omega)]

theorem sign_ge {w : World} {v : Value} {z : Int} (hv : BArg w v z) : Calls Tryd.prog 34 #[v] w fun e w' => ∃ s, e = .returned (.int .i64 s) ∧ decide (0 ≤ s) = decide (0 ≤ z) ∧ Below w.heap.size w w' :=
  (sign_calls hv).mono fun e w' ⟨he, hb⟩ => ⟨sg z, he, sg_ge z, hb⟩
theorem isLong {l : List UInt8} (h : l ≠ []) : (0 : Int) < ((byteCells l).length : Int) := by
  rw [byteCells_length]
  have := List.length_pos_iff.2 h
  omega

set_option maxHeartbeats 2000000 in
theorem wn_calls {B b : Nat} {l : List UInt8} {w : World} {v : Value} {z : Int} (h : Bd B b l w) (hv : BArg w v z) (hB : B ≤ w.heap.size) (hbB : b ≤ B) (hl : l.length ≤ 100000000000) (hz : (itoa z).length ≤ 1000000000) (htab : TabIs Tryd.prog w "internal/strconv.uint64pow10" .u64 pow10Tab) (hT : ∀ W, BtB B b w W → TabIs Tryd.prog W "internal/strconv.uint64pow10" .u64 pow10Tab) (hA : ∀ W, BtB B b w W → BArg W v z) :
    Calls Tryd.prog 30 #[.pointer (some ⟨b, 0, none⟩), v] w fun e w' => WsE B b w (wrN l z) e w' := by
  obtain ⟨cn, cm, n, rfl, hm, hzz⟩ := id hv
  obtain ⟨ca, cL, cc, rfl⟩ := hm.shape
  clear hm hzz
  have hb0 := bel w (.cells #[.bool cn, .slice ca cL cc] 24)
  have hlen := Tryd.Builder_Len b b (byteCells l) _ ((h.below hb0).lib hbB)
  have tb := Two.new w (.bool cn) (.slice ca cL cc) 24
  have HB0 := hide hb0
  have HH := hide (h.below hb0)
  have HNB : Hid (b < w.heap.size) := h.lt
  have TB := hide tb
  have HT := hide hT
  have HA := hide hA
  have HBB : Hid (BtB B b w (w.alloc (.cells #[.bool cn, .slice ca cL cc] 24))) := BtB.of hb0 hB
  have hsg := sign_ge (hv.below hb0)
  generalize hwA : w.alloc (.cells #[.bool cn, .slice ca cL cc] 24) = wA at *
  have HWA := hide hwA
  have HSZ : Hid (B ≤ wA.heap.size) := Nat.le_trans hB HB0.out.size
  obtain ⟨c0, c1, _, _, _, _⟩ := tb.every
  clear hwA hb0 tb h hv htab hT hA
  -- what is written at the end
  have HLAST : Hid (∀ (l' : List UInt8) (W : World), l'.length ≤ 100000000001 → Bd B b l' W → BtB B b w W → (B ≤ W.heap.size) → ∀ W2, Below W.heap.size W W2 → Calls Tryd.prog 31 #[.pointer (some ⟨b, 0, none⟩), .string ⟨(itoa z).toArray⟩] W2 fun e w' => e = .returned (.tuple #[.int .i64 ((itoa z).length : Int), .nilIface]) ∧ Bd B b (l' ++ itoa z) w' ∧ BtB B b W2 w') :=
    fun l' W hl' hbd hbt hBW W2 hb2 => ws_calls (hbd.below hb2) (itoa z) (by omega) (Nat.le_trans hBW hb2.size)
  by_cases hl0 : l = []
  · subst hl0
    have e0 : wrN [] z = [] ++ itoa z := by unfold wrN; simp
    rw [e0]
    clear hsg e0
    simp only [byteCells, List.map_nil, List.length_nil] at hlen
    have hlen2 : Calls Tryd.prog 33 #[.pointer (some ⟨b, 0, none⟩)] wA fun e w' => e = .returned (.int .i64 0) ∧ w' = wA := by simpa using hlen
    clear hlen
    go_enter Tryd.func30, Tryd.ntmps30
    go_upto_region 1 with fail
    rw [HWA.out]
    go_wp2_with fail
    refine hlen2.mono ?_
    rintro e w1 ⟨rfl, hw1⟩
    rw [hw1]
    clear hw1 hlen2
    go_wp2_with fail
    refine (btext_calls (HA.out wA HBB.out) (HT.out wA HBB.out)).mono ?_
    rintro e w2 ⟨rfl, hb2⟩
    go_wp2_with fail
    refine (HLAST.out [] wA (by simp) HH.out HBB.out HSZ.out w2 hb2).mono ?_
    rintro e w3 ⟨rfl, hd3, hb3⟩
    have HD3 := hide hd3
    have HF3 := hide ((HBB.out.trans (BtB.of hb2 HSZ.out)).trans hb3)
    clear hd3 hb3 hb2
    go_wp2
    go_end0
    exact ⟨⟨_, rfl⟩, HD3.out, HF3.out⟩
  · have hl1 := isLong hl0
    generalize hbl : ((byteCells l).length : Int) = bl at *
    by_cases hz0 : 0 ≤ z
    · have e0 : wrN l z = (l ++ [43]) ++ itoa z := by unfold wrN; rw [if_pos ⟨hl0, hz0⟩]
      rw [e0]
      have HL0 := hide hl0
      clear hl0 e0 hbl
      go_enter Tryd.func30, Tryd.ntmps30
      go_upto_region 1 with fail
      rw [HWA.out]
      go_wp2_with fail
      refine hlen.mono ?_
      rintro e w1 ⟨rfl, hw1⟩
      rw [hw1]
      clear hw1 hlen
      go_wp2_with fail
      refine hsg.mono ?_
      rintro e w2 ⟨s, rfl, hs, hb2⟩
      rw [decide_eq_true hz0] at hs
      have hbd2 := HH.out.below hb2
      have hf2 := HBB.out.trans (BtB.of hb2 HSZ.out)
      have hsz2 : B ≤ w2.heap.size := Nat.le_trans HSZ.out hb2.size
      have hwb := wb_calls hbd2 43 (by omega) hsz2
      have tb2 := TB.out.keep hb2
      have TB2 := hide tb2
      have HF2 := hide hf2
      have HSZ2 := hide hsz2
      have hs' : (0 : Int) ≤ s := of_decide_eq_true hs
      clear hsg hb2 hbd2 hf2 hsz2 tb2
      go_wp2_with fail
      refine hwb.mono ?_
      rintro e w3 ⟨rfl, hd3, hb3⟩
      have HD3 := hide hd3
      have HF3 := hide (HF2.out.trans hb3)
      have HSZ3 : Hid (B ≤ w3.heap.size) := Nat.le_trans HSZ2.out hb3.size
      have TB3 : Hid (Two w3 w.heap.size (.bool cn) (.slice ca cL cc) 24) := hb3.kin _ _ _ _ TB2.out (by decide) (by have := HNB.out; omega)
      obtain ⟨c0, c1, _, _, _, _⟩ := TB3.out.every
      clear hwb hd3 hb3
      go_wp2_with fail
      refine (btext_calls (HA.out w3 HF3.out) (HT.out w3 HF3.out)).mono ?_
      rintro e w4 ⟨rfl, hb4⟩
      go_wp2_with fail
      refine (HLAST.out (l ++ [43]) w3 (by simp; omega) HD3.out HF3.out HSZ3.out w4 hb4).mono ?_
      rintro e w5 ⟨rfl, hd5, hb5⟩
      have HD5 := hide hd5
      have HF5 := hide ((HF3.out.trans (BtB.of hb4 HSZ3.out)).trans hb5)
      clear hd5 hb5 hb4
      go_wp2
      go_end0
      exact ⟨⟨_, rfl⟩, HD5.out, HF5.out⟩
    · have e0 : wrN l z = l ++ itoa z := by unfold wrN; rw [if_neg (fun h => hz0 h.2)]
      rw [e0]
      have HL0 := hide hl0
      clear hl0 e0 hbl
      go_enter Tryd.func30, Tryd.ntmps30
      go_upto_region 1 with fail
      rw [HWA.out]
      go_wp2_with fail
      refine hlen.mono ?_
      rintro e w1 ⟨rfl, hw1⟩
      rw [hw1]
      clear hw1 hlen
      go_wp2_with fail
      refine hsg.mono ?_
      rintro e w2 ⟨s, rfl, hs, hb2⟩
      rw [decide_eq_false (show ¬ (0 : Int) ≤ z by omega)] at hs
      have hs' : s < 0 := by have := of_decide_eq_false hs; omega
      have TB2 := hide (TB.out.keep hb2)
      have HF2 := hide (HBB.out.trans (BtB.of hb2 HSZ.out))
      have HSZ2 : Hid (B ≤ w2.heap.size) := Nat.le_trans HSZ.out hb2.size
      have HD2 := hide (HH.out.below hb2)
      obtain ⟨c0, c1, _, _, _, _⟩ := TB2.out.every
      clear hsg hb2
      go_wp2_with fail
      refine (btext_calls (HA.out w2 HF2.out) (HT.out w2 HF2.out)).mono ?_
      rintro e w4 ⟨rfl, hb4⟩
      go_wp2_with fail
      refine (HLAST.out l w2 (by omega) HD2.out HF2.out HSZ2.out w4 hb4).mono ?_
      rintro e w5 ⟨rfl, hd5, hb5⟩
      have HD5 := hide hd5
      have HF5 := hide ((HF2.out.trans (BtB.of hb4 HSZ2.out)).trans hb5)
      clear hd5 hb5 hb4
      go_wp2
      go_end0
      exact ⟨⟨_, rfl⟩, HD5.out, HF5.out⟩
end Go.Proofs.YtkdhcpfmlelfcaaDoor

namespace Go.Proofs.YtkdhcpfmlelfcaaDoor
set_option linter.unusedVariables false
set_option linter.unusedSimpArgs false
set_option maxRecDepth 100000
open Go Go.RowKit Go.Shelf Go.Lib

theorem itoa_reads (z : Int) : Reads (bl ⟨(itoa z).toArray⟩) (decide (z < 0)) z.natAbs := by
  rw [bl_mk]
  by_cases h : z < 0
  · have e : itoa z = 45 :: decDigits z.natAbs := by unfold itoa; rw [if_pos h]
    have e2 : nums (45 :: decDigits z.natAbs) = 45 :: nums (decDigits z.natAbs) := rfl
    rw [e, decide_eq_true h, e2]
    exact .inl ⟨rfl, by simp, rfl, decDigits_isNum _, decDigits_gval _, by omega⟩
  · have e0 : z.toNat = z.natAbs := by omega
    have e : itoa z = decDigits z.natAbs := by unfold itoa; rw [if_neg h, e0]
    rw [e, decide_eq_false h]
    refine .inr ⟨rfl, ?_, decDigits_isNum _, decDigits_gval _⟩
    intro hh
    have := decDigits_first (n := z.natAbs)
    omega

theorem itoa_size {z : Int} {k : Nat} (h : z.natAbs < 10 ^ k) (hk : 0 < k) : (⟨(itoa z).toArray⟩ : ByteArray).size ≤ k + 1 := by
  have hl := decDigits_len h hk
  show (itoa z).toArray.size ≤ k + 1
  rw [List.size_toArray]
  unfold itoa
  split
  · rw [List.length_cons]; omega
  · rw [show z.toNat = z.natAbs by omega]; omega

theorem digits_size {n k : Nat} (h : n < 10 ^ k) (hk : 0 < k) : (⟨(decDigits n).toArray⟩ : ByteArray).size ≤ k := by
  show (decDigits n).toArray.size ≤ k
  rw [List.size_toArray]
  exact decDigits_len h hk

theorem lt_ten {n k : Nat} (h : n < R ^ k) : n < 10 ^ (10 * k) := Nat.lt_of_lt_of_le h (pow_R_le k)

theorem reads64 : Reads (bl ⟨#[45, 49, 56, 52, 52, 54, 55, 52, 52, 48, 55, 51, 55, 48, 57, 53, 53, 49, 54, 49, 54]⟩) true 18446744073709551616 :=
  .inl ⟨rfl, by decide, by decide, ⟨by decide, by decide, AllDig.of_mem (by decide)⟩, by decide, by decide⟩

theorem text64 : decDigits 18446744073709551616 = [49, 56, 52, 52, 54, 55, 52, 52, 48, 55, 51, 55, 48, 57, 53, 53, 49, 54, 49, 54] := by
  rw [decDigits_big (by decide), decDigits_big (by decide), decDigits_big (by decide), decDigits_big (by decide), decDigits_big (by decide), decDigits_big (by decide), decDigits_big (by decide), decDigits_big (by decide), decDigits_big (by decide), decDigits_big (by decide), decDigits_big (by decide), decDigits_big (by decide), decDigits_big (by decide), decDigits_big (by decide), decDigits_big (by decide), decDigits_big (by decide), decDigits_big (by decide), decDigits_big (by decide), decDigits_big (by decide), decDigits_small (by decide)]
  rfl

theorem res64 {W : World} {a : Option Addr} {L c : Nat} (h : Res W (.slice a L c) 18446744073709551616) : L = 3 := by
  obtain ⟨xs, h1, h2, h3⟩ := h
  obtain ⟨a', c', e⟩ := h1.len
  injection e with e1 e2 e3
  subst e2
  have l3 := canon_len_pow h2 (k := 3) (by rw [h3]; decide)
  have l2 : ¬ xs.length ≤ 2 := by
    intro hl
    have h4 := val_lt h1.small
    have h5 : R ^ xs.length ≤ R ^ 2 := Nat.pow_le_pow_right R_pos hl
    have h6 : R ^ 2 = 18446744073709551616 := by decide
    omega
  omega

end Go.Proofs.YtkdhcpfmlelfcaaDoor

namespace Go.Proofs.YtkdhcpfmlelfcaaDoor
set_option linter.unusedVariables false
set_option linter.unusedSimpArgs false
set_option maxRecDepth 100000
open Go Go.RowKit Go.Shelf Go.Lib
attribute [local go_sem] Oper.semAt_some

/-- A part behind a text. -/
def wrP (l : List UInt8) (p : Int × Int) : List UInt8 := (wrN l p.2 ++ [42, 120]) ++ itoa p.1
def wrPs (l : Ps) : List UInt8 := l.foldl wrP []
/-- A sum's text. -/
def textL (c : Int) (l : Ps) : List UInt8 := if wrPs l = [] ∨ c ≠ 0 then wrN (wrPs l) c else wrPs l

theorem itoa_len {z : Int} {k : Nat} (h : z.natAbs < R ^ k) (hk : 0 < k) : (itoa z).length ≤ 10 * k + 1 := by
  have := itoa_size (lt_ten h) (by omega)
  have e : (⟨(itoa z).toArray⟩ : ByteArray).size = (itoa z).length := by simp [ByteArray.size]
  omega
theorem rng_R {v : Int} (h : Rng v) : v.natAbs < R ^ 2 := by
  have : R ^ 2 = 18446744073709551616 := by decide
  unfold Rng at h
  omega
theorem wrP_len {l : List UInt8} {p : Int × Int} {k : Nat} (h : p.2.natAbs < R ^ k) (hk : 0 < k) (hv : Rng p.1) : (wrP l p).length ≤ l.length + (10 * k + 30) := by
  have h1 := itoa_len h hk
  have h2 := itoa_len (rng_R hv) (by omega)
  unfold wrP wrN
  split <;> simp <;> omega
theorem wrPs_len {M : List Pt} {k : Nat} (hk : 0 < k) (hb : Bnd k (ps M)) (hr : ∀ m ∈ M, Rng m.1) : (wrPs (ps M)).length ≤ M.length * (10 * k + 30) := by
  have H : ∀ (L : List Pt) (a : List UInt8), Bnd k (ps L) → (∀ m ∈ L, Rng m.1) → ((ps L).foldl wrP a).length ≤ a.length + L.length * (10 * k + 30) := by
    intro L
    induction L with
    | nil => intro a _ _; simp [ps]
    | cons m L ih =>
      intro a hb hr
      have h1 := ih (wrP a (pt m)) (fun p hp => hb p (by simp only [ps, List.map_cons, List.mem_cons]; exact .inr hp)) (fun x hx => hr x (by simp [hx]))
      have h2 := wrP_len (l := a) (p := pt m) (hb (pt m) (by simp [ps])) hk (hr m (by simp))
      simp only [ps, List.map_cons, List.foldl_cons, List.length_cons] at h1 ⊢
      rw [Nat.add_mul]
      omega
  have := H M [] hb hr
  show ((ps M).foldl wrP []).length ≤ _
  simpa using this
theorem wrPs_step {M : List Pt} {i : Nat} {m : Pt} (h : M[i]? = some m) : wrPs (ps (M.take (i + 1))) = wrP (wrPs (ps (M.take i))) (pt m) := by
  rw [List.take_add_one, h, ps_append]
  unfold wrPs
  rw [List.foldl_append]
  rfl

/-- All cells of a world but one block are as they were. -/
def Ct (b : Nat) (w W : World) : Prop := ∀ k o, k ≠ b → w.heap[k]? = some o → o.isCells = true → W.heap[k]? = some o
theorem Ct.refl (b : Nat) (w : World) : Ct b w w := fun _ _ _ h _ => h
theorem Ct.cel {b : Nat} {w W W' : World} (h : Ct b w W) (hc : Cel W W') : Ct b w W' := fun k o hk hw ho => hc k o (h k o hk hw ho) ho
theorem Ct.btb {b n : Nat} {w W W' : World} (h : Ct b w W) (hn : w.heap.size ≤ n) (hb : BtB n b W W') : Ct b w W' := fun k o hk hw ho =>
  (hb.block k (Nat.lt_of_lt_of_le (Array.getElem?_eq_some_iff.1 hw).1 hn) hk).trans (h k o hk hw ho)
theorem Ct.cell {b : Nat} {w W : World} (h : Ct b w W) {a : Addr} {u : Value} (ha : a.block ≠ b) (hc : w.cell? a = some u) : W.cell? a = some u := by
  have h2 := hc
  unfold World.cell? at h2
  split at h2
  · rename_i c t m hb
    rw [World.cell?_of_block (a := a) ((h _ _ ha hb rfl).trans hb.symm)]
    exact hc
  · cases h2
theorem Ct.k32 {b : Nat} {w W : World} (h : Ct b w W) (hn : NoInt w b) : K32 w W := fun a x hc => h.cell (hn.off hc) hc
theorem Ct.row {b : Nat} {w W : World} (h : Ct b w W) (hn : NoInt w b) {v : Value} {M : List Pt} (hr : RowP w v M) : RowP W v M := by
  obtain ⟨ao, cap, e, h1, h2, h3⟩ := hr
  refine ⟨ao, cap, e, h1, h2, fun j m hj => ?_⟩
  obtain ⟨bb, o, e2, hc⟩ := h3 j m hj
  exact ⟨bb, o, e2, hc.keep (fun a u hu ha => h.cell (by rw [ha]; exact hn.off (a := ⟨bb, o + j * 3, none⟩) hc.1) hu)⟩
theorem Bd.noInt {B b : Nat} {l : List UInt8} {W : World} (h : Bd B b l W) : NoInt W b := by
  obtain ⟨p, v, hp, h1, h2⟩ := h
  have hv : ∃ a n c, v = .slice a n c := by
    rcases h2.2 with ⟨hv, _⟩ | ⟨g, cap, cur, hv, _⟩
    · exact ⟨_, _, _, hv⟩
    · exact ⟨_, _, _, hv⟩
  obtain ⟨a, n, c, rfl⟩ := hv
  intro j k x hc
  rw [cell_of_row W b j _ _ _ h1] at hc
  match j, hc with
  | 0, hc => rcases hp with rfl | rfl <;> simp at hc
  | 1, hc => simp at hc
  | n + 2, hc => simp at hc

theorem string_calls {B b : Nat} {l : List UInt8} {w : World} (h : Bd B b l w) (hB : b ≤ B) : Calls Tryd.prog 35 #[.pointer (some ⟨b, 0, none⟩)] w fun e w' => e = .returned (.string ⟨l.toArray⟩) ∧ Below b w w' ∧ (∀ (k : Nat) (o : Obj), w.heap[k]? = some o → o.isCells = false → w'.heap[k]? = some o) := by
  have hl := h.lib hB
  have hf : Lib.IsBuilderF 60 5 b b (byteCells l) w := hl.imp Lib.BuilderAtF.of Lib.BuilderAtF.of
  refine (Tryd.Builder_String_any_k b b l w hf (Nat.le_of_lt h.lt)).mono ?_
  rintro e w' ⟨he, _, hb, ho⟩
  refine ⟨he, hb, fun k o hk hc => ho k o hk (fun e => ?_) (fun c fz e => ?_)⟩
  · cases e
    obtain ⟨p, v, hp, h1, h2⟩ := h
    rw [h1] at hk
    cases hk
    cases hc
  · subst e
    cases hc

theorem sign_eq {w : World} {v : Value} {z : Int} (hv : BArg w v z) : Calls Tryd.prog 34 #[v] w fun e w' => ∃ s, e = .returned (.int .i64 s) ∧ ((s == 0) = true ↔ z = 0) ∧ Below w.heap.size w w' :=
  (sign_calls hv).mono fun e w' ⟨he, hb⟩ => ⟨sg z, he, by rw [beq_iff_eq, sg_zero_iff], hb⟩

set_option maxHeartbeats 8000000 in
theorem text_calls2 {k : Nat} {w : World} {v : Value} {c : Int} {M : List Pt} (h : TermA k w v c M) (hk : k ≤ 1000) (hk0 : 0 < k) (htab : TabIs Tryd.prog w "internal/strconv.uint64pow10" .u64 pow10Tab) :
    Calls Tryd.prog 13 #[v] w fun e w' => ∃ l, e = .returned (.string ⟨(textL c l).toArray⟩) ∧ NF l ∧ (∀ u, cf u l = cf u (ps M)) ∧ Below w.heap.size w w' := by
  obtain ⟨cn, ca, cL, cc, pa, pl, pc, rfl⟩ := h.form
  have tb := (Thr.new w (.bool cn) (.slice ca cL cc) (.slice pa pl pc) 27).alloc (.cells #[.pointer none, .slice none 0 0] 60)
  have hba : Below w.heap.size w ((w.alloc (.cells #[.bool cn, .slice ca cL cc, .slice pa pl pc] 27)).alloc (.cells #[.pointer none, .slice none 0 0] 60)) := (bel _ _).trans ((bel _ _).mono (by simp))
  have hbd : ∀ C, Bd C (w.heap.size + 1) [] ((w.alloc (.cells #[.bool cn, .slice ca cL cc, .slice pa pl pc] 27)).alloc (.cells #[.pointer none, .slice none 0 0] 60)) := fun C => by
    have h1 := bd_new C (w.alloc (.cells #[.bool cn, .slice ca cL cc, .slice pa pl pc] 27))
    rw [World.size_alloc] at h1
    exact h1
  have hszA : ((w.alloc (.cells #[.bool cn, .slice ca cL cc, .slice pa pl pc] 27)).alloc (.cells #[.pointer none, .slice none 0 0] 60)).heap.size = w.heap.size + 2 := by simp
  generalize hwA : (w.alloc (.cells #[.bool cn, .slice ca cL cc, .slice pa pl pc] 27)).alloc (.cells #[.pointer none, .slice none 0 0] 60) = wA at *
  have hvars := vars_calls (h.below hba) (by omega)
  have HT := hide h
  have HWA := hide hwA
  have TB := hide tb
  have HBA := hide hba
  have HBD := hide hbd
  have HSZA := hide hszA
  have HTAB := hide htab
  obtain ⟨c0, c1, c2, _, _, _⟩ := tb.every
  clear hwA tb hba hbd hszA h htab
  refine calls_of_marks Tryd.func13 rfl ?_
  simp only [Tryd.ntmps13, List.size_toArray, List.length_cons, List.length_nil, Nat.reduceAdd, Nat.reduceSub, Array.replicate_succ, Array.replicate_zero, List.push_toArray, List.append_toArray, List.nil_append, List.cons_append]
  go_upto_region 2 with fail
  rw [HWA.out]
  go_wp2_with fail
  refine hvars.mono ?_
  clear hvars c0 c1 c2
  rintro e w3 ⟨B0, M3, a3, l3, k3, rfl, hu3, hB0, ho3, hg3, hn3, hc3, hb3⟩
  have HU3 := hide hu3
  have HB0 := hide hB0
  have HO3 := hide ho3
  have HG3 := hide hg3
  have HN3 := hide hn3
  have HC3 := hide hc3
  have HB3 := hide hb3
  clear hu3 hB0 ho3 hg3 hn3 hc3 hb3
  go_wp2_with fail
  refine (wpIn_wide (n := 3)).1 ?_
  have HL3 : Hid (M3.length ≤ 1000) := by
    have h1 := len_of HN3.out HC3.out
    have h2 := HT.out.len
    show _ ≤ _
    omega
  have HBN : Hid (Bnd (k + 1000) (ps M3)) := fun p hp => lt_up (nf_bnd HN3.out HC3.out HT.out.bnd.1 p hp) (by rw [ps_length]; have := HT.out.len; omega)
  have HLN : Hid (∀ i, (wrPs (ps (M3.take i))).length ≤ 100000000) := fun i => by
    have h1 := wrPs_len (M := M3.take i) (k := k + 1000) (by omega) (fun p hp => HBN.out p (by
      unfold ps at hp ⊢
      rw [List.map_take] at hp
      exact List.mem_of_mem_take hp)) (fun m hm => (HG3.out m (List.mem_of_mem_take hm)).1)
    have h2 : (M3.take i).length * (10 * (k + 1000) + 30) ≤ 1000 * (10 * (1000 + 1000) + 30) := Nat.mul_le_mul (by rw [List.length_take]; have := HL3.out; omega) (by omega)
    omega
  have HBD3 : Hid (Bd w3.heap.size (w.heap.size + 1) [] w3) := (HBD.out w3.heap.size).below HB3.out
  have HNI : Hid (NoInt w3 (w.heap.size + 1)) := HBD3.out.noInt
  have HS3 : Hid (w.heap.size + 2 ≤ w3.heap.size) := by
    have h1 := HSZA.out
    have h2 := HB3.out.size
    show _ ≤ _
    omega
  have HTB3 := hide (TB.out.keep HB3.out)
  refine range_knownC (gf := 48) (lb := #[.pointer (some ⟨B0, 0, none⟩)]) ?hg (enters_of Tryd.func48 (by kernel_rfl) rfl)
    (vars_hands B0 (.slice a3 l3 k3) M3 HG3.out.sl (by have := HL3.out; omega)) (fun _ => rfl)
    (fun i W => Bd w3.heap.size (w.heap.size + 1) (wrPs (ps (M3.take i))) W ∧ Ct (w.heap.size + 1) w3 W)
    (fun _ _ _ => False) (fun i W W' hj hc => ⟨hj.1.cel hc, hj.2.cel hc⟩) (fun _ _ _ _ h _ => h.elim) w.heap.size w (Nat.le_refl _) (Nat.le_trans HBA.out.size HB3.out.size)
    (fun i W hj => ⟨hj.2.cell (by have := HB0.out; have := HSZA.out; show B0 ≠ _; omega) HU3.out.c0, hj.2.row HNI.out HO3.out.row⟩) ⟨⟨HBD3.out, Ct.refl _ _⟩, bafter HBA.out HB3.out (Nat.le_refl _)⟩
    (fun i => .cells #[.bool (atP M3 i).2.1, (atP M3 i).2.2.1] 24) (fun _ => rfl) ?a1 ?assign ?body ?done ?stop
  case hg => rfl
  case assign =>
    intro l i B W K hi hB hK
    obtain ⟨ma, mL, mc, hsl⟩ := HG3.out.sl (atP M3 i) (by rw [atP_of (List.getElem?_eq_getElem hi)]; exact List.getElem_mem hi)
    unfold varV
    rw [hsl]
    have HSL := hide hsl
    have HBE := hide hB
    generalize hA1 : (atP M3 i).1 = vr at *
    generalize hA2 : (atP M3 i).2.1 = nb at *
    have HA1 := hide hA1
    have HA2 := hide hA2
    clear hsl hB hA1 hA2
    gi_wp2
    have hsl := HSL.out
    have hB := HBE.out
    have hA1 := HA1.out
    have hA2 := HA2.out
    rw [hB]
    subst hA1
    subst hA2
    rw [← hsl]
    exact hK
  case body =>
    rintro l i B W hi ⟨hbd, hct⟩ hbw hB hBlt
    obtain ⟨⟨vr, nb, mv, cz⟩, hm⟩ : ∃ m, M3[i]? = some m := ⟨_, List.getElem?_eq_getElem hi⟩
    obtain ⟨ma, mL, mc, e⟩ := HG3.out.sl _ (List.mem_of_getElem? hm)
    simp only at e
    subst e
    try dsimp only
    rw [atP_of hm] at hB ⊢
    have hB' : Two W B (.bool nb) (.slice ma mL mc) 24 := hB
    have hmem := HG3.out _ (List.mem_of_getElem? hm)
    have hcb : cz.natAbs < R ^ (k + 1000) := HBN.out (vr, cz) (List.mem_map.2 ⟨_, List.mem_of_getElem? hm, rfl⟩)
    have hWn : w3.heap.size ≤ W.heap.size := by have := hB'.lt'; omega
    have HLI := hide (HLN.out i)
    have HLI2 := hide (HLN.out (i + 1))
    have hla : (itoa cz).length ≤ 1000000 := by have := itoa_len hcb (by omega); omega
    have hlv := itoa_len (rng_R hmem.1) (by omega)
    have hBel : ∀ W', BtB w3.heap.size (w.heap.size + 1) W W' → Below w.heap.size w W' := fun W' hb => hbw.trans (hb.below (by have := HS3.out; omega) (by omega))
    have hwn := wn_calls hbd ((hmem.2.k32 (hct.k32 HNI.out)).arg hcb (by omega)) hWn (by have := HS3.out; omega) (by have := HLI.out; omega) (Nat.le_trans hla (by decide)) (tab_keep HTAB.out hbw)
      (fun W' hb => tab_keep HTAB.out (hBel W' hb)) (fun W' hb => (hmem.2.k32 ((hct.btb (Nat.le_refl _) hb).k32 HNI.out)).arg hcb (by omega))
    have HBEL := hide hBel
    have HCT := hide hct
    have HM := hide hm
    have HRG := hide hmem.1
    have HWN := hide hWn
    have HLA := hide hla
    have HLV := hide hlv
    obtain ⟨b0, b1, _, _, _, _⟩ := hB'.every
    clear hB hB' hmem hcb hbw hBel hct hm hbd hWn hla hlv
    gi_wp2_with fail
    refine ⟨trivial, ?_⟩
    refine (CallsIn.inRound l (callsIn_wide.2 hwn)).mono ?_
    rintro e w4 ⟨⟨rv, rfl⟩, hd4, hf4⟩
    have HF4 := hide hf4
    have HW4 : Hid (w3.heap.size ≤ w4.heap.size) := Nat.le_trans HWN.out hf4.size
    have HL4 : Hid ((wrN (wrPs (ps (M3.take i))) cz).length ≤ 200000000) := by
      have h1 := HLI.out
      have h2 := HLA.out
      show (wrN _ cz).length ≤ _
      unfold wrN
      split <;> simp <;> omega
    have hws := ws_calls hd4 [42, 120] (by have := HL4.out; simp; omega) HW4.out
    clear hwn hd4 hf4 b0 b1
    gi_wp2_with fail
    refine ⟨trivial, ?_⟩
    refine (CallsIn.inRound l (callsIn_wide.2 hws)).mono ?_
    rintro e w5 ⟨rfl, hd5, hf5⟩
    have HF5 := hide (HF4.out.trans hf5)
    have HD5 := hide hd5
    have HW5 : Hid (w3.heap.size ≤ w5.heap.size) := Nat.le_trans HW4.out hf5.size
    have hit := Tryd.strconv_Itoa vr HRG.out.1 HRG.out.2 w5 (tab_keep HTAB.out (HBEL.out _ HF5.out))
    clear hws hd5 hf5
    gi_wp2_with fail
    refine ⟨trivial, ?_⟩
    refine (CallsIn.inRound l (callsIn_wide.2 hit)).mono ?_
    rintro e w6 ⟨rfl, q, os, hw6⟩
    have hb6 : Below w5.heap.size w5 w6 := by
      rw [hw6]
      exact below_grow _ _ (Nat.le_refl _) _ _
    have HF6 := hide (HF5.out.trans (BtB.of hb6 HW5.out))
    have HW6 : Hid (w3.heap.size ≤ w6.heap.size) := Nat.le_trans HW5.out hb6.size
    have hws := ws_calls (HD5.out.below hb6) (itoa vr) (by have := HL4.out; have := HLV.out; simp; omega) HW6.out
    clear hit hw6 hb6
    gi_wp2_with fail
    refine ⟨trivial, ?_⟩
    refine (CallsIn.inRound l (callsIn_wide.2 hws)).mono ?_
    rintro e w7 ⟨rfl, hd7, hf7⟩
    have HD7 := hide hd7
    have HF7 := hide (HF6.out.trans hf7)
    clear hws hd7 hf7
    gi_wp2
    refine ⟨HF7.out.oth.from _, ⟨?_, HCT.out.btb (Nat.le_refl _) HF7.out⟩, HBEL.out _ HF7.out⟩
    rw [wrPs_step HM.out]
    exact HD7.out
  case done =>
    rintro D W hD ⟨hbd, hct⟩ hbw hK
    rw [List.take_length] at hbd
    have hWn : w3.heap.size ≤ W.heap.size := by have := (Array.getElem?_eq_some_iff.1 hK).1; omega
    have HWNW := hide hWn
    have HLL : Hid ((wrPs (ps M3)).length ≤ 100000000) := by
      have h1 := HLN.out M3.length
      rw [List.take_length] at h1
      exact h1
    have HIT : Hid ((itoa c).length ≤ 1000000000) := by
      have h1 := itoa_len HT.out.bnd.2 hk0
      show _ ≤ _
      omega
    have HNUM : Hid (∀ W', Below w.heap.size w W' → BArg W' (.agg #[.bool cn, .slice ca cL cc]) c) := fun W' hb => HT.out.num.below hb
    have htb : Thr W w.heap.size (.bool cn) (.slice ca cL cc) (.slice pa pl pc) 27 := hct _ _ (by omega) HTB3.out rfl
    obtain ⟨c0, c1, c2, _, _, _⟩ := htb.every
    have HTBW := hide htb
    have HBDW := hide hbd
    have HBWW := hide hbw
    have HKW := hide hK
    have HD := hide hD
    have hlen := Tryd.Builder_Len (w.heap.size + 1) (w.heap.size + 1) (byteCells (wrPs (ps M3))) W (hbd.lib (by have := HS3.out; omega))
    obtain ⟨TL, hTL⟩ : ∃ TL, TL = textL c (ps M3) := ⟨_, rfl⟩
    have HTL := hide hTL
    clear htb hbd hbw hK hD hct hWn hTL
    by_cases ha : wrPs (ps M3) = []
    · have HTE : Hid (wrN [] c = TL) := by
        show _ = _
        rw [HTL.out]
        unfold textL
        rw [if_pos (.inl ha), ha]
      rw [ha] at hlen HBDW HLL
      have hlen2 : Calls Tryd.prog 33 #[.pointer (some ⟨w.heap.size + 1, 0, none⟩)] W fun e w' => e = .returned (.int .i64 0) ∧ w' = W := by simpa [byteCells] using hlen
      clear hlen ha
      go_wp2_with fail
      refine hlen2.mono ?_
      rintro e w4 ⟨rfl, hw4⟩
      rw [hw4]
      clear hw4 hlen2
      go_wp2_with fail
      refine (wn_calls HBDW.out (HNUM.out W HBWW.out) HWNW.out (by have := HS3.out; omega) (by have := HLL.out; first | omega | simp) HIT.out (tab_keep HTAB.out HBWW.out)
        (fun W' hb => tab_keep HTAB.out (HBWW.out.trans (hb.below (by have := HS3.out; omega) (by omega)))) (fun W' hb => HNUM.out W' (HBWW.out.trans (hb.below (by have := HS3.out; omega) (by omega))))).mono ?_
      rintro e w7 ⟨⟨rv, rfl⟩, hd7, hf7⟩
      rw [HTE.out] at hd7
      have HD7 := hide hd7
      have HB7 := hide (HBWW.out.trans (hf7.below (by have := HS3.out; omega) (by omega) : Below w.heap.size W w7))
      have HK7 := hide (hf7.oth.same D _ HKW.out rfl)
      clear hd7 hf7
      go_wp2_with fail
      refine (string_calls HD7.out (by have := HS3.out; omega)).mono ?_
      rintro e w8 ⟨rfl, hb8, ho8⟩
      have HK8 := hide (ho8 D _ HK7.out rfl)
      have HB8 := hide (HB7.out.trans (hb8.mono (by omega)))
      clear hb8 ho8
      go_wp2
      refine ⟨by simp, .inl ⟨_, _, rfl, run_takeDeferred HK8.out, ?_⟩⟩
      refine ⟨.string ⟨TL.toArray⟩, ?_, ps M3, by rw [HTL.out], HN3.out, HC3.out, HB8.out.trans (belowK_b (w := w) (Nat.le_refl _) _ D _ _ (by have := HD.out; have := HS3.out; omega) HK8.out rfl rfl)⟩
      simp [results, Tryd.f13, go_sem]
    · have hl1 := isLong ha
      have hl2 : (((byteCells (wrPs (ps M3))).length : Int) == 0) = false := beq_eq_false_iff_ne.2 (by omega)
      generalize hbl : ((byteCells (wrPs (ps M3))).length : Int) = bl at *
      have HSG := hide (sign_eq (HNUM.out W HBWW.out))
      by_cases hc0 : c = 0
      · have HTE : Hid (wrPs (ps M3) = TL) := by
          show _ = _
          rw [HTL.out]
          unfold textL
          rw [if_neg (fun h => h.elim ha (fun h => h hc0))]
        have HC0 := hide hc0
        have HA0 := hide ha
        clear ha hbl hc0
        go_wp2_with fail
        refine hlen.mono ?_
        rintro e w4 ⟨rfl, hw4⟩
        rw [hw4]
        clear hw4 hlen
        go_wp2_with fail
        refine HSG.out.mono ?_
        rintro e w7 ⟨s, rfl, hs, hb7⟩
        have hs0 : s = 0 := by simpa using hs.2 HC0.out
        subst hs0
        have HD7 : Hid (Bd w3.heap.size (w.heap.size + 1) TL w7) := by
          show Bd _ _ _ _
          rw [← HTE.out]
          exact HBDW.out.below hb7
        have HB7 := hide (bafter HBWW.out hb7 (Nat.le_refl _))
        have HK7 : Hid (w7.heap[D]? = some (.deferred (some []))) := (hb7.block D (Array.getElem?_eq_some_iff.1 HKW.out).1).trans HKW.out
        clear hb7 hs
        go_wp2_with fail
        refine (string_calls HD7.out (by have := HS3.out; omega)).mono ?_
        rintro e w8 ⟨rfl, hb8, ho8⟩
        have HK8 := hide (ho8 D _ HK7.out rfl)
        have HB8 := hide (HB7.out.trans (hb8.mono (by omega)))
        clear hb8 ho8
        go_wp2
        refine ⟨by simp, .inl ⟨_, _, rfl, run_takeDeferred HK8.out, ?_⟩⟩
        refine ⟨.string ⟨TL.toArray⟩, ?_, ps M3, by rw [HTL.out], HN3.out, HC3.out, HB8.out.trans (belowK_b (w := w) (Nat.le_refl _) _ D _ _ (by have := HD.out; have := HS3.out; omega) HK8.out rfl rfl)⟩
        simp [results, Tryd.f13, go_sem]
      · have HTE : Hid (wrN (wrPs (ps M3)) c = TL) := by
          show _ = _
          rw [HTL.out]
          unfold textL
          rw [if_pos (.inr hc0)]
        have HC0 := hide hc0
        have HA0 := hide ha
        clear ha hbl hc0
        go_wp2_with fail
        refine hlen.mono ?_
        rintro e w4 ⟨rfl, hw4⟩
        rw [hw4]
        clear hw4 hlen
        go_wp2_with fail
        refine HSG.out.mono ?_
        rintro e w5 ⟨s, rfl, hs, hb5⟩
        have hs0 : (s == 0) = false := by
          cases hq : (s == 0) with
          | false => rfl
          | true => exact absurd (hs.1 hq) HC0.out
        have hs1 : (s != 0) = true := by rw [bne, hs0]; rfl
        have HBD5 := hide (HBDW.out.below hb5)
        have HB5 := hide (bafter HBWW.out hb5 (Nat.le_refl _))
        have HKw5 : Hid (w5.heap[D]? = some (.deferred (some []))) := (hb5.block D (Array.getElem?_eq_some_iff.1 HKW.out).1).trans HKW.out
        have HWNw5 : Hid (w3.heap.size ≤ w5.heap.size) := Nat.le_trans HWNW.out hb5.size
        obtain ⟨x0, x1, x2, _, _, _⟩ := (HTBW.out.keep hb5).every
        clear hb5 hs c0 c1 c2
        go_wp2_with fail
        refine (wn_calls HBD5.out (HNUM.out w5 HB5.out) HWNw5.out (by have := HS3.out; omega) (by have := HLL.out; first | omega | simp) HIT.out (tab_keep HTAB.out HB5.out)
          (fun W' hb => tab_keep HTAB.out (HB5.out.trans (hb.below (by have := HS3.out; omega) (by omega)))) (fun W' hb => HNUM.out W' (HB5.out.trans (hb.below (by have := HS3.out; omega) (by omega))))).mono ?_
        rintro e w7 ⟨⟨rv, rfl⟩, hd7, hf7⟩
        rw [HTE.out] at hd7
        have HD7 := hide hd7
        have HB7 := hide (HB5.out.trans (hf7.below (by have := HS3.out; omega) (by omega) : Below w.heap.size w5 w7))
        have HK7 := hide (hf7.oth.same D _ HKw5.out rfl)
        clear hd7 hf7
        go_wp2_with fail
        refine (string_calls HD7.out (by have := HS3.out; omega)).mono ?_
        rintro e w8 ⟨rfl, hb8, ho8⟩
        have HK8 := hide (ho8 D _ HK7.out rfl)
        have HB8 := hide (HB7.out.trans (hb8.mono (by omega)))
        clear hb8 ho8
        go_wp2
        refine ⟨by simp, .inl ⟨_, _, rfl, run_takeDeferred HK8.out, ?_⟩⟩
        refine ⟨.string ⟨TL.toArray⟩, ?_, ps M3, by rw [HTL.out], HN3.out, HC3.out, HB8.out.trans (belowK_b (w := w) (Nat.le_refl _) _ D _ _ (by have := HD.out; have := HS3.out; omega) HK8.out rfl rfl)⟩
        simp [results, Tryd.f13, go_sem]
  case stop => exact fun D c k W hD hk h hb hK => h.elim

end Go.Proofs.YtkdhcpfmlelfcaaDoor

namespace Go.Proofs.YtkdhcpfmlelfcaaDoor
set_option linter.unusedVariables false
set_option linter.unusedSimpArgs false
set_option maxRecDepth 100000
open Go Go.RowKit Go.Shelf Go.Lib

def CoefE (w : World) (z : Int) (e : Ending) (w' : World) : Prop := ∃ rv, e = .returned rv ∧ BRes w' rv z ∧ Below w.heap.size w w'
theorem cf_take_step {M : List Pt} {i : Nat} {m : Pt} (h : M[i]? = some m) (x : Int) : cf x (ps (M.take (i + 1))) = cf x (ps (M.take i)) + (if m.1 = x then m.2.2.2 else 0) := by
  rw [List.take_add_one, h, ps_append, cf_append]
  simp [ps, cf, pt]

set_option maxHeartbeats 4000000 in
theorem coef_calls {k : Nat} {w : World} {v : Value} {c : Int} {M : List Pt} (h : TermA k w v c M) (x : Int) (hk : k ≤ 400000) :
    Calls Tryd.prog 26 #[v, .int .i64 x] w fun e w' => CoefE w (cf x (ps M)) e w' := by
  obtain ⟨cn, ca, cL, cc, pa, pl, pc, rfl, h1, h2, h3, h4, h5, h6, h7⟩ := id h
  have HR := hide h3
  have HG := hide h4
  have HT := hide h
  obtain ⟨_, _, e, _, _, h3⟩ := h3
  simp only [Value.slice.injEq] at e
  obtain ⟨rfl, rfl, rfl⟩ := e
  generalize hLn : M.length = Ln at *
  have HLN := hide hLn
  have tb := ((Thr.new w (.bool cn) (.slice ca cL cc) (.slice pa Ln pc) 27).alloc (.cells #[.bool false, .slice none 0 0] 24)).alloc (.cells #[.bool false, .slice none 0 0] 24)
  have tr := (Two.new1 w (.cells #[.bool cn, .slice ca cL cc, .slice pa Ln pc] 27) (.bool false) (.slice none 0 0) 24).alloc (.cells #[.bool false, .slice none 0 0] 24)
  have ts := Two.new ((w.alloc (.cells #[.bool cn, .slice ca cL cc, .slice pa Ln pc] 27)).alloc (.cells #[.bool false, .slice none 0 0] 24)) (.bool false) (.slice none 0 0) 24
  rw [World.size_alloc, World.size_alloc] at ts
  have hba := bel3 w (.cells #[.bool cn, .slice ca cL cc, .slice pa Ln pc] 27) (.cells #[.bool false, .slice none 0 0] 24) (.cells #[.bool false, .slice none 0 0] 24)
  generalize hwA : ((w.alloc (.cells #[.bool cn, .slice ca cL cc, .slice pa Ln pc] 27)).alloc (.cells #[.bool false, .slice none 0 0] 24)).alloc (.cells #[.bool false, .slice none 0 0] 24) = wA at *
  have HWA := hide hwA
  have H3 := hide h3
  obtain ⟨c0, c1, c2, _, _, _⟩ := tb.every
  have TR := hide tr
  have TS := hide ts
  have HBA := hide hba
  clear hwA tr ts hba h h1 h2 h3 h4 h5 h6 hLn tb
  go_enter Tryd.func26, Tryd.ntmps26
  go_upto_region 2 with fail
  rw [HWA.out]
  go_wp2
  clear c0 c1 c2
  go_loopw [12] (fun iv wr => ∃ (i : Nat) (sn : Bool) (sa : Option Addr) (sL sc : Nat), i ≤ Ln ∧ iv = .int .i64 (i : Int) ∧ Two wr (w.heap.size + 1 + 1) (.bool sn) (.slice sa sL sc) 24 ∧ BRes wr (.agg #[.bool sn, .slice sa sL sc]) (cf x (ps (M.take i))) ∧ Two wr (w.heap.size + 1) (.bool false) (.slice none 0 0) 24 ∧ Below w.heap.size w wr) (fun iv _ => Ln - (RowKit.intOf iv).toNat)
  case atStart => exact ⟨0, _, _, _, _, Nat.zero_le _, rfl, TS.out, ⟨_, rfl, Res.nil _⟩, TR.out, HBA.out⟩
  case round =>
    obtain ⟨i, sn, sa, sL, sc, hi, rfl, hts, hbr, htr, hbw⟩ := hrel
    by_cases hlt : i < Ln
    · obtain ⟨⟨vr, neg, mv, z⟩, hm⟩ : ∃ m, M[i]? = some m := ⟨_, List.getElem?_eq_getElem (by rw [HLN.out]; exact hlt)⟩
      obtain ⟨ma, mL, mc, e⟩ := HG.out.sl _ (List.mem_of_getElem? hm)
      simp only at e
      subst e
      obtain ⟨b, o, rfl, hc⟩ := H3.out i _ hm
      obtain ⟨c0, c1, c2⟩ := hc.below hbw
      dsimp only at c0 c1 c2
      have d1 : (i : Int) < (Ln : Int) := by omega
      have d0 : (0 : Int) ≤ (i : Int) := by omega
      have lb : b < wr.heap.size := block_lt_of_cell c0
      have hbl := bel wr (.cells #[.int .i64 vr, .bool neg, .slice ma mL mc] 31)
      have HM := hide hm
      have HTR := hide (htr.keep hbl)
      have HTS := hide (hts.keep hbl)
      have HBL := hide (bafter hbw hbl (Nat.le_refl _))
      have HBR := hide (hbr.below hbl)
      have hga := (HG.out _ (List.mem_of_getElem? hm)).2.below HBL.out
      have hsb : (cf x (ps (M.take i))).natAbs < R ^ (k + 1000) := by
        refine lt_up (cf_bound (k := k) (l := ps (M.take i)) (fun p hp => HT.out.bnd.1 p ?_) x) ?_
        · unfold ps at hp ⊢
          rw [List.map_take] at hp
          exact List.mem_of_mem_take hp
        · rw [ps_length, List.length_take]
          have := HT.out.len
          omega
      have HADD := hide (badd_calls (HBR.out.arg hsb (by omega)) hga)
      clear hts hbr htr hbw hm hc hga hsb
      generalize hwb : wr.alloc (.cells #[.int .i64 vr, .bool neg, .slice ma mL mc] 31) = wb at *
      have x0 : wb.cell? ⟨wr.heap.size, 0, none⟩ = some (.int .i64 vr) := by rw [← hwb]; exact World.cell?_alloc_mark wr _ _ (0, 0) 0
      have x1 : wb.cell? ⟨wr.heap.size, 1, none⟩ = some (.bool neg) := by rw [← hwb]; exact World.cell?_alloc_mark wr _ _ (0, 0) 1
      have x2 : wb.cell? ⟨wr.heap.size, 2, none⟩ = some (.slice ma mL mc) := by rw [← hwb]; exact World.cell?_alloc_mark wr _ _ (0, 0) 2
      have HWB := hide hwb
      obtain ⟨s0, s1, s2, s3, _, _⟩ := HTS.out.every
      clear hwb hbl
      by_cases hv : vr = x
      · subst hv
        go_upto_region 5 with fail
        rw [HWB.out]
        go_wp2_with fail
        refine HADD.out.mono ?_
        rintro e w4 ⟨v4, rfl, hr4, hb4⟩
        obtain ⟨rb, ra, rL, rc, rfl⟩ := hr4.form
        have HT4 := hide (HTS.out.keep hb4)
        have HTR4 := hide (HTR.out.keep hb4)
        have HB4 := hide (bafter HBL.out hb4 (Nat.le_refl _))
        have HR4 := hide hr4
        obtain ⟨p0, p1, p2, p3, _, _⟩ := HT4.out.every
        clear hr4 hb4 s0 s1 s2 s3 x0 x1 x2
        go_wp2
        go_roundw
        case rel =>
          refine ⟨i + 1, _, _, _, _, by omega, by go_num, HT4.out.put _ _, ?_, HTR4.out.other (by omega) _ _, below_put HB4.out (by omega) _ _⟩
          rw [cf_take_step HM.out, if_pos rfl]
          exact HR4.out.put HT4.out _ _
        case measure => simp [RowKit.intOf]; omega
      · have qe : (vr == x) = false := beq_eq_false_iff_ne.2 hv
        have HV := hide hv
        clear hv HADD
        go_upto_region 5 with fail
        rw [HWB.out]
        go_wp2
        go_roundw
        case rel =>
          refine ⟨i + 1, _, _, _, _, by omega, by go_num, HTS.out, ?_, HTR.out, HBL.out⟩
          rw [cf_take_step HM.out, if_neg HV.out, Int.add_zero]
          exact HBR.out
        case measure => simp [RowKit.intOf]; omega
    · obtain rfl : i = Ln := by omega
      have d1 : ¬ (i : Int) < (i : Int) := by omega
      obtain ⟨s0, s1, _, _, _, _⟩ := hts.every
      obtain ⟨r0, r1, r2, r3, _, _⟩ := htr.every
      have HTR := hide htr
      have HBW := hide hbw
      have HBR := hide hbr
      clear hts htr hbw hbr
      go_wp2
      refine bodyPost_ret (results_big rfl rfl (HTR.out.put _ _)) rfl ?_
      refine ⟨_, rfl, ?_, below_put HBW.out (by omega) _ _⟩
      have h1 := HBR.out
      rw [List.take_of_length_le (by rw [HLN.out]; omega)] at h1
      exact h1.put HTR.out _ _

set_option maxHeartbeats 2000000 in
theorem lvar_calls (w : World) (x : Int) (hx : Rng x) :
    Calls Tryd.prog 14 #[.int .i64 x] w fun e w' => ∃ v nb mv, e = .returned v ∧ TermR w' v 0 [(x, nb, mv, 1)] ∧ Below w.heap.size w w' := by
  have tz := Thr.new w (.bool false) (.slice none 0 0) (.slice none 0 0) 27
  have hba := bel w (.cells #[.bool false, .slice none 0 0, .slice none 0 0] 27)
  have hof := bof_calls (w.alloc (.cells #[.bool false, .slice none 0 0, .slice none 0 0] 27)) 1 (by omega) (by omega)
  have TZ := hide tz
  have HBA := hide hba
  clear tz hba
  go_enter Tryd.func14, Tryd.ntmps14
  go_wp2_with fail
  refine hof.mono ?_
  rintro e w1 ⟨v1, rfl, hr1, hb1⟩
  obtain ⟨nb, na, nL, nc, rfl⟩ := hr1.form
  have hbl := bel w1 (.cells #[.int .i64 x, .bool nb, .slice na nL nc] 31)
  have TZ2 := hide ((TZ.out.keep hb1).keep hbl)
  have HB2 := hide (bafter (bafter HBA.out hb1 (Nat.le_refl _)) hbl (Nat.le_refl _))
  have HR2 := hide (hr1.below hbl)
  have HROW := hide (row_lit w1 x nb (.slice na nL nc) 1)
  obtain ⟨d0, d1, d2, f0, f1, f2⟩ := TZ2.out.every
  clear hof hr1 hb1 hbl
  go_wp2
  refine bodyPost_ret (results_term rfl rfl (TZ2.out.put _ _ _)) rfl ?_
  refine ⟨_, nb, .slice na nL nc, rfl, TermR.but ⟨_, _, _, _, _, _, _, rfl, ⟨_, rfl, Res.nil _⟩, HROW.out, fun m hm => ?_, ?_⟩ (TZ2.out.but _ _ _), put3_below HB2.out (by omega) _ _ _⟩
  · simp at hm
    subst hm
    exact ⟨hx, HR2.out⟩
  · refine ⟨by simp [ps], fun p hp => ?_⟩
    simp [ps, pt] at hp
    subst hp
    show (1 : Int) ≠ 0
    omega

set_option maxHeartbeats 2000000 in
theorem var_tells {W : World} {m : Pt} {x : Int} {B : Nat} (hs : ∃ a L c, m.2.2.1 = .slice a L c) (hc : W.cell? ⟨B, 0, none⟩ = some (.int .i64 x)) :
    Calls Tryd.prog 25 (#[.agg #[.int .i64 m.1, .bool m.2.1, m.2.2.1]] ++ #[.pointer (some ⟨B, 0, none⟩)]) W fun e W' => e = .returned (.bool (decide (m.1 = x))) ∧ Below W.heap.size W W' := by
  obtain ⟨vr, neg, mv, z⟩ := m
  obtain ⟨a, L, c, e⟩ := hs
  simp only at e
  subst e
  dsimp only
  have lb : B < W.heap.size := block_lt_of_cell hc
  have HB := hide (bel W (.cells #[.int .i64 vr, .bool neg, .slice a L c] 31))
  have ed : (vr == x) = decide (vr = x) := rfl
  generalize decide (vr = x) = r at *
  simp only [List.append_toArray, List.cons_append, List.nil_append]
  go_enter Tryd.func25, Tryd.ntmps25
  go_wp2
  go_ret
  exact ⟨rfl, HB.out⟩

set_option maxHeartbeats 4000000 in
theorem withoutF_calls {k : Nat} {w : World} {v : Value} {c : Int} {M : List Pt} (h : TermA k w v c M) (x : Int) (hk : k ≤ 400000) :
    Calls Tryd.prog 9 #[v, .int .i64 x] w fun e w' => TermF w c (fun y => if y = x then 0 else cf y (ps M)) e w' := by
  obtain ⟨cn, ca, cL, cc, pa, pl, pc, rfl⟩ := h.form
  have tb := ((Thr.new w (.bool cn) (.slice ca cL cc) (.slice pa pl pc) 27).alloc (.cells #[.int .i64 x] 3)).alloc (.cells #[.bool false, .slice none 0 0, .slice none 0 0] 27)
  have tz := Thr.new2 w (.cells #[.bool cn, .slice ca cL cc, .slice pa pl pc] 27) (.cells #[.int .i64 x] 3) (.bool false) (.slice none 0 0) (.slice none 0 0) 27
  have hba := bel3 w (.cells #[.bool cn, .slice ca cL cc, .slice pa pl pc] 27) (.cells #[.int .i64 x] 3) (.cells #[.bool false, .slice none 0 0, .slice none 0 0] 27)
  have tx : Uno (((w.alloc (.cells #[.bool cn, .slice ca cL cc, .slice pa pl pc] 27)).alloc (.cells #[.int .i64 x] 3)).alloc (.cells #[.bool false, .slice none 0 0, .slice none 0 0] 27)) (w.heap.size + 1) (.int .i64 x) 3 := by
    have h1 := World.alloc_heap_new (w.alloc (.cells #[.bool cn, .slice ca cL cc, .slice pa pl pc] 27)) (.cells #[.int .i64 x] 3)
    rw [World.size_alloc] at h1
    exact Uno.keep h1 (bel _ _)
  generalize hwA : ((w.alloc (.cells #[.bool cn, .slice ca cL cc, .slice pa pl pc] 27)).alloc (.cells #[.int .i64 x] 3)).alloc (.cells #[.bool false, .slice none 0 0, .slice none 0 0] 27) = wA at *
  have HT := hide h
  have hti := h.tidies (by omega) wA hba
  obtain ⟨c0, c1, c2, _, _, _⟩ := tb.every
  have HWA := hide hwA
  have TB := hide tb
  have TZ := hide tz
  have TX := hide tx
  have HBA := hide hba
  clear hwA tb tz tx hba h
  go_enter Tryd.func9, Tryd.ntmps9
  go_upto_region 1 with fail
  rw [HWA.out]
  go_wp2_with fail
  refine hti.mono ?_
  rintro e w2 ⟨v2, M2, rfl, hr2, hg2, hn2, hc2, hb2⟩
  obtain ⟨sa, sL, sc, rfl⟩ := hr2.shape
  have hl2 : M2.length ≤ 1000 := by have := len_of hn2 hc2; have := HT.out.len; omega
  have hcl := clone_calls hr2 hg2.sl (by omega)
  have HB2 := hide hb2
  have HG2 := hide hg2
  have HN2 := hide hn2
  have HC2 := hide hc2
  clear hr2 hg2 hn2 hc2 hb2 hti c0 c1 c2
  go_wp2_with fail
  refine hcl.mono ?_
  rintro e w3 ⟨v3, rfl, ho3, hb3⟩
  obtain ⟨ta, tL, tc, rfl⟩ := ho3.row.shape
  have hA3 := bafter HB2.out hb3 (Nat.le_refl _)
  have hxl : w.heap.size + 1 < w2.heap.size := Nat.lt_of_lt_of_le TX.out.lt HB2.out.size
  have hdel := del_calls (g := 25) (lb := #[.pointer (some ⟨w.heap.size + 1, 0, none⟩)]) (p := fun m => decide (m.1 = x)) (n₀ := w2.heap.size) (I := fun W => W.cell? ⟨w.heap.size + 1, 0, none⟩ = some (.int .i64 x))
    ⟨enters_of Tryd.func25 (by kernel_rfl) rfl, fun W W' h hf => (hf.1.cell (p := ⟨w.heap.size + 1, 0, none⟩) hxl).trans h, fun W h m hm => var_tells (HG2.out.sl m hm) h⟩ ho3 HG2.out.sl (by omega) (TX.out.keep hA3).c0 hb3.size
  have HB3 := hide hb3
  have HA3 := hide hA3
  clear hcl ho3 hb3 hA3
  go_wp2_with fail
  refine hdel.mono ?_
  rintro e w4 ⟨v4, rfl, ho4, hf4⟩
  obtain ⟨ua, uL, uc, rfl⟩ := ho4.row.shape
  have hA4 : Below wA.heap.size wA w4 := HA3.out.trans (hf4.1.mono HB2.out.size)
  have TB4 := hide (TB.out.keep hA4)
  have hno := bnorm_calls (HT.out.num.below (bafter HBA.out hA4 (Nat.le_refl _)))
  obtain ⟨c0, c1, c2, _, _, _⟩ := TB4.out.every
  have HR4 := hide ho4.row
  have HOW4 := hide ho4
  have HF4 := hide hf4
  have HA4 := hide hA4
  clear hdel ho4 hf4 hA4
  go_wp2_with fail
  refine hno.mono ?_
  rintro e w5 ⟨v5, rfl, hr5, hb5⟩
  obtain ⟨nb, na, nL, nc, rfl⟩ := hr5.form
  have HR5 := hide hr5
  have HB5 := hide hb5
  have HA5 := hide (bafter HA4.out hb5 (Nat.le_refl _))
  clear hno hr5 hb5 c0 c1 c2
  go_wp2_with fail
  refine madeF_calls.mono ?_
  rintro e w6 ⟨ra, rl, rc, rfl, hrow6, how6, hb6⟩
  have HOW6 : Hid (OwnT w.heap.size w6 (.agg #[.bool nb, .slice na nL nc, .slice ra rl rc]) (M2.filter fun m => !decide (m.1 = x))) := ⟨_, _, _, _, _, rfl, (how6 _ w6 _ ((HOW4.out.below HB5.out).below hb6)).down (Nat.le_trans HBA.out.size HB2.out.size)⟩
  clear how6
  have HA6 := hide (bafter HA5.out hb6 (Nat.le_refl _))
  have TZ6 := hide (TZ.out.keep HA6.out)
  obtain ⟨d0, d1, d2, f0, f1, f2⟩ := TZ6.out.every
  have HTR : Hid (TermR w6 (.agg #[.bool nb, .slice na nL nc, .slice ra rl rc]) c (M2.filter fun m => !decide (m.1 = x))) := by
    refine ⟨_, _, _, _, _, _, _, rfl, HR5.out.below hb6, hrow6 _ _ ((HR4.out.below HB5.out).below hb6), ?_, ?_⟩
    · exact GoodR.below (GoodR.below (fun m hm => ((HG2.out.below HB3.out).k32 HF4.out.2) m (List.mem_filter.1 hm).1) HB5.out) hb6
    · exact ⟨HN2.out.1.sublist ((List.filter_sublist (l := M2)).map pt), fun p hp => by
        obtain ⟨m, hm, rfl⟩ := List.mem_map.1 hp
        exact HN2.out.2 (pt m) (List.mem_map.2 ⟨m, (List.mem_filter.1 hm).1, rfl⟩)⟩
  clear hrow6 hb6
  go_wp2
  refine bodyPost_ret (results_term rfl rfl (TZ6.out.put _ _ _)) rfl ?_
  refine ⟨_, _, rfl, HTR.out.but (TZ6.out.but _ _ _), fun y => ?_, HOW6.out.put TZ6.out _ _ _, put3_below (bafter HBA.out HA6.out (Nat.le_refl _)) (by omega) _ _ _⟩
  have e1 : ps (M2.filter fun m => !decide (m.1 = x)) = (ps M2).filter fun p => decide (p.1 ≠ x) := by
    unfold ps
    rw [List.filter_map]
    congr 1
    apply List.filter_congr
    intro m hm
    by_cases h0 : m.1 = x <;> simp [pt, h0]
  rw [e1, cf_without, HC2.out]
theorem without_calls {k : Nat} {w : World} {v : Value} {c : Int} {M : List Pt} (h : TermA k w v c M) (x : Int) (hk : k ≤ 400000) :
    Calls Tryd.prog 9 #[v, .int .i64 x] w fun e w' => TermE w c (fun y => if y = x then 0 else cf y (ps M)) e w' :=
  (withoutF_calls h x hk).mono fun e w' ⟨v, M, h1, h2, h3, _, h4⟩ => ⟨v, M, h1, h2, h3, h4⟩

end Go.Proofs.YtkdhcpfmlelfcaaDoor

namespace Go.Proofs.YtkdhcpfmlelfcaaDoor
set_option linter.unusedVariables false
set_option linter.unusedSimpArgs false
set_option maxRecDepth 100000
open Go Go.RowKit Go.Shelf Go.Lib

set_option maxHeartbeats 4000000 in
theorem substF_calls {k : Nat} {w : World} {v u : Value} {c d : Int} {A B : List Pt} (h : TermA k w v c A) (x : Int) (g : TermA k w u d B) (hk : k ≤ 100000) :
    Calls Tryd.prog 10 #[v, .int .i64 x, u] w fun e w' => TermF w (c + d * cf x (ps A)) (fun y => (if y = x then 0 else cf y (ps A)) + cf y (ps B) * cf x (ps A)) e w' := by
  obtain ⟨cn, ca, cL, cc, pa, pl, pc, rfl⟩ := h.form
  obtain ⟨dn, da, dL, dc, qa, ql, qc, rfl⟩ := g.form
  have tb := ((Thr.new w (.bool cn) (.slice ca cL cc) (.slice pa pl pc) 27).alloc (.cells #[.bool dn, .slice da dL dc, .slice qa ql qc] 27)).alloc (.cells #[.bool false, .slice none 0 0, .slice none 0 0] 27)
  have tc := (Thr.new1 w (.cells #[.bool cn, .slice ca cL cc, .slice pa pl pc] 27) (.bool dn) (.slice da dL dc) (.slice qa ql qc) 27).alloc (.cells #[.bool false, .slice none 0 0, .slice none 0 0] 27)
  have tz := Thr.new2 w (.cells #[.bool cn, .slice ca cL cc, .slice pa pl pc] 27) (.cells #[.bool dn, .slice da dL dc, .slice qa ql qc] 27) (.bool false) (.slice none 0 0) (.slice none 0 0) 27
  have hba := bel3 w (.cells #[.bool cn, .slice ca cL cc, .slice pa pl pc] 27) (.cells #[.bool dn, .slice da dL dc, .slice qa ql qc] 27) (.cells #[.bool false, .slice none 0 0, .slice none 0 0] 27)
  generalize hwA : ((w.alloc (.cells #[.bool cn, .slice ca cL cc, .slice pa pl pc] 27)).alloc (.cells #[.bool dn, .slice da dL dc, .slice qa ql qc] 27)).alloc (.cells #[.bool false, .slice none 0 0, .slice none 0 0] 27) = wA at *
  have HWA := hide hwA
  have TB := hide tb
  have TC := hide tc
  have TZ := hide tz
  have HBA := hide hba
  have HT := hide h
  have HG := hide g
  have HS : Hid (∀ X : World, Below wA.heap.size wA X → X.cell? ⟨w.heap.size, 0, none⟩ = some (.bool cn) ∧ X.cell? ⟨w.heap.size, 1, none⟩ = some (.slice ca cL cc) ∧ X.cell? ⟨w.heap.size, 2, none⟩ = some (.slice pa pl pc) ∧ X.cell? ⟨w.heap.size + 1, 0, none⟩ = some (.bool dn) ∧ X.cell? ⟨w.heap.size + 1, 1, none⟩ = some (.slice da dL dc) ∧ X.cell? ⟨w.heap.size + 1, 2, none⟩ = some (.slice qa ql qc)) := fun X hX => ⟨(TB.out.keep hX).c0, (TB.out.keep hX).c1, (TB.out.keep hX).c2, (TC.out.keep hX).c0, (TC.out.keep hX).c1, (TC.out.keep hX).c2⟩
  clear hwA tb tc tz hba h g
  go_enter Tryd.func10, Tryd.ntmps10
  go_upto_region 1 with fail
  rw [HWA.out]
  refine wp_region_held_drew (S := fun X : World => X.cell? ⟨w.heap.size, 0, none⟩ = some (.bool cn) ∧ X.cell? ⟨w.heap.size, 1, none⟩ = some (.slice ca cL cc) ∧ X.cell? ⟨w.heap.size, 2, none⟩ = some (.slice pa pl pc) ∧ X.cell? ⟨w.heap.size + 1, 0, none⟩ = some (.bool dn) ∧ X.cell? ⟨w.heap.size + 1, 1, none⟩ = some (.slice da dL dc) ∧ X.cell? ⟨w.heap.size + 1, 2, none⟩ = some (.slice qa ql qc)) (by kernel_rfl) ?_ (fun hHeld => ?_)
  · exact HS.out _ (by (first | exact (Below.refl _ _).drew | exact Below.refl _ _))
  refine takeD (i := 0) (v := ?v1) (some 7) rfl (by kernel_rfl) (by kernel_rfl) (by kernel_rfl) (fun _ _ _ h => h) (Or.inl ⟨by rfl, ?hy1⟩) (by assumption) (by rfl) ?rest1
  case hy1 => first | (intro w hSw; (try dsimp only at hSw); obtain ⟨q0, q1, q2, q3, q4, q5⟩ := hSw; go_simp; done) | (intro w hSw; (try dsimp only at hSw); obtain ⟨q0, q1, q2, q3, q4, q5⟩ := hSw; go_simp; with_reducible rfl)
  try simp only [Act.put, List.setIfInBounds_toArray, List.set_cons_zero, List.set_cons_succ]
  refine takeD (i := 1) (v := ?v2) (some 8) rfl (by kernel_rfl) (by kernel_rfl) (by kernel_rfl) (fun _ _ _ h => h) (Or.inl ⟨by rfl, ?hy2⟩) (by assumption) (by rfl) ?rest2
  case hy2 => first | (intro w hSw; (try dsimp only at hSw); obtain ⟨q0, q1, q2, q3, q4, q5⟩ := hSw; go_simp; done) | (intro w hSw; (try dsimp only at hSw); obtain ⟨q0, q1, q2, q3, q4, q5⟩ := hSw; go_simp; with_reducible rfl)
  try simp only [Act.put, List.setIfInBounds_toArray, List.set_cons_zero, List.set_cons_succ]
  refine takeD (i := 3) (v := ?v3) (some 10) rfl (by kernel_rfl) (by kernel_rfl) (by kernel_rfl) (fun _ _ _ h => h) (Or.inl ⟨by rfl, ?hy3⟩) (by assumption) (by rfl) ?rest3
  case hy3 => first | (intro w hSw; (try dsimp only at hSw); obtain ⟨q0, q1, q2, q3, q4, q5⟩ := hSw; go_simp; done) | (intro w hSw; (try dsimp only at hSw); obtain ⟨q0, q1, q2, q3, q4, q5⟩ := hSw; go_simp; with_reducible rfl)
  try simp only [Act.put, List.setIfInBounds_toArray, List.set_cons_zero, List.set_cons_succ]
  refine takeD (i := 4) (v := ?v4) (some 11) rfl (by kernel_rfl) (by kernel_rfl) (by kernel_rfl) (fun _ _ _ h => h) (Or.inl ⟨by rfl, ?hy4⟩) (by assumption) (by rfl) ?rest4
  case hy4 => first | (intro w hSw; (try dsimp only at hSw); obtain ⟨q0, q1, q2, q3, q4, q5⟩ := hSw; go_simp; done) | (intro w hSw; (try dsimp only at hSw); obtain ⟨q0, q1, q2, q3, q4, q5⟩ := hSw; go_simp; with_reducible rfl)
  try simp only [Act.put, List.setIfInBounds_toArray, List.set_cons_zero, List.set_cons_succ]
  refine takeD (i := 5) (v := ?v5) (some 12) rfl (by kernel_rfl) (by kernel_rfl) (by kernel_rfl) (fun _ _ _ h => h) (Or.inl ⟨by rfl, ?hy5⟩) (by assumption) (by rfl) ?rest5
  case hy5 => first | (intro w hSw; (try dsimp only at hSw); obtain ⟨q0, q1, q2, q3, q4, q5⟩ := hSw; go_simp; done) | (intro w hSw; (try dsimp only at hSw); obtain ⟨q0, q1, q2, q3, q4, q5⟩ := hSw; go_simp; with_reducible rfl)
  try simp only [Act.put, List.setIfInBounds_toArray, List.set_cons_zero, List.set_cons_succ]
  refine wpAnyH_ready (rs := [2]) (by kernel_rfl) (by simp) ?_
  refine AllReadyH.cons rfl (fun K hK => ?_) AllReadyH.nil
  go_simp
  refine (without_calls (HT.out.below (bafter HBA.out (by (first | exact (Below.refl _ _).drew | exact Below.refl _ _)) (Nat.le_refl _))) x (by omega)).mono ?_
  rintro e w1 ⟨v1, M1, rfl, ht1, hc1, hb1⟩
  obtain ⟨en, ea, eL, ec, sa, sl, sc, rfl⟩ := ht1.form
  have HB1 : Hid (Below wA.heap.size wA w1) := bafter (by (first | exact (Below.refl _ _).drew | exact Below.refl _ _)) hb1 (Nat.le_refl _)
  have HT1 := hide ht1
  have HC1 := hide hc1
  clear ht1 hc1 hb1 hHeld
  go_wp2_with fail
  refine hK.out _ _ (HS.out _ HB1.out) (fun hHeld => ?_)
  clear hK K
  try simp only [Act.put, List.setIfInBounds_toArray, List.set_cons_zero, List.set_cons_succ]
  refine wpAnyH_ready (rs := [6]) (by kernel_rfl) (by simp) ?_
  refine AllReadyH.cons rfl (fun K hK => ?_) AllReadyH.nil
  go_simp
  refine (coef_calls (HT.out.below (bafter HBA.out HB1.out (Nat.le_refl _))) x (by omega)).mono ?_
  rintro e w2 ⟨v2, rfl, hr2, hb2⟩
  obtain ⟨nb, na, nL, nc, rfl⟩ := hr2.form
  have HB2 := hide (bafter HB1.out hb2 (Nat.le_refl _))
  have HB12 := hide hb2
  have HR2 := hide hr2
  clear hr2 hb2 hHeld
  go_wp2_with fail
  refine hK.out _ _ (HS.out _ HB2.out) (fun hHeld => ?_)
  clear hK K
  try simp only [Act.put, List.setIfInBounds_toArray, List.set_cons_zero, List.set_cons_succ]
  have HCB : Hid ((cf x (ps A)).natAbs < R ^ (k + 1000)) := lt_up (cf_bound HT.out.bnd.1 x) (by rw [ps_length]; have := HT.out.len; omega)
  refine wpAnyH_ready (rs := [7]) (by kernel_rfl) (by simp) ?_
  refine AllReadyH.cons rfl (fun K hK => ?_) AllReadyH.nil
  go_simp
  refine (scale_calls (HG.out.below (bafter HBA.out HB2.out (Nat.le_refl _))) (HR2.out.arg HCB.out (by omega)) (by omega)).mono ?_
  rintro e w3 ⟨v3, M3, rfl, ht3, hc3, hb3⟩
  obtain ⟨fn, fa, fL, fc, ta, tl, tc, rfl⟩ := ht3.form
  have HB3 := hide (bafter HB2.out hb3 (Nat.le_refl _))
  have HB23 := hide hb3
  have HT3 := hide ht3
  have HC3 := hide hc3
  clear ht3 hc3 hb3 hHeld
  go_wp2_with fail
  refine hK.out _ _ (HS.out _ HB3.out) (fun hHeld => ?_)
  clear hK K
  try simp only [Act.put, List.setIfInBounds_toArray, List.set_cons_zero, List.set_cons_succ]
  refine wpAnyH_ready (rs := [8]) (by kernel_rfl) (by simp) ?_
  refine AllReadyH.cons rfl (fun K hK => ?_) AllReadyH.nil
  go_simp
  have hA3 : TermA (k + (k + 1000) + 1000) w3 (.agg #[.bool fn, .slice fa fL fc, .slice ta tl tc]) (d * cf x (ps A)) M3 := by
    have h1 := HT3.out.bounded (l := times (cf x (ps A)) (ps B)) (k := k + (k + 1000)) (fun y => by rw [HC3.out, times, cf_scale]) (bnd_times HG.out.bnd.1 HCB.out) (by rw [times_length, ps_length]; exact HG.out.len) (bl_mul HG.out.bnd.2 HCB.out) (by omega)
    rw [times_length, ps_length] at h1
    exact h1.up (by have := HG.out.len; omega)
  have hA1 : TermA (k + (k + 1000) + 1000) w3 (.agg #[.bool en, .slice ea eL ec, .slice sa sl sc]) c M1 := by
    have h1 := HT1.out.bounded (l := (ps A).filter fun p => decide (p.1 ≠ x)) (k := k) (fun y => by rw [HC1.out, cf_without]) (fun p hp => HT.out.bnd.1 p (List.mem_filter.1 hp).1) (by have := List.length_filter_le (fun p : Int × Int => decide (p.1 ≠ x)) (ps A); have := HT.out.len; rw [ps_length] at *; omega) HT.out.bnd.2 (by omega)
    exact ((h1.up (by have := List.length_filter_le (fun p : Int × Int => decide (p.1 ≠ x)) (ps A); have := HT.out.len; rw [ps_length] at *; omega)).below HB12.out).below HB23.out
  refine (laddF_calls hA1 hA3 (by omega)).mono ?_
  clear hA3 hA1
  rintro e w4 ⟨v4, M4, rfl, ht4, hc4, ho4, hb4⟩
  have HOW4 := hide (ho4.down (Nat.le_trans HBA.out.size HB3.out.size))
  clear ho4
  obtain ⟨gn, ga, gL, gc, ua, ul, uc, rfl⟩ := ht4.form
  have HB4 := hide (bafter HB3.out hb4 (Nat.le_refl _))
  have HT4 := hide ht4
  have HC4 := hide hc4
  clear ht4 hc4 hb4 hHeld
  go_wp2_with fail
  refine hK.out _ _ (HS.out _ HB4.out) (fun hHeld => ?_)
  clear hK K
  try simp only [Act.put, List.setIfInBounds_toArray, List.set_cons_zero, List.set_cons_succ]
  have TZ4 := hide (TZ.out.keep HB4.out)
  obtain ⟨d0, d1, d2, f0, f1, f2⟩ := TZ4.out.every
  have HTR : Hid (TermR w4 (.agg #[.bool gn, .slice ga gL gc, .slice ua ul uc]) (c + d * cf x (ps A)) M4) := HT4.out
  have HS5 : Hid (let X := put3 w4 (w.heap.size + 2) (.bool gn) (.slice ga gL gc) (.slice ua ul uc); X.cell? ⟨w.heap.size, 0, none⟩ = some (.bool cn) ∧ X.cell? ⟨w.heap.size, 1, none⟩ = some (.slice ca cL cc) ∧ X.cell? ⟨w.heap.size, 2, none⟩ = some (.slice pa pl pc) ∧ X.cell? ⟨w.heap.size + 1, 0, none⟩ = some (.bool dn) ∧ X.cell? ⟨w.heap.size + 1, 1, none⟩ = some (.slice da dL dc) ∧ X.cell? ⟨w.heap.size + 1, 2, none⟩ = some (.slice qa ql qc)) := by
    show _ ∧ _ ∧ _ ∧ _ ∧ _ ∧ _
    rw [put3_cells (by omega), put3_cells (by omega), put3_cells (by omega), put3_cells (by omega), put3_cells (by omega), put3_cells (by omega)]
    exact HS.out _ HB4.out
  refine wpAnyH_ready (rs := [9]) (by kernel_rfl) (by simp) ?_
  refine AllReadyH.cons rfl (fun K hK => ?_) AllReadyH.nil
  go_simp
  refine hK.out _ _ (HS5.out) (fun hHeld => ?_)
  clear hK K hHeld
  try simp only [Act.put, List.setIfInBounds_toArray, List.set_cons_zero, List.set_cons_succ]
  refine wpAnyH_done (by kernel_rfl) ?_ _
  clear d0 d1 d2 f0 f1 f2
  go_wp2
  refine bodyPost_ret (results_term rfl rfl (TZ4.out.put _ _ _)) rfl ?_
  exact ⟨_, _, rfl, HTR.out.but (TZ4.out.but _ _ _), (fun y => by rw [HC4.out, HC1.out, HC3.out]), HOW4.out.put TZ4.out _ _ _, put3_below (bafter HBA.out HB4.out (Nat.le_refl _)) (by omega) _ _ _⟩
theorem subst_calls {k : Nat} {w : World} {v u : Value} {c d : Int} {A B : List Pt} (h : TermA k w v c A) (x : Int) (g : TermA k w u d B) (hk : k ≤ 100000) :
    Calls Tryd.prog 10 #[v, .int .i64 x, u] w fun e w' => TermE w (c + d * cf x (ps A)) (fun y => (if y = x then 0 else cf y (ps A)) + cf y (ps B) * cf x (ps A)) e w' :=
  (substF_calls h x g hk).mono fun e w' ⟨v, M, h1, h2, h3, _, h4⟩ => ⟨v, M, h1, h2, h3, h4⟩

end Go.Proofs.YtkdhcpfmlelfcaaDoor

namespace Go.Proofs.YtkdhcpfmlelfcaaDoor
set_option linter.unusedVariables false
set_option linter.unusedSimpArgs false
set_option maxRecDepth 100000
open Go Go.RowKit Go.Shelf Go.Lib

set_option maxHeartbeats 4000000 in
theorem lsubF_calls {k : Nat} {w : World} {v u : Value} {c d : Int} {A B : List Pt} (h : TermA k w v c A) (g : TermA k w u d B) (hk : k ≤ 300000) :
    Calls Tryd.prog 8 #[v, u] w fun e w' => TermF w (c - d) (fun x => cf x (ps A) - cf x (ps B)) e w' := by
  obtain ⟨cn, ca, cL, cc, pa, pl, pc, rfl⟩ := h.form
  obtain ⟨dn, da, dL, dc, qa, ql, qc, rfl⟩ := g.form
  have tb := ((Thr.new w (.bool cn) (.slice ca cL cc) (.slice pa pl pc) 27).alloc (.cells #[.bool dn, .slice da dL dc, .slice qa ql qc] 27)).alloc (.cells #[.bool false, .slice none 0 0, .slice none 0 0] 27)
  have tc := (Thr.new1 w (.cells #[.bool cn, .slice ca cL cc, .slice pa pl pc] 27) (.bool dn) (.slice da dL dc) (.slice qa ql qc) 27).alloc (.cells #[.bool false, .slice none 0 0, .slice none 0 0] 27)
  have tz := Thr.new2 w (.cells #[.bool cn, .slice ca cL cc, .slice pa pl pc] 27) (.cells #[.bool dn, .slice da dL dc, .slice qa ql qc] 27) (.bool false) (.slice none 0 0) (.slice none 0 0) 27
  have hba := bel3 w (.cells #[.bool cn, .slice ca cL cc, .slice pa pl pc] 27) (.cells #[.bool dn, .slice da dL dc, .slice qa ql qc] 27) (.cells #[.bool false, .slice none 0 0, .slice none 0 0] 27)
  generalize hwA : ((w.alloc (.cells #[.bool cn, .slice ca cL cc, .slice pa pl pc] 27)).alloc (.cells #[.bool dn, .slice da dL dc, .slice qa ql qc] 27)).alloc (.cells #[.bool false, .slice none 0 0, .slice none 0 0] 27) = wA at *
  have HWA := hide hwA
  have TB := hide tb
  have TC := hide tc
  have TZ := hide tz
  have HBA := hide hba
  have HT := hide h
  have HG := hide g
  have HS : Hid (∀ X : World, Below wA.heap.size wA X → X.cell? ⟨w.heap.size, 0, none⟩ = some (.bool cn) ∧ X.cell? ⟨w.heap.size, 1, none⟩ = some (.slice ca cL cc) ∧ X.cell? ⟨w.heap.size, 2, none⟩ = some (.slice pa pl pc) ∧ X.cell? ⟨w.heap.size + 1, 0, none⟩ = some (.bool dn) ∧ X.cell? ⟨w.heap.size + 1, 1, none⟩ = some (.slice da dL dc) ∧ X.cell? ⟨w.heap.size + 1, 2, none⟩ = some (.slice qa ql qc)) := fun X hX => ⟨(TB.out.keep hX).c0, (TB.out.keep hX).c1, (TB.out.keep hX).c2, (TC.out.keep hX).c0, (TC.out.keep hX).c1, (TC.out.keep hX).c2⟩
  clear hwA tb tc tz hba h g
  go_enter Tryd.func8, Tryd.ntmps8
  go_upto_region 1 with fail
  rw [HWA.out]
  refine wp_region_held_drew (S := fun X : World => X.cell? ⟨w.heap.size, 0, none⟩ = some (.bool cn) ∧ X.cell? ⟨w.heap.size, 1, none⟩ = some (.slice ca cL cc) ∧ X.cell? ⟨w.heap.size, 2, none⟩ = some (.slice pa pl pc) ∧ X.cell? ⟨w.heap.size + 1, 0, none⟩ = some (.bool dn) ∧ X.cell? ⟨w.heap.size + 1, 1, none⟩ = some (.slice da dL dc) ∧ X.cell? ⟨w.heap.size + 1, 2, none⟩ = some (.slice qa ql qc)) (by kernel_rfl) ?_ (fun hHeld => ?_)
  · exact HS.out _ (by (first | exact (Below.refl _ _).drew | exact Below.refl _ _))
  refine takeD (i := 0) (v := ?v1) (some 5) rfl (by kernel_rfl) (by kernel_rfl) (by kernel_rfl) (fun _ _ _ h => h) (Or.inl ⟨by rfl, ?hy1⟩) (by assumption) (by rfl) ?rest1
  case hy1 => first | (intro w hSw; (try dsimp only at hSw); obtain ⟨q0, q1, q2, q3, q4, q5⟩ := hSw; go_simp; done) | (intro w hSw; (try dsimp only at hSw); obtain ⟨q0, q1, q2, q3, q4, q5⟩ := hSw; go_simp; with_reducible rfl)
  try simp only [Act.put, List.setIfInBounds_toArray, List.set_cons_zero, List.set_cons_succ]
  refine takeD (i := 1) (v := ?v2) (some 6) rfl (by kernel_rfl) (by kernel_rfl) (by kernel_rfl) (fun _ _ _ h => h) (Or.inl ⟨by rfl, ?hy2⟩) (by assumption) (by rfl) ?rest2
  case hy2 => first | (intro w hSw; (try dsimp only at hSw); obtain ⟨q0, q1, q2, q3, q4, q5⟩ := hSw; go_simp; done) | (intro w hSw; (try dsimp only at hSw); obtain ⟨q0, q1, q2, q3, q4, q5⟩ := hSw; go_simp; with_reducible rfl)
  try simp only [Act.put, List.setIfInBounds_toArray, List.set_cons_zero, List.set_cons_succ]
  refine wpAnyH_ready (rs := [2]) (by kernel_rfl) (by simp) ?_
  refine AllReadyH.cons rfl (fun K hK => ?_) AllReadyH.nil
  go_simp
  refine (bof_calls _ (-1) (by omega) (by omega)).mono ?_
  rintro e w1 ⟨v1, rfl, hr1, hb1⟩
  obtain ⟨nb, na, nL, nc, rfl⟩ := hr1.form
  have HB1 : Hid (Below wA.heap.size wA w1) := bafter (by (first | exact (Below.refl _ _).drew | exact Below.refl _ _)) hb1 (Nat.le_refl _)
  have HR1 := hide hr1
  clear hr1 hb1 hHeld
  go_wp2_with fail
  refine hK.out _ _ (HS.out _ HB1.out) (fun hHeld => ?_)
  clear hK K
  try simp only [Act.put, List.setIfInBounds_toArray, List.set_cons_zero, List.set_cons_succ]
  refine wpAnyH_ready (rs := [3]) (by kernel_rfl) (by simp) ?_
  refine AllReadyH.cons rfl (fun K hK => ?_) AllReadyH.nil
  go_simp
  refine (scale_calls (HG.out.below (bafter HBA.out HB1.out (Nat.le_refl _))) (HR1.out.arg (one_lt_R (by decide)) (by omega)) (by omega)).mono ?_
  rintro e w2 ⟨v2, M2, rfl, ht2, hc2, hb2⟩
  obtain ⟨en, ea, eL, ec, sa, sl, sc, rfl⟩ := ht2.form
  have HB2 := hide (bafter HB1.out hb2 (Nat.le_refl _))
  have HT2 := hide ht2
  have HC2 := hide hc2
  clear ht2 hc2 hb2 hHeld
  go_wp2_with fail
  refine hK.out _ _ (HS.out _ HB2.out) (fun hHeld => ?_)
  clear hK K
  try simp only [Act.put, List.setIfInBounds_toArray, List.set_cons_zero, List.set_cons_succ]
  refine wpAnyH_ready (rs := [4]) (by kernel_rfl) (by simp) ?_
  refine AllReadyH.cons rfl (fun K hK => ?_) AllReadyH.nil
  go_simp
  have hA2 : TermA (k + 1 + 1000) w2 (.agg #[.bool en, .slice ea eL ec, .slice sa sl sc]) (d * -1) M2 := by
    have h1 := HT2.out.bounded (l := times (-1) (ps B)) (k := k + 1) (fun x => by rw [HC2.out, times, cf_scale]) (bnd_times HG.out.bnd.1 (one_lt_R (by decide))) (by rw [times_length, ps_length]; exact HG.out.len) (bl_mul HG.out.bnd.2 (one_lt_R (by decide))) (by omega)
    rw [times_length, ps_length] at h1
    exact h1.up (by have := HG.out.len; omega)
  refine (laddF_calls ((HT.out.below (bafter HBA.out HB2.out (Nat.le_refl _))).up (by omega)) hA2 (by omega)).mono ?_
  clear hA2
  rintro e w3 ⟨v3, M3, rfl, ht3, hc3, ho3, hb3⟩
  have HOW3 := hide (ho3.down (Nat.le_trans HBA.out.size HB2.out.size))
  clear ho3
  obtain ⟨fn, fa, fL, fc, ta, tl, tc, rfl⟩ := ht3.form
  have HB3 := hide (bafter HB2.out hb3 (Nat.le_refl _))
  have HT3 := hide ht3
  have HC3 := hide hc3
  clear ht3 hc3 hb3 hHeld
  go_wp2_with fail
  refine hK.out _ _ (HS.out _ HB3.out) (fun hHeld => ?_)
  clear hK K
  try simp only [Act.put, List.setIfInBounds_toArray, List.set_cons_zero, List.set_cons_succ]
  have TZ4 := hide (TZ.out.keep HB3.out)
  obtain ⟨d0, d1, d2, f0, f1, f2⟩ := TZ4.out.every
  have HTR : Hid (TermR w3 (.agg #[.bool fn, .slice fa fL fc, .slice ta tl tc]) (c - d) M3) := by
    have h1 := HT3.out
    rw [show c + d * -1 = c - d by omega] at h1
    exact h1
  have HS5 : Hid (let X := put3 w3 (w.heap.size + 2) (.bool fn) (.slice fa fL fc) (.slice ta tl tc); X.cell? ⟨w.heap.size, 0, none⟩ = some (.bool cn) ∧ X.cell? ⟨w.heap.size, 1, none⟩ = some (.slice ca cL cc) ∧ X.cell? ⟨w.heap.size, 2, none⟩ = some (.slice pa pl pc) ∧ X.cell? ⟨w.heap.size + 1, 0, none⟩ = some (.bool dn) ∧ X.cell? ⟨w.heap.size + 1, 1, none⟩ = some (.slice da dL dc) ∧ X.cell? ⟨w.heap.size + 1, 2, none⟩ = some (.slice qa ql qc)) := by
    show _ ∧ _ ∧ _ ∧ _ ∧ _ ∧ _
    rw [put3_cells (by omega), put3_cells (by omega), put3_cells (by omega), put3_cells (by omega), put3_cells (by omega), put3_cells (by omega)]
    exact HS.out _ HB3.out
  refine wpAnyH_ready (rs := [5]) (by kernel_rfl) (by simp) ?_
  refine AllReadyH.cons rfl (fun K hK => ?_) AllReadyH.nil
  go_simp
  refine hK.out _ _ (HS5.out) (fun hHeld => ?_)
  clear hK K hHeld
  try simp only [Act.put, List.setIfInBounds_toArray, List.set_cons_zero, List.set_cons_succ]
  refine wpAnyH_done (by kernel_rfl) ?_ _
  clear d0 d1 d2 f0 f1 f2
  go_wp2
  refine bodyPost_ret (results_term rfl rfl (TZ4.out.put _ _ _)) rfl ?_
  exact ⟨_, _, rfl, HTR.out.but (TZ4.out.but _ _ _), (fun u => by rw [HC3.out, HC2.out]; show _ = cf u (ps A) - cf u (ps B); omega), HOW3.out.put TZ4.out _ _ _, put3_below (bafter HBA.out HB3.out (Nat.le_refl _)) (by omega) _ _ _⟩
theorem lsub_calls {k : Nat} {w : World} {v u : Value} {c d : Int} {A B : List Pt} (h : TermA k w v c A) (g : TermA k w u d B) (hk : k ≤ 300000) :
    Calls Tryd.prog 8 #[v, u] w fun e w' => TermE w (c - d) (fun x => cf x (ps A) - cf x (ps B)) e w' :=
  (lsubF_calls h g hk).mono fun e w' ⟨v, M, h1, h2, h3, _, h4⟩ => ⟨v, M, h1, h2, h3, h4⟩

end Go.Proofs.YtkdhcpfmlelfcaaDoor

namespace Go.Proofs.YtkdhcpfmlelfcaaDoor
set_option linter.unusedVariables false
set_option linter.unusedSimpArgs false
set_option maxRecDepth 100000
open Go Go.RowKit Go.Shelf Go.Lib

theorem row_lit3 (W : World) (a1 a2 a3 : Int) (b1 b2 b3 : Bool) (c1 c2 c3 : Value) (z1 z2 z3 : Int) : RowP (W.alloc (.cells #[.int .i64 a1, .bool b1, c1, .int .i64 a2, .bool b2, c2, .int .i64 a3, .bool b3, c3] 31)) (.slice (some ⟨W.heap.size, 0, none⟩) 3 3) [(a1, b1, c1, z1), (a2, b2, c2, z2), (a3, b3, c3, z3)] := by
  refine ⟨some ⟨W.heap.size, 0, none⟩, 3, rfl, Nat.le_refl _, by simp [maxLen], fun j m hj => ?_⟩
  match j, hj with
  | 0, hj =>
    simp at hj
    subst hj
    exact ⟨_, _, rfl, World.cell?_alloc_mark W _ _ (0, 0) 0, World.cell?_alloc_mark W _ _ (0, 0) 1, World.cell?_alloc_mark W _ _ (0, 0) 2⟩
  | 1, hj =>
    simp at hj
    subst hj
    exact ⟨_, _, rfl, World.cell?_alloc_mark W _ _ (0, 0) 3, World.cell?_alloc_mark W _ _ (0, 0) 4, World.cell?_alloc_mark W _ _ (0, 0) 5⟩
  | 2, hj =>
    simp at hj
    subst hj
    exact ⟨_, _, rfl, World.cell?_alloc_mark W _ _ (0, 0) 6, World.cell?_alloc_mark W _ _ (0, 0) 7, World.cell?_alloc_mark W _ _ (0, 0) 8⟩
  | n + 3, hj => simp at hj
theorem TermR.few {W : World} {v : Value} {c : Int} {M : List Pt} {l : Ps} (h : TermR W v c M) (hl : ps M = l) (hb : ∀ p ∈ l, p.2.natAbs ≤ 1000) (hc : c.natAbs ≤ 1000) (hn : l.length ≤ 1000) : TermA 1 W v c M := by
  refine h.arg (lt_R1 hc) (fun p hp => lt_R1 (hb p (by rw [← hl]; exact hp))) (by omega) ?_
  have := congrArg List.length hl
  rw [ps_length] at this
  omega
theorem nf_one (v z : Int) (hz : z ≠ 0) : NF [(v, z)] := ⟨by simp, fun p hp => by simp at hp; subst hp; exact hz⟩
theorem ex_text1 : textL 5 [(1, 2)] = [50, 42, 120, 49, 43, 53] := by decide +kernel
theorem ex_text2 : textL 3 [(2, 2)] = [50, 42, 120, 50, 43, 51] := by decide +kernel
theorem ex_cf1 (u : Int) : cf u [(3, 1), (1, 2), (3, -1)] = cf u [(1, 2)] := by
  simp only [cf_cons, cf_nil]
  (repeat' split) <;> omega
theorem ex_cf2 (u : Int) : (if u = 1 then 0 else cf u [(1, 2)]) + cf u [(2, 1)] * cf 1 [(1, 2)] = cf u [(2, 2)] := by
  have h : cf 1 [(1, 2)] = 2 := rfl
  rw [h]
  simp only [cf_cons, cf_nil]
  (repeat' split) <;> omega
theorem rng_small {v : Int} (h : v.natAbs ≤ 1000) : Rng v := by unfold Rng; omega

set_option maxHeartbeats 4000000 in
theorem summed_calls (w : World) (htab : TabIs Tryd.prog w "internal/strconv.uint64pow10" .u64 pow10Tab) :
    Calls Tryd.prog 4 #[] w fun e w' => e = .returned (.bool true) ∧ Below w.heap.size w w' := by
  have HTAB := hide htab
  clear htab
  go_enter Tryd.func4, Tryd.ntmps4
  go_wp2_with fail
  refine (bof_calls w (5) (by omega) (by omega)).mono ?_
  rintro e w1 ⟨v1, rfl, hr1, hb1⟩
  obtain ⟨n1, a1, L1, c1, rfl⟩ := hr1.form
  have HR1 := hide hr1
  have HBS1 := hide hb1
  have HB1 := hide hb1
  clear hr1 hb1
  go_wp2_with fail
  refine (bof_calls w1 (1) (by omega) (by omega)).mono ?_
  rintro e w2 ⟨v2, rfl, hr2, hb2⟩
  obtain ⟨n2, a2, L2, c2, rfl⟩ := hr2.form
  have HR2 := hide hr2
  have HBS2 := hide hb2
  have HB2 := hide (bafter HB1.out hb2 (Nat.le_refl _))
  clear hr2 hb2
  go_wp2_with fail
  refine (bof_calls w2 (2) (by omega) (by omega)).mono ?_
  rintro e w3 ⟨v3, rfl, hr3, hb3⟩
  obtain ⟨n3, a3, L3, c3, rfl⟩ := hr3.form
  have HR3 := hide hr3
  have HBS3 := hide hb3
  have HB3 := hide (bafter HB2.out hb3 (Nat.le_refl _))
  clear hr3 hb3
  go_wp2_with fail
  refine (bof_calls w3 (-1) (by omega) (by omega)).mono ?_
  rintro e w4 ⟨v4, rfl, hr4, hb4⟩
  obtain ⟨n4, a4, L4, c4, rfl⟩ := hr4.form
  have HR4 := hide hr4
  have HBS4 := hide hb4
  have HB4 := hide (bafter HB3.out hb4 (Nat.le_refl _))
  clear hr4 hb4
  have hbl := bel w4 (.cells #[.int .i64 3, .bool n2, .slice a2 L2 c2, .int .i64 1, .bool n3, .slice a3 L3 c3, .int .i64 3, .bool n4, .slice a4 L4 c4] 31)
  have HB5 := hide (bafter HB4.out hbl (Nat.le_refl _))
  have HROW := hide (row_lit3 w4 3 1 3 n2 n3 n4 (.slice a2 L2 c2) (.slice a3 L3 c3) (.slice a4 L4 c4) 1 2 (-1))
  have HR1 := hide ((((HR1.out.below HBS2.out).below HBS3.out).below HBS4.out).below hbl)
  have HR2 := hide (((HR2.out.below HBS3.out).below HBS4.out).below hbl)
  have HR3 := hide ((HR3.out.below HBS4.out).below hbl)
  have HR4 := hide (HR4.out.below hbl)
  generalize hw5 : w4.alloc (.cells #[.int .i64 3, .bool n2, .slice a2 L2 c2, .int .i64 1, .bool n3, .slice a3 L3 c3, .int .i64 3, .bool n4, .slice a4 L4 c4] 31) = w5 at *
  have HW5 := hide hw5
  have hTA : TermA 1 w5 (.agg #[.bool n1, .slice a1 L1 c1, .slice (some ⟨w4.heap.size, 0, none⟩) 3 3]) 5 [((3, n2, .slice a2 L2 c2, 1) : Pt), (1, n3, .slice a3 L3 c3, 2), (3, n4, .slice a4 L4 c4, -1)] := by
    refine ⟨_, _, _, _, _, _, _, rfl, HR1.out.arg (lt_R1 (by decide)) (by omega), lt_R1 (by decide), HROW.out, fun m hm => ?_, fun p hp => ?_, .inl (by simp), by simp⟩
    · simp at hm
      rcases hm with rfl | rfl | rfl
      · exact ⟨rng_small (by show (3 : Int).natAbs ≤ 1000; decide), HR2.out.arg (lt_R1 (by decide)) (by omega)⟩
      · exact ⟨rng_small (by show (1 : Int).natAbs ≤ 1000; decide), HR3.out.arg (lt_R1 (by decide)) (by omega)⟩
      · exact ⟨rng_small (by show (3 : Int).natAbs ≤ 1000; decide), HR4.out.arg (lt_R1 (by decide)) (by omega)⟩
    · simp [ps, pt] at hp
      rcases hp with rfl | rfl | rfl <;> exact lt_R1 (by decide)
  have hno := lnorm_calls hTA (by omega)
  clear hbl hw5 hTA
  go_wp2_with fail
  rw [HW5.out]
  refine hno.mono ?_
  rintro e w6 ⟨v6, M6, rfl, ht6, hc6, hb6⟩
  obtain ⟨en, ea, eL, ec, sa, sl, sc, rfl⟩ := ht6.form
  have hp6 : ps M6 = [(1, 2)] := nf_unique ht6.nf (nf_one 1 2 (by omega)) (fun u => by
    rw [hc6]
    exact ex_cf1 u)
  have hbx := bel w6 (.cells #[.bool en, .slice ea eL ec, .slice sa sl sc] 27)
  have HB7 := hide (bafter (bafter HB5.out hb6 (Nat.le_refl _)) hbx (Nat.le_refl _))
  have TB := hide (Thr.new w6 (.bool en) (.slice ea eL ec) (.slice sa sl sc) 27)
  have HT7 := hide (ht6.below hbx)
  have HP6 := hide hp6
  generalize hw7 : w6.alloc (.cells #[.bool en, .slice ea eL ec, .slice sa sl sc] 27) = w7 at *
  have HW7 := hide hw7
  clear hno ht6 hc6 hb6 hp6 hbx hw7
  have HS : Hid (∀ X : World, Below w7.heap.size w7 X → X.cell? ⟨w6.heap.size, 0, none⟩ = some (.bool en) ∧ X.cell? ⟨w6.heap.size, 1, none⟩ = some (.slice ea eL ec) ∧ X.cell? ⟨w6.heap.size, 2, none⟩ = some (.slice sa sl sc)) := fun X hX => ⟨(TB.out.keep hX).c0, (TB.out.keep hX).c1, (TB.out.keep hX).c2⟩
  have HTA := hide (HT7.out.few HP6.out (fun p hp => by simp at hp; subst hp; decide) (by decide) (by simp))
  go_upto_region 2 with fail
  rw [HW7.out]
  refine wp_region_held_drew (S := fun X : World => X.cell? ⟨w6.heap.size, 0, none⟩ = some (.bool en) ∧ X.cell? ⟨w6.heap.size, 1, none⟩ = some (.slice ea eL ec) ∧ X.cell? ⟨w6.heap.size, 2, none⟩ = some (.slice sa sl sc)) (by kernel_rfl) ?_ (fun hHeld => ?_)
  · exact HS.out _ (by (first | exact (Below.refl _ _).drew | exact Below.refl _ _))
  refine takeD (i := 0) (v := ?v1) (some 12) rfl (by kernel_rfl) (by kernel_rfl) (by kernel_rfl) (fun _ _ _ h => h) (Or.inl ⟨by rfl, ?hy1⟩) (by assumption) (by rfl) ?rest1
  case hy1 => first | (intro w hSw; (try dsimp only at hSw); obtain ⟨q0, q1, q2⟩ := hSw; go_simp; done) | (intro w hSw; (try dsimp only at hSw); obtain ⟨q0, q1, q2⟩ := hSw; go_simp; with_reducible rfl)
  try simp only [Act.put, List.setIfInBounds_toArray, List.set_cons_zero, List.set_cons_succ]
  refine wpAnyH_ready (rs := [1]) (by kernel_rfl) (by simp) ?_
  refine AllReadyH.cons rfl (fun K hK => ?_) AllReadyH.nil
  go_simp
  refine (text_calls2 (HTA.out.below (by (first | exact (Below.refl _ _).drew | exact Below.refl _ _))) (by omega) (by omega) (tab_keep HTAB.out (bafter HB7.out (by (first | exact (Below.refl _ _).drew | exact Below.refl _ _)) (Nat.le_refl _)))).mono ?_
  rintro e w8 ⟨l8, rfl, hn8, hc8, hb8⟩
  obtain rfl : l8 = [(1, 2)] := nf_unique hn8 (nf_one 1 2 (by omega)) (fun u => by rw [hc8, HP6.out])
  rw [ex_text1]
  have HB8 : Hid (Below w7.heap.size w7 w8) := bafter (by (first | exact (Below.refl _ _).drew | exact Below.refl _ _)) hb8 (Nat.le_refl _)
  clear hn8 hc8 hb8 hHeld
  go_wp2_with fail
  refine hK.out _ _ (HS.out _ HB8.out) (fun hHeld => ?_)
  clear hK K
  try simp only [Act.put, List.setIfInBounds_toArray, List.set_cons_zero, List.set_cons_succ]
  refine takeD (i := 2) (v := ?v2) (some 14) rfl (by kernel_rfl) (by kernel_rfl) (by kernel_rfl) (fun _ _ _ h => h) (Or.inl ⟨by rfl, ?hy2⟩) (by assumption) (by rfl) ?rest2
  case hy2 => first | (intro w hSw; (try dsimp only at hSw); obtain ⟨q0, q1, q2⟩ := hSw; go_simp; done) | (intro w hSw; (try dsimp only at hSw); obtain ⟨q0, q1, q2⟩ := hSw; go_simp; with_reducible rfl)
  try simp only [Act.put, List.setIfInBounds_toArray, List.set_cons_zero, List.set_cons_succ]
  refine takeD (i := 3) (v := ?v3) (some 15) rfl (by kernel_rfl) (by kernel_rfl) (by kernel_rfl) (fun _ _ _ h => h) (Or.inl ⟨by rfl, ?hy3⟩) (by assumption) (by rfl) ?rest3
  case hy3 => first | (intro w hSw; (try dsimp only at hSw); obtain ⟨q0, q1, q2⟩ := hSw; go_simp; done) | (intro w hSw; (try dsimp only at hSw); obtain ⟨q0, q1, q2⟩ := hSw; go_simp; with_reducible rfl)
  try simp only [Act.put, List.setIfInBounds_toArray, List.set_cons_zero, List.set_cons_succ]
  refine takeD (i := 4) (v := ?v4) (some 16) rfl (by kernel_rfl) (by kernel_rfl) (by kernel_rfl) (fun _ _ _ h => h) (Or.inl ⟨by rfl, ?hy4⟩) (by assumption) (by rfl) ?rest4
  case hy4 => first | (intro w hSw; (try dsimp only at hSw); obtain ⟨q0, q1, q2⟩ := hSw; go_simp; done) | (intro w hSw; (try dsimp only at hSw); obtain ⟨q0, q1, q2⟩ := hSw; go_simp; with_reducible rfl)
  try simp only [Act.put, List.setIfInBounds_toArray, List.set_cons_zero, List.set_cons_succ]
  refine wpAnyH_ready (rs := [5]) (by kernel_rfl) (by simp) ?_
  refine AllReadyH.cons rfl (fun K hK => ?_) AllReadyH.nil
  go_simp
  refine (lvar_calls w8 2 (rng_small (by decide))).mono ?_
  rintro e w9 ⟨v9, nb9, mv9, rfl, ht9, hb9⟩
  obtain ⟨fn, fa, fL, fc, ta, tl, tc, rfl⟩ := ht9.form
  have HB9 := hide (bafter HB8.out hb9 (Nat.le_refl _))
  have HT9 := hide ht9
  clear ht9 hb9 hHeld
  go_wp2_with fail
  refine hK.out _ _ (HS.out _ HB9.out) (fun hHeld => ?_)
  clear hK K
  try simp only [Act.put, List.setIfInBounds_toArray, List.set_cons_zero, List.set_cons_succ]
  refine wpAnyH_ready (rs := [6]) (by kernel_rfl) (by simp) ?_
  refine AllReadyH.cons rfl (fun K hK => ?_) AllReadyH.nil
  go_simp
  refine (bof_calls w9 1 (by omega) (by omega)).mono ?_
  rintro e w10 ⟨v10, rfl, hr10, hb10⟩
  obtain ⟨gn, ga, gL, gc, rfl⟩ := hr10.form
  have HB10 := hide (bafter HB9.out hb10 (Nat.le_refl _))
  have HBS10 := hide hb10
  have HR10 := hide hr10
  clear hr10 hb10 hHeld
  go_wp2_with fail
  refine hK.out _ _ (HS.out _ HB10.out) (fun hHeld => ?_)
  clear hK K
  try simp only [Act.put, List.setIfInBounds_toArray, List.set_cons_zero, List.set_cons_succ]
  refine wpAnyH_ready (rs := [7]) (by kernel_rfl) (by simp) ?_
  refine AllReadyH.cons rfl (fun K hK => ?_) AllReadyH.nil
  go_simp
  refine (lof_calls (HR10.out.arg (lt_R1 (by decide)) (by omega))).mono ?_
  rintro e w11 ⟨v11, M11, rfl, ht11, hc11, hb11⟩
  obtain ⟨hn, ha, hL, hc, ua, ul, uc, rfl⟩ := ht11.form
  have HB11 := hide (bafter HB10.out hb11 (Nat.le_refl _))
  have HBS11 := hide hb11
  have HT11 := hide ht11
  have HP11 : Hid (ps M11 = []) := nf_unique ht11.nf NF.nil (fun u => by rw [hc11]; rfl)
  clear ht11 hc11 hb11 hHeld
  go_wp2_with fail
  refine hK.out _ _ (HS.out _ HB11.out) (fun hHeld => ?_)
  clear hK K
  try simp only [Act.put, List.setIfInBounds_toArray, List.set_cons_zero, List.set_cons_succ]
  refine wpAnyH_ready (rs := [8]) (by kernel_rfl) (by simp) ?_
  refine AllReadyH.cons rfl (fun K hK => ?_) AllReadyH.nil
  go_simp
  refine (lsub_calls (((HT9.out.below HBS10.out).below HBS11.out).few (l := [(2, 1)]) rfl (fun p hp => by simp at hp; subst hp; decide) (by decide) (by simp)) (HT11.out.few HP11.out (fun p hp => by cases hp) (by decide) (by simp)) (by omega)).mono ?_
  rintro e w12 ⟨v12, M12, rfl, ht12, hc12, hb12⟩
  obtain ⟨in1, ia, iL, ic, xa, xl, xc, rfl⟩ := ht12.form
  have HB12 := hide (bafter HB11.out hb12 (Nat.le_refl _))
  have HT12 := hide ht12
  have HP12 : Hid (ps M12 = [(2, 1)]) := nf_unique ht12.nf (nf_one 2 1 (by omega)) (fun u => by rw [hc12, HP11.out]; show cf u [(2, 1)] - 0 = _; omega)
  clear ht12 hc12 hb12 hHeld
  go_wp2_with fail
  refine hK.out _ _ (HS.out _ HB12.out) (fun hHeld => ?_)
  clear hK K
  try simp only [Act.put, List.setIfInBounds_toArray, List.set_cons_zero, List.set_cons_succ]
  refine wpAnyH_ready (rs := [9]) (by kernel_rfl) (by simp) ?_
  refine AllReadyH.cons rfl (fun K hK => ?_) AllReadyH.nil
  go_simp
  refine (subst_calls (HTA.out.below HB12.out) 1 (HT12.out.few HP12.out (fun p hp => by simp at hp; subst hp; decide) (by decide) (by simp)) (by omega)).mono ?_
  rintro e w13 ⟨v13, M13, rfl, ht13, hc13, hb13⟩
  obtain ⟨jn, ja, jL, jc, ya, yl, yc, rfl⟩ := ht13.form
  have HB13 := hide (bafter HB12.out hb13 (Nat.le_refl _))
  have HP13 : Hid (ps M13 = [(2, 2)]) := nf_unique ht13.nf (nf_one 2 2 (by omega)) (fun u => by
    rw [hc13, HP6.out, HP12.out]
    exact ex_cf2 u)
  have hc3 : (5 : Int) + (0 - 1) * cf 1 (ps M6) = 3 := by rw [HP6.out]; rfl
  rw [hc3] at ht13
  have HT13 := hide ht13
  clear ht13 hc13 hb13 hHeld hc3
  go_wp2_with fail
  refine hK.out _ _ (HS.out _ HB13.out) (fun hHeld => ?_)
  clear hK K
  try simp only [Act.put, List.setIfInBounds_toArray, List.set_cons_zero, List.set_cons_succ]
  refine wpAnyH_ready (rs := [10]) (by kernel_rfl) (by simp) ?_
  refine AllReadyH.cons rfl (fun K hK => ?_) AllReadyH.nil
  go_simp
  refine (text_calls2 (HT13.out.few HP13.out (fun p hp => by simp at hp; subst hp; decide) (by decide) (by simp)) (by omega) (by omega) (tab_keep HTAB.out (bafter HB7.out HB13.out (Nat.le_refl _)))).mono ?_
  rintro e w14 ⟨l14, rfl, hn14, hc14, hb14⟩
  obtain rfl : l14 = [(2, 2)] := nf_unique hn14 (nf_one 2 2 (by omega)) (fun u => by rw [hc14, HP13.out])
  rw [ex_text2]
  have HB14 := hide (bafter HB13.out hb14 (Nat.le_refl _))
  clear hn14 hc14 hb14 hHeld
  go_wp2_with fail
  refine hK.out _ _ (HS.out _ HB14.out) (fun hHeld => ?_)
  clear hK K
  try simp only [Act.put, List.setIfInBounds_toArray, List.set_cons_zero, List.set_cons_succ]
  refine takeD (i := 11) (v := ?v5) (some 23) rfl (by kernel_rfl) (by kernel_rfl) (by kernel_rfl) (fun _ _ _ h => h) (Or.inl ⟨by rfl, ?hy5⟩) (by assumption) (by rfl) ?rest5
  case hy5 => first | (intro w hSw; (try dsimp only at hSw); obtain ⟨q0, q1, q2⟩ := hSw; go_simp; done) | (intro w hSw; (try dsimp only at hSw); obtain ⟨q0, q1, q2⟩ := hSw; go_simp; with_reducible rfl)
  try simp only [Act.put, List.setIfInBounds_toArray, List.set_cons_zero, List.set_cons_succ]
  refine takeD (i := 12) (v := ?v6) (some 24) rfl (by kernel_rfl) (by kernel_rfl) (by kernel_rfl) (fun _ _ _ h => h) (Or.inl ⟨by rfl, ?hy6⟩) (by assumption) (by rfl) ?rest6
  case hy6 => first | (intro w hSw; (try dsimp only at hSw); obtain ⟨q0, q1, q2⟩ := hSw; go_simp; done) | (intro w hSw; (try dsimp only at hSw); obtain ⟨q0, q1, q2⟩ := hSw; go_simp; with_reducible rfl)
  try simp only [Act.put, List.setIfInBounds_toArray, List.set_cons_zero, List.set_cons_succ]
  refine wpAnyH_ready (rs := [13]) (by kernel_rfl) (by simp) ?_
  refine AllReadyH.cons rfl (fun K hK => ?_) AllReadyH.nil
  go_simp
  refine hK.out _ _ (HS.out _ HB14.out) (fun hHeld => ?_)
  clear hK K hHeld
  try simp only [Act.put, List.setIfInBounds_toArray, List.set_cons_zero, List.set_cons_succ]
  refine wpAnyH_done (by kernel_rfl) ?_ _
  go_wp2
  go_ret
  exact ⟨rfl, bafter HB7.out HB14.out (Nat.le_refl _)⟩

end Go.Proofs.YtkdhcpfmlelfcaaDoor

namespace Go.Proofs.YtkdhcpfmlelfcaaDoor
set_option linter.unusedVariables false
set_option linter.unusedSimpArgs false
set_option maxRecDepth 100000
open Go Go.RowKit Go.Shelf Go.Lib

set_option maxHeartbeats 1000000 in
theorem gsmall_yes {w : World} {neg : Bool} {a : Option Addr} {L c : Nat} (h : L ≤ 4) :
    Calls Tryd.prog 16 #[.agg #[.bool neg, .slice a L c]] w fun e w' => e = .returned (.bool true) ∧ Below w.heap.size w w' := by
  have d1 : decide ((L : Int) ≤ 4) = true := decide_eq_true (by omega)
  go_enter Tryd.func16, Tryd.ntmps16
  go_wp2
  go_ret
  exact ⟨by simp, bel w _⟩

set_option maxHeartbeats 1000000 in
theorem gsmall_no {w : World} {neg : Bool} {a : Option Addr} {L c : Nat} (h : ¬ L ≤ 4) :
    Calls Tryd.prog 16 #[.agg #[.bool neg, .slice a L c]] w fun e w' => e = .returned (.bool false) ∧ Below w.heap.size w w' := by
  have d1 : decide ((L : Int) ≤ 4) = false := decide_eq_false (by omega)
  go_enter Tryd.func16, Tryd.ntmps16
  go_wp2
  go_ret
  exact ⟨by simp, bel w _⟩

end Go.Proofs.YtkdhcpfmlelfcaaDoor

namespace Go.Proofs.YtkdhcpfmlelfcaaDoor
set_option linter.unusedVariables false
set_option linter.unusedSimpArgs false
set_option maxRecDepth 100000
open Go Go.RowKit Go.Shelf Go.Lib

theorem gsmall_any {w : World} {neg : Bool} {a : Option Addr} {L c : Nat} :
    Calls Tryd.prog 16 #[.agg #[.bool neg, .slice a L c]] w fun e w' => e = .returned (.bool (decide (L ≤ 4))) ∧ Below w.heap.size w w' := by
  by_cases h : L ≤ 4
  · rw [decide_eq_true h]
    exact gsmall_yes h
  · rw [decide_eq_false h]
    exact gsmall_no h
def LightP (M : List Pt) (cL : Nat) : Prop := M.length ≤ 12 ∧ cL ≤ 4 ∧ ∀ m ∈ M, lenV m.2.2.1 ≤ 4
def LightE (w : World) (M : List Pt) (cL : Nat) (e : Ending) (w' : World) : Prop := ∃ r, e = .returned (.bool r) ∧ (r = true ↔ LightP M cL) ∧ Below w.heap.size w w'

set_option maxHeartbeats 4000000 in
theorem light_calls {w : World} {cn : Bool} {ca pa : Option Addr} {cL cc pl pc : Nat} {M : List Pt} (hr : RowP w (.slice pa pl pc) M) (hs : Sl M) :
    Calls Tryd.prog 5 #[.agg #[.bool cn, .slice ca cL cc, .slice pa pl pc]] w fun e w' => LightE w M cL e w' := by
  have tb := Thr.new w (.bool cn) (.slice ca cL cc) (.slice pa pl pc) 27
  have hba := bel w (.cells #[.bool cn, .slice ca cL cc, .slice pa pl pc] 27)
  have HBA := hide hba
  have TB := hide tb
  have HSL := hide hs
  obtain ⟨_, _, e, _, _, h3⟩ := hr
  simp only [Value.slice.injEq] at e
  obtain ⟨rfl, rfl, rfl⟩ := e
  have H3 := hide h3
  clear h3 hs tb hba
  generalize hLn : M.length = Ln at *
  have HLN := hide hLn
  clear hLn
  by_cases h12 : Ln ≤ 12
  · have g0 : ¬ (12 : Int) < (Ln : Int) := by omega
    have g1 : decide ((12 : Int) < (Ln : Int)) = false := decide_eq_false g0
    by_cases hc : cL ≤ 4
    · have hsm := gsmall_yes (w := w.alloc (.cells #[.bool cn, .slice ca cL cc, .slice pa Ln pc] 27)) (neg := cn) (a := ca) (c := cc) hc
      have HC := hide hc
      clear hc
      go_enter Tryd.func5, Tryd.ntmps5
      go_wp2_with fail
      refine hsm.mono ?_
      rintro e w1 ⟨rfl, hb1⟩
      have TB1 := hide (TB.out.keep hb1)
      have HB1 := hide (bafter HBA.out hb1 (Nat.le_refl _))
      clear hsm hb1
      go_wp2
      go_loopw [3] (fun iv wr => ∃ i : Nat, i ≤ Ln ∧ iv = .int .i64 (i : Int) ∧ (∀ m ∈ M.take i, lenV m.2.2.1 ≤ 4) ∧ Thr wr w.heap.size (.bool cn) (.slice ca cL cc) (.slice pa Ln pc) 27 ∧ Below w.heap.size w wr) (fun iv _ => Ln - (RowKit.intOf iv).toNat)
      case atStart => exact ⟨0, Nat.zero_le _, rfl, fun m hm => (by simp at hm), TB1.out, HB1.out⟩
      case round =>
        obtain ⟨i, hi, rfl, hall, htb, hbw⟩ := hrel
        obtain ⟨c0, c1, c2, _, _, _⟩ := htb.every
        have HALL := hide hall
        have HTB := hide htb
        have HBW := hide hbw
        clear hall htb hbw
        by_cases hlt : i < Ln
        · obtain ⟨⟨vr, neg, mv, z⟩, hm⟩ : ∃ m, M[i]? = some m := ⟨_, List.getElem?_eq_getElem (by rw [HLN.out]; exact hlt)⟩
          obtain ⟨ma, mL, mc, e⟩ := HSL.out _ (List.mem_of_getElem? hm)
          simp only at e
          subst e
          obtain ⟨b, o, rfl, hcl⟩ := H3.out i _ hm
          obtain ⟨x0, x1, x2⟩ := hcl.below HBW.out
          dsimp only at x0 x1 x2
          have d1 : (i : Int) < (Ln : Int) := by omega
          have d0 : (0 : Int) ≤ (i : Int) := by omega
          have HM := hide hm
          clear hm hcl
          by_cases hL : mL ≤ 4
          · have hsm := gsmall_yes (w := wr) (neg := neg) (a := ma) (c := mc) hL
            have HL := hide hL
            clear hL
            go_wp2_with fail
            refine hsm.mono ?_
            rintro e w4 ⟨rfl, hb4⟩
            have HT4 := hide (HTB.out.keep hb4)
            have HB4 := hide (bafter HBW.out hb4 (Nat.le_refl _))
            clear hsm hb4
            go_wp2
            go_roundw
            case rel =>
              refine ⟨i + 1, by omega, by go_num, fun m hm => ?_, HT4.out, HB4.out⟩
              rw [List.take_add_one, HM.out] at hm
              rcases List.mem_append.1 hm with hm | hm
              · exact HALL.out m hm
              · simp at hm
                subst hm
                exact HL.out
            case measure => simp [RowKit.intOf]; omega
          · have hsm := gsmall_no (w := wr) (neg := neg) (a := ma) (c := mc) hL
            have HL := hide hL
            clear hL
            go_wp2_with fail
            refine hsm.mono ?_
            rintro e w4 ⟨rfl, hb4⟩
            have HB4 := hide (bafter HBW.out hb4 (Nat.le_refl _))
            clear hsm hb4
            go_wp2
            go_ret
            refine ⟨false, rfl, ⟨fun h => (by cases h), fun h => absurd (h.2.2 _ (List.mem_of_getElem? HM.out)) ?_⟩, HB4.out⟩
            exact HL.out
        · obtain rfl : i = Ln := by omega
          have d1 : ¬ (i : Int) < (i : Int) := by omega
          go_wp2
          go_ret
          refine ⟨true, rfl, ⟨fun _ => ⟨by rw [HLN.out]; omega, HC.out, fun m hm => HALL.out m ?_⟩, fun _ => rfl⟩, HBW.out⟩
          rw [List.take_of_length_le (by rw [HLN.out]; omega)]
          exact hm
    · have hsm := gsmall_no (w := w.alloc (.cells #[.bool cn, .slice ca cL cc, .slice pa Ln pc] 27)) (neg := cn) (a := ca) (c := cc) hc
      have HC := hide hc
      clear hc
      go_enter Tryd.func5, Tryd.ntmps5
      go_wp2_with fail
      refine hsm.mono ?_
      rintro e w1 ⟨rfl, hb1⟩
      have HB1 := hide (bafter HBA.out hb1 (Nat.le_refl _))
      clear hsm hb1
      go_wp2
      go_ret
      exact ⟨false, rfl, ⟨fun h => (by cases h), fun h => absurd h.2.1 HC.out⟩, HB1.out⟩
  · have g0 : (12 : Int) < (Ln : Int) := by omega
    have H12 := hide h12
    clear h12
    go_enter Tryd.func5, Tryd.ntmps5
    go_wp2
    go_ret
    exact ⟨false, rfl, ⟨fun h => (by cases h), fun h => absurd h.1 (by rw [HLN.out]; exact H12.out)⟩, HBA.out⟩

end Go.Proofs.YtkdhcpfmlelfcaaDoor

namespace Go.Proofs.YtkdhcpfmlelfcaaDoor
set_option linter.unusedVariables false
set_option linter.unusedSimpArgs false
set_option maxRecDepth 100000
open Go Go.RowKit Go.Shelf Go.Lib Go.ChangeShapes Go.WideShapes Go.ChangeAt

theorem cellsTerm : Tryd.prog.cellsOf 27 = 3 := by kernel_rfl
theorem cellsPart : Tryd.prog.cellsOf 31 = 3 := by kernel_rfl
theorem cellsParts : Tryd.prog.cellsOf 25 = 1 := by kernel_rfl
theorem cellsInt : Tryd.prog.cellsOf 3 = 1 := by kernel_rfl

/-- A slice of limbs, of which few are known to be limbs. -/
theorem limbs_few {H : Type} {enc : TypeId × Value → H} {W : World} {fuel : Nat} {c : Value} {x : DataW H × List MemPlace}
    (hf : DataW.trod enc Tryd.prog W 0 (fun _ => true) true fuel 22 [c] = some x) : ∃ a L cap, c = .slice a L cap ∧ (L ≤ 8 → ∃ xs, Limbs W c xs ∧ xs.length = L) := by
  rcases open_ints Tryd.underlying22 Tryd.underlying53 cellsU32 hf with ⟨hcs, _⟩ | ⟨y, len0, cap0, zs, hcs, _, hl, hm, hz, hx, hcell, hwz⟩
  · simp at hcs
    subst hcs
    exact ⟨none, 0, 0, rfl, fun _ => ⟨[], Limbs.nil W, rfl⟩⟩
  · simp at hcs
    subst hcs
    refine ⟨some y, len0, cap0, rfl, fun h8 => ?_⟩
    simp only [if_true] at hz
    have hl0 : ((zs.take len0).map Int.toNat).length = len0 := by simp; omega
    have hw : ∀ n ∈ zs, 0 ≤ n ∧ n < 4294967296 := fun n hn => by
      have := hwz n hn
      simp [Lit.wf, IntKind.min, IntKind.max, IntKind.signed, IntKind.bits] at this
      omega
    refine ⟨(zs.take len0).map Int.toNat, ⟨some y, cap0, by rw [hl0], by rw [hl0]; exact hl, by omega, ?_, fun j hj => ?_⟩, hl0⟩
    · intro u hu
      obtain ⟨n, hn, rfl⟩ := List.mem_map.1 hu
      have := hw n (List.mem_of_mem_take hn)
      rw [R_eq]
      omega
    · rw [hl0] at hj
      have hc := hcell j (by omega)
      have hc0 := hcell 0 (by omega)
      obtain ⟨b, off, spot⟩ := y
      have hspot : spot = none := by simpa [Addr.add] using World.cell?_spot hc0
      subst hspot
      rw [addr_add] at hc
      refine ⟨b, off, rfl, ?_⟩
      have hjz : j < zs.length := by omega
      have hmem := hw zs[j] (List.getElem_mem hjz)
      have e1 : nth ((zs.take len0).map Int.toNat) j = (zs[j]).toNat := by
        rw [nth_eq (by simp; omega)]
        simp
      rw [e1, Int.toNat_of_nonneg hmem.1]
      simpa [List.getD, hjz] using hc
/-- A number with a sign, as a part of something. -/
theorem big_few {H : Type} {enc : TypeId × Value → H} {W : World} {fuel : Nat} {c0 c1 : Value} {x : DataW H × List MemPlace}
    (hf : DataW.trod enc Tryd.prog W 0 (fun _ => true) true fuel 24 [c0, c1] = some x) : ∃ b a L cap, c0 = .bool b ∧ c1 = .slice a L cap ∧ (L ≤ 8 → ∃ xs, Limbs W c1 xs ∧ xs.length = L) := by
  obtain ⟨y0, y1, m, hx, _, hy0, hy1⟩ := trod_struct2 Tryd.underlying24 hf
  simp [Value.cells, cellsBool, cellsSl] at hy0 hy1
  obtain ⟨b, e0, _⟩ := DataW.trod_bool Tryd.underlying4 hy0
  simp at e0
  obtain ⟨a, L, cap, e1, h⟩ := limbs_few hy1
  exact ⟨b, a, L, cap, e0, e1, h⟩
/-- What a part that came in is: its number, if it is small. -/
def PIn (W : World) (m : Pt) : Prop := Rng m.1 ∧ ∃ a L c, m.2.2.1 = .slice a L c ∧ (L ≤ 8 → ∃ xs, Limbs W m.2.2.1 xs ∧ xs.length = L ∧ m.2.2.2 = sgn m.2.1 (val R xs))
theorem part_of {H : Type} {enc : TypeId × Value → H} {W : World} {n : Nat} {b off i : Nat} {cs : List Value} {x : DataW H × List MemPlace}
    (h1 : W.cells? 0 ((⟨b, off, none⟩ : Addr).add (i * 3)) 3 = some cs) (h2 : DataW.trod enc Tryd.prog W 0 (fun _ => true) true n 31 cs = some x) :
    ∃ m : Pt, PIn W m ∧ CellsP W b (off + i * 3) m := by
  obtain ⟨_, hlen, hcell⟩ := World.cells?_some h1
  match cs, hlen with
  | [v0, v1, v2], _ =>
    obtain ⟨y0, y1, k, _, _, g0, g1⟩ := trod_struct2 Tryd.underlying31 h2
    simp [cellsInt, cellsBig] at g0 g1
    obtain ⟨z, e0, _, hz⟩ := DataW.trod_int Tryd.underlying3 g0
    simp at e0
    obtain ⟨sg0, a, L, cap, e1, e2, hlim⟩ := big_few g1
    subst e0 e1 e2
    have k0 := hcell 0 (by omega)
    have k1 := hcell 1 (by omega)
    have k2 := hcell 2 (by omega)
    rw [addr_add, addr_add] at k0 k1 k2
    have hrg : Rng z := by
      simp [Lit.wf, IntKind.min, IntKind.max, IntKind.signed, IntKind.bits] at hz
      unfold Rng
      omega
    by_cases h8 : L ≤ 8
    · obtain ⟨xs, hx, hxl⟩ := hlim h8
      exact ⟨(z, sg0, .slice a L cap, sgn sg0 (val R xs)), ⟨hrg, a, L, cap, rfl, fun _ => ⟨xs, hx, hxl, rfl⟩⟩, by simpa using k0, by simpa using k1, by simpa using k2⟩
    · exact ⟨(z, sg0, .slice a L cap, 0), ⟨hrg, a, L, cap, rfl, fun h => absurd h h8⟩, by simpa using k0, by simpa using k1, by simpa using k2⟩
theorem spot_none3 {W : World} {a : Addr} {n : Nat} {cs : List Value} (hn : 0 < n) (h : W.cells? 0 a n = some cs) : ∃ b o, a = ⟨b, o, none⟩ := by
  obtain ⟨_, hlen, hcell⟩ := World.cells?_some h
  have h0 := hcell 0 (by omega)
  rw [List.getElem?_eq_getElem (by omega)] at h0
  obtain ⟨b, o, sp⟩ := a
  have hs : sp = none := by
    have := World.cell?_spot h0
    simpa [Addr.add] using this
  subst hs
  exact ⟨b, o, rfl⟩
theorem parts_in {H : Type} {enc : TypeId × Value → H} {W : World} {fuel : Nat} {v : Value} {x : DataW H × List MemPlace}
    (hf : DataW.trod enc Tryd.prog W 0 (fun _ => true) true fuel 25 [v] = some x) : ∃ pa pl pc M, v = .slice pa pl pc ∧ RowP W (.slice pa pl pc) M ∧ ∀ m ∈ M, PIn W m := by
  rcases Go.Deep.open_slice Tryd.underlying25 hf with ⟨h0, _⟩ | ⟨a, len, cap, m, n, D, Pl, hcs, hb, hl, hm, hmm, hx, hel⟩
  · simp at h0
    subst h0
    exact ⟨none, 0, 0, [], rfl, (⟨none, 0, rfl, Nat.le_refl _, by simp [maxLen], fun j m hj => by simp at hj⟩ : RowP W (.slice none 0 0) []), fun m hm => by cases hm⟩
  · simp at hcs
    subst hcs
    simp only [if_true] at hmm
    subst hmm
    rw [cellsPart] at hel
    rcases Nat.eq_zero_or_pos len with h0 | hpos
    · subst h0
      exact ⟨some a, 0, m, [], rfl, ⟨some a, m, rfl, Nat.zero_le _, hm, fun j x hj => by simp at hj⟩, fun m hm => by cases hm⟩
    · obtain ⟨cs0, hc0, _⟩ := hel 0 (by omega)
      rw [Nat.zero_mul] at hc0
      obtain ⟨b, off, rfl⟩ : ∃ b o, a = ⟨b, o, none⟩ := by
        obtain ⟨b, o, e⟩ := spot_none3 (by omega) hc0
        obtain ⟨ab, ao, sp⟩ := a
        simp [Addr.add] at e
        exact ⟨b, o, by simp [e]⟩
      obtain ⟨f, hff⟩ := Go.Deep.choose_lt (α := Pt) (n := len) (p := fun i y => PIn W y ∧ CellsP W b (off + i * 3) y) (fun i hi => by
        obtain ⟨cs', h1, h2⟩ := hel i (by omega)
        exact part_of h1 h2)
      refine ⟨some ⟨b, off, none⟩, len, m, (List.range len).map f, rfl, ⟨some ⟨b, off, none⟩, m, by simp, by simpa using hl, hm, fun j y hj => ?_⟩, fun y hy => ?_⟩
      · simp only [List.getElem?_map, Option.map_eq_some_iff] at hj
        obtain ⟨i, hi, rfl⟩ := hj
        obtain ⟨hi1, rfl⟩ := List.getElem?_eq_some_iff.1 hi
        simp only [List.length_range] at hi1
        simp only [List.getElem_range]
        exact ⟨b, off, rfl, (hff j hi1).2⟩
      · obtain ⟨i, hi, rfl⟩ := List.mem_map.1 hy
        exact (hff i (by simpa using hi)).1
/-- A sum that came in. -/
def TermI (W : World) (v : Value) (cn : Bool) (ca : Option Addr) (cL cc : Nat) (pa : Option Addr) (pl pc : Nat) (M : List Pt) : Prop :=
  v = .agg #[.bool cn, .slice ca cL cc, .slice pa pl pc] ∧ RowP W (.slice pa pl pc) M ∧ (∀ m ∈ M, PIn W m) ∧ (cL ≤ 8 → ∃ xs, Limbs W (.slice ca cL cc) xs ∧ xs.length = cL)
theorem term_in {H : Type} {enc : TypeId × Value → H} {W : World} {base : Nat} {v : Value} {d : DataW H} {ps : List MemPlace}
    (hval : Value.okWide Tryd.prog W .any base 27 v) (h : DataW.Trod enc Tryd.prog W 0 (fun _ => true) true 27 v d ps) :
    ∃ cn ca cL cc pa pl pc M, TermI W v cn ca cL cc pa pl pc M := by
  obtain ⟨cs, rfl, hcl⟩ := okWide_struct Tryd.underlying27 hval
  rw [cellsTerm] at hcl
  obtain ⟨l⟩ := cs
  match l, hcl with
  | [c0, c1, c2], _ =>
    obtain ⟨fuel, hf⟩ := h
    obtain ⟨y0, y1, m, hx, _, hy0, hy1⟩ := trod_struct2 Tryd.underlying27 hf
    simp [Value.cells, cellsBig, cellsParts] at hy0 hy1
    obtain ⟨b, a, L, cap, e0, e1, hlim⟩ := big_few hy0
    obtain ⟨pa, pl, pc, M, e2, hr, hp⟩ := parts_in hy1
    subst e0 e1 e2
    exact ⟨b, a, L, cap, pa, pl, pc, M, rfl, hr, hp, hlim⟩

theorem TermI.sl {w : World} {v : Value} {cn : Bool} {ca : Option Addr} {cL cc : Nat} {pa : Option Addr} {pl pc : Nat} {M : List Pt} (h : TermI w v cn ca cL cc pa pl pc M) : Sl M := fun m hm => by
  obtain ⟨_, a, L, c, e, _⟩ := h.2.2.1 m hm
  exact ⟨a, L, c, e⟩
theorem TermI.light {w W : World} {v : Value} {cn : Bool} {ca : Option Addr} {cL cc : Nat} {pa : Option Addr} {pl pc : Nat} {M : List Pt} (h : TermI w v cn ca cL cc pa pl pc M) (hb : Below w.heap.size w W) :
    Calls Tryd.prog 5 #[.agg #[.bool cn, .slice ca cL cc, .slice pa pl pc]] W fun e w' => LightE W M cL e w' := light_calls (h.2.1.below hb) h.sl
theorem TermI.small {w : World} {v : Value} {cn : Bool} {ca : Option Addr} {cL cc : Nat} {pa : Option Addr} {pl pc : Nat} {M : List Pt} (h : TermI w v cn ca cL cc pa pl pc M) (hl : LightP M cL) : ∃ c, TermA 8 w v c M ∧ RowP w (.slice pa pl pc) M ∧ M.length ≤ 12 ∧ (∀ m ∈ M, Rng m.1 ∧ ∃ xs, Limbs w m.2.2.1 xs) := by
  obtain ⟨rfl, hr, hp, hx⟩ := h
  obtain ⟨h12, h4, hm4⟩ := hl
  obtain ⟨xs, hxs, hxl⟩ := hx (by omega)
  have hlim : ∀ m ∈ M, Rng m.1 ∧ ∃ ys, Limbs w m.2.2.1 ys ∧ ys.length ≤ 8 ∧ m.2.2.2 = sgn m.2.1 (val R ys) := fun m hm => by
    obtain ⟨h1, a, L, c, e, h2⟩ := hp m hm
    have h3 := hm4 m hm
    rw [e] at h3
    simp only [lenV] at h3
    obtain ⟨ys, hy, hyl, hz⟩ := h2 (by omega)
    exact ⟨h1, ys, hy, by omega, hz⟩
  have hcb : (sgn cn (val R xs)).natAbs < R ^ 8 := bl_limbs hxs.small (by omega)
  have hbp : ∀ p ∈ ps M, p.2.natAbs < R ^ 8 := fun p hp2 => by
    obtain ⟨m, hm, rfl⟩ := List.mem_map.1 hp2
    obtain ⟨_, ys, hy, hyl, hz⟩ := hlim m hm
    show m.2.2.2.natAbs < _
    rw [hz]
    exact bl_limbs hy.small hyl
  refine ⟨sgn cn (val R xs), ⟨cn, ca, cL, cc, pa, pl, pc, rfl, box_arg hxs (by omega), hcb, hr, fun m hm => ?_, hbp, .inl h12, by omega⟩, hr, h12, fun m hm => ⟨(hlim m hm).1, ?_⟩⟩
  · obtain ⟨h1, ys, hy, hyl, hz⟩ := hlim m hm
    refine ⟨h1, ?_⟩
    rw [hz]
    exact ⟨_, _, _, rfl, ⟨ys, hy, by omega, rfl⟩, rfl⟩
  · obtain ⟨_, ys, hy, _⟩ := hlim m hm
    exact ⟨ys, hy⟩

end Go.Proofs.YtkdhcpfmlelfcaaDoor
