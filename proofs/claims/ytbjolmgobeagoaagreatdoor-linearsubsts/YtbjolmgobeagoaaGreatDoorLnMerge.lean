/- Parts of two one forms together: merged. -/
import Derived.Test.YtbjolmgobeagoaaGreatDoorLnTerm
namespace Go.Proofs.YtbjolmgobeagoaaGreatDoor
set_option linter.unusedVariables false
set_option linter.unusedSimpArgs false
set_option maxRecDepth 100000
open Go Go.RowKit Go.Shelf Go.Lib

/-- What was put together so far, and what is left of both. -/
structure Mrg (k0 : Nat) (A B X A' B' : List Pt) : Prop where
  rise : Rise (ps X)
  cf : ∀ u, cf u (ps X) + cf u (ps A') + cf u (ps B') = cf u (ps A) + cf u (ps B)
  la : ∀ x ∈ X, ∀ a ∈ A', x.1 < a.1
  lb : ∀ x ∈ X, ∀ b ∈ B', x.1 < b.1
  na : NF (ps A')
  nb : NF (ps B')
  sa : ∀ m ∈ A', m ∈ A
  sb : ∀ m ∈ B', m ∈ B
  len : X.length + A'.length + B'.length ≤ A.length + B.length
  bnd : Bnd (k0 + 1) (ps X)

theorem rise_snoc {X : List Pt} {p : Pt} (h : Rise (ps X)) (hx : ∀ x ∈ X, x.1 < p.1) : Rise (ps (X ++ [p])) := by
  rw [ps_append]
  refine List.pairwise_append.2 ⟨h, by simp [ps], fun a ha b hb => ?_⟩
  simp only [ps, List.map_cons, List.map_nil, List.mem_singleton] at hb
  subst hb
  obtain ⟨x, hx2, rfl⟩ := List.mem_map.1 ha
  exact hx x hx2
theorem nf_heads {x : Pt} {A : List Pt} (h : NF (ps (x :: A))) : ∀ a ∈ A, x.1 < a.1 := fun a ha => h.head (pt a) (List.mem_map.2 ⟨a, ha, rfl⟩)
theorem bnd_snoc {k : Nat} {X : List Pt} {p : Pt} (h : Bnd k (ps X)) (hp : p.2.2.2.natAbs < R ^ k) : Bnd k (ps (X ++ [p])) := by
  rw [ps_append]
  intro q hq
  rcases List.mem_append.1 hq with hq | hq
  · exact h q hq
  · simp only [ps, List.map_cons, List.map_nil, List.mem_singleton] at hq
    subst hq
    exact hp
theorem Mrg.left {k0 : Nat} {A B X A' B' : List Pt} {x y : Pt} (h : Mrg k0 A B X (x :: A') (y :: B')) (hxy : x.1 < y.1) (hb : Bnd k0 (ps A)) : Mrg k0 A B (X ++ [x]) A' (y :: B') := by
  refine ⟨rise_snoc h.rise (fun z hz => h.la z hz x (by simp)), fun u => ?_, fun z hz a ha => ?_, fun z hz b hb2 => ?_, h.na.tail, h.nb, fun m hm => h.sa m (by simp [hm]), h.sb, ?_, bnd_snoc h.bnd (lt_up (hb (pt x) (List.mem_map.2 ⟨x, h.sa x (by simp), rfl⟩)) (by omega))⟩
  · have := h.cf u
    rw [ps_append, cf_append]
    simp only [ps, List.map_cons, List.map_nil, cf_cons, cf_nil] at this ⊢
    omega
  · rcases List.mem_append.1 hz with hz | hz
    · exact h.la z hz a (by simp [ha])
    · simp at hz
      subst hz
      exact nf_heads h.na a ha
  · rcases List.mem_append.1 hz with hz | hz
    · exact h.lb z hz b hb2
    · simp at hz
      subst hz
      rcases List.mem_cons.1 hb2 with rfl | hb3
      · exact hxy
      · have := nf_heads h.nb b hb3
        omega
  · have := h.len
    simp at this ⊢
    omega
theorem Mrg.right {k0 : Nat} {A B X A' B' : List Pt} {x y : Pt} (h : Mrg k0 A B X (x :: A') (y :: B')) (hxy : y.1 < x.1) (hb : Bnd k0 (ps B)) : Mrg k0 A B (X ++ [y]) (x :: A') B' := by
  refine ⟨rise_snoc h.rise (fun z hz => h.lb z hz y (by simp)), fun u => ?_, fun z hz a ha => ?_, fun z hz b hb2 => ?_, h.na, h.nb.tail, h.sa, fun m hm => h.sb m (by simp [hm]), ?_, bnd_snoc h.bnd (lt_up (hb (pt y) (List.mem_map.2 ⟨y, h.sb y (by simp), rfl⟩)) (by omega))⟩
  · have := h.cf u
    rw [ps_append, cf_append]
    simp only [ps, List.map_cons, List.map_nil, cf_cons, cf_nil] at this ⊢
    omega
  · rcases List.mem_append.1 hz with hz | hz
    · exact h.la z hz a ha
    · simp at hz
      subst hz
      rcases List.mem_cons.1 ha with rfl | ha3
      · exact hxy
      · have := nf_heads h.na a ha3
        omega
  · rcases List.mem_append.1 hz with hz | hz
    · exact h.lb z hz b (by simp [hb2])
    · simp at hz
      subst hz
      exact nf_heads h.nb b hb2
  · have := h.len
    simp at this ⊢
    omega
theorem Mrg.both {k0 : Nat} {A B X A' B' : List Pt} {x y : Pt} (h : Mrg k0 A B X (x :: A') (y :: B')) (hxy : x.1 = y.1) (ha : Bnd k0 (ps A)) (hb : Bnd k0 (ps B)) (n : Bool) (mv : Value) : Mrg k0 A B (X ++ [(x.1, n, mv, x.2.2.2 + y.2.2.2)]) A' B' := by
  refine ⟨rise_snoc h.rise (fun z hz => h.la z hz x (by simp)), fun u => ?_, fun z hz a ha => ?_, fun z hz b hb2 => ?_, h.na.tail, h.nb.tail, fun m hm => h.sa m (by simp [hm]), fun m hm => h.sb m (by simp [hm]), ?_, bnd_snoc h.bnd (pl_add (ha (pt x) (List.mem_map.2 ⟨x, h.sa x (by simp), rfl⟩)) (hb (pt y) (List.mem_map.2 ⟨y, h.sb y (by simp), rfl⟩)))⟩
  · have := h.cf u
    rw [ps_append, cf_append]
    simp only [ps, List.map_cons, List.map_nil, cf_cons, cf_nil, pt] at this ⊢
    rw [← hxy] at this
    split at this <;> omega
  · rcases List.mem_append.1 hz with hz | hz
    · exact h.la z hz a (by simp [ha])
    · simp at hz
      subst hz
      exact nf_heads h.na a ha
  · rcases List.mem_append.1 hz with hz | hz
    · exact h.lb z hz b (by simp [hb2])
    · simp at hz
      subst hz
      have := nf_heads h.nb b hb2
      simp only
      omega
  · have := h.len
    simp at this ⊢
    omega
theorem mrg_start {k0 : Nat} {A B : List Pt} (ha : NF (ps A)) (hb : NF (ps B)) : Mrg k0 A B [] A B :=
  ⟨List.Pairwise.nil, fun u => by simp [ps, cf], fun x hx => (by cases hx), fun x hx => (by cases hx), ha, hb, fun m hm => hm, fun m hm => hm, by simp, fun p hp => by simp [ps] at hp⟩
theorem Mrg.ends {k0 : Nat} {A B X A' B' : List Pt} (h : Mrg k0 A B X A' B') (he : A' = [] ∨ B' = []) : Rise (ps (X ++ A' ++ B')) := by
  have h1 : ∀ {Z : List Pt}, NF (ps Z) → (∀ x ∈ X, ∀ z ∈ Z, x.1 < z.1) → Rise (ps (X ++ Z)) := by
    intro Z hz hl
    rw [ps_append]
    refine List.pairwise_append.2 ⟨h.rise, hz.1, fun a ha b hb => ?_⟩
    obtain ⟨x, hx, rfl⟩ := List.mem_map.1 ha
    obtain ⟨z, hz2, rfl⟩ := List.mem_map.1 hb
    exact hl x hx z hz2
  rcases he with rfl | rfl
  · rw [List.append_nil]
    exact h1 h.nb h.lb
  · rw [List.append_nil]
    exact h1 h.na h.la
theorem bnd_all {k0 : Nat} {A B X A' B' : List Pt} (h : Mrg k0 A B X A' B') (ha : Bnd k0 (ps A)) (hb : Bnd k0 (ps B)) : Bnd (k0 + 1) (ps (X ++ A' ++ B')) := by
  intro p hp
  rw [ps_append, ps_append] at hp
  rcases List.mem_append.1 hp with hp | hp
  · rcases List.mem_append.1 hp with hp | hp
    · exact h.bnd p hp
    · obtain ⟨m, hm, rfl⟩ := List.mem_map.1 hp
      exact lt_up (ha (pt m) (List.mem_map.2 ⟨m, h.sa m hm, rfl⟩)) (by omega)
  · obtain ⟨m, hm, rfl⟩ := List.mem_map.1 hp
    exact lt_up (hb (pt m) (List.mem_map.2 ⟨m, h.sb m hm, rfl⟩)) (by omega)

/-- A row without its first part. -/
theorem RowP.cut {W : World} {co : Option Addr} {n cc : Nat} {m : Pt} {M : List Pt} (h : RowP W (.slice co n cc) (m :: M)) (hm : M.length ≤ 1048576) :
    ∃ aG c1, (∀ W' : World, (Instr.slice 25 (.slice co n cc) (some (.int .i64 1)) none none).run Tryz.prog W' = .ok (.slice aG M.length c1) W') ∧ RowP W (.slice aG M.length c1) M := by
  obtain ⟨ao, cap, e, h1, h2, h3⟩ := h
  simp only [Value.slice.injEq] at e
  obtain ⟨rfl, rfl, rfl⟩ := e
  simp only [List.length_cons] at h1
  refine ⟨if cc = 1 then co else co.map (·.add 3), cc - 1, fun W' => ?_, ?_⟩
  · have h4 := run_slice_l (P := Tryz.prog) (w := W') 25 co (m :: M).length cc (by kernel_rfl) .i64 (1 : Int) (by omega) (by simp only [List.length_cons]; omega)
    rw [h4]
    go_simp
  · refine ⟨_, _, rfl, by omega, by omega, fun j x hj => ?_⟩
    obtain ⟨b, o, rfl, hc⟩ := h3 (j + 1) x (by simpa using hj)
    have hlt : j < M.length := (List.getElem?_eq_some_iff.1 hj).1
    refine ⟨b, o + 3, by rw [if_neg (by omega)]; simp [Addr.add], ?_⟩
    rw [show o + 3 + j * 3 = o + (j + 1) * 3 by omega]
    exact hc
def lenV : Value → Nat
  | .slice _ n _ => n
  | _ => 0
def MergE (w : World) (A B : List Pt) (e : Ending) (w' : World) : Prop :=
  ∃ v' M', e = .returned v' ∧ OwnP w.heap.size w' v' M' ∧ GoodR w' M' ∧ NF (ps M') ∧ (∀ u, cf u (ps M') = cf u (ps A) + cf u (ps B)) ∧ Below w.heap.size w w'
theorem merg_end {k0 : Nat} {A B X A' B' : List Pt} (h : Mrg k0 A B X A' B') (he : A' = [] ∨ B' = []) : NF (ps ((X ++ A' ++ B').filter fun m => !decide (m.2.2.2 = 0))) ∧ ∀ u, cf u (ps ((X ++ A' ++ B').filter fun m => !decide (m.2.2.2 = 0))) = cf u (ps A) + cf u (ps B) := by
  have hr := h.ends he
  have hcf : ∀ u, cf u (ps (X ++ A' ++ B')) = cf u (ps A) + cf u (ps B) := fun u => by
    rw [ps_append, ps_append, cf_append, cf_append]
    exact h.cf u
  generalize X ++ A' ++ B' = Z at *
  refine ⟨⟨hr.sublist ((List.filter_sublist (l := Z)).map pt), fun p hp => ?_⟩, fun u => ?_⟩
  · obtain ⟨m, hm, rfl⟩ := List.mem_map.1 hp
    have := (List.mem_filter.1 hm).2
    simpa [pt] using this
  · have e1 : ps (Z.filter fun m => !decide (m.2.2.2 = 0)) = (ps Z).filter fun p => decide (p.2 ≠ 0) := by
      unfold ps
      rw [List.filter_map]
      congr 1
      apply List.filter_congr
      intro m hm
      by_cases h0 : m.2.2.2 = 0 <;> simp [pt, h0]
    rw [e1, cf_nonzero, hcf]

set_option maxHeartbeats 8000000 in
theorem merged_calls {w : World} {av bv : Value} {A B : List Pt} {k0 : Nat} (ha : RowP w av A) (hb : RowP w bv B) (ga : GoodR w A) (gb : GoodR w B) (na : NF (ps A)) (nb : NF (ps B)) (ba : Bnd k0 (ps A)) (bb : Bnd k0 (ps B)) (hk : k0 ≤ 500000) (la : A.length ≤ 1000) (lb : B.length ≤ 1000) :
    Calls Tryz.prog 64 #[av, bv] w fun e w' => MergE w A B e w' := by
  have HA := hide ha
  have HB := hide hb
  have HGA := hide ga
  have HGB := hide gb
  have HNA := hide na
  have HNB := hide nb
  have HBA := hide ba
  have HBB := hide bb
  obtain ⟨aa, ac, rfl, _, _, _⟩ := ha
  obtain ⟨ca, cc, rfl, _, _, _⟩ := hb
  clear ga gb na nb ba bb
  generalize hLa : A.length = La at *
  generalize hLb : B.length = Lb at *
  have HLA := hide hLa
  have HLB := hide hLb
  clear hLa hLb
  obtain ⟨Lc, hLc⟩ : ∃ Lc, Lc = La + Lb := ⟨_, rfl⟩
  have hsum : IntKind.i64.wrap ((La : Int) + (Lb : Int)) = (Lc : Int) := by
    rw [wrapN (by omega) (by omega)]
    omega
  have HLC := hide hLc
  have m1 : (0 : Int) ≤ (Lc : Int) := by omega
  have HMADE := hide (own_made (n := w.heap.size) w Lc (Nat.le_refl _) (by unfold maxLen; omega))
  have HBM := hide (bel w (.cells (Builtin.zeroCells zPart.cells Lc) 89))
  have hmk := make_parts w Lc (by omega)
  clear hLc
  generalize hwm : w.alloc (.cells (Builtin.zeroCells zPart.cells Lc) 89) = wm at *
  clear hwm
  go_enter Tryz.func64, Tryz.ntmps64
  go_wp2
  clear hmk
  go_loopw [0, 1, 5] (fun pv qv ov wr => ∃ (A' B' X : List Pt) (pa : Option Addr) (pc : Nat) (qa : Option Addr) (qc : Nat) (oa : Option Addr) (oc : Nat), pv = .slice pa A'.length pc ∧ qv = .slice qa B'.length qc ∧ ov = .slice oa X.length oc ∧ RowP w (.slice pa A'.length pc) A' ∧ RowP w (.slice qa B'.length qc) B' ∧ Mrg k0 A B X A' B' ∧ OwnP w.heap.size wr (.slice oa X.length oc) X ∧ GoodR wr X ∧ Below w.heap.size w wr) (fun pv qv _ _ => lenV pv + lenV qv)
  case atStart =>
    have e1 := HLA.out
    have e2 := HLB.out
    subst e1
    subst e2
    exact ⟨A, B, [], _, _, _, _, _, _, rfl, rfl, rfl, HA.out, HB.out, mrg_start HNA.out HNB.out, HMADE.out, fun m hm => (by cases hm), HBM.out⟩
  case round =>
    obtain ⟨A', B', X, pa, pc, qa, qc, oa, oc, rfl, rfl, rfl, hpr, hqr, hmg, ho, hgr, hbw⟩ := hrel
    have HPR := hide hpr
    have HQR := hide hqr
    have HMG := hide hmg
    have HO := hide ho
    have HGR := hide hgr
    have HBW := hide hbw
    have HXL := hide hmg.len
    clear hpr hqr hmg ho hgr hbw
    cases A' with
    | nil =>
      simp only [List.length_nil] at HPR HXL ⊢
      generalize hBl : B'.length = l2 at *
      have HBl := hide hBl
      clear hBl
      obtain ⟨v3, w3, hrun3, ho3, hg3, ha3, hk3⟩ := run_appP wr w.heap.size 25 _ X HO.out _ [] (HPR.out.below HBW.out) (fun m hm => by cases hm) (by have h9 := HXL.out; have h8 := HLA.out; have h7 := HLB.out; (try have h6 := HL1.out); (try have h5 := HBl.out); simp only [List.length_append, List.length_cons, List.length_nil] at *; omega) HBW.out.size
      have HB3 : Hid (Below w.heap.size w w3) := HBW.out.grown hg3 HBW.out.size (fun j hj => (HO.out.lt hj).1)
      obtain ⟨v4, w4, hrun4, ho4, hg4, ha4, hk4⟩ := run_appP w3 w.heap.size 25 _ (X ++ []) ho3 _ B' (HQR.out.below HB3.out) (fun m hm => HGB.out.sl.one m (HMG.out.sb m hm)) (by have h9 := HXL.out; have h8 := HLA.out; have h7 := HLB.out; (try have h6 := HL1.out); (try have h5 := HBl.out); simp only [List.length_append, List.length_cons, List.length_nil] at *; omega) HB3.out.size
      have HB4 : Hid (Below w.heap.size w w4) := HB3.out.grown hg4 HB3.out.size (fun j hj => (ho3.lt hj).1)
      have HG4 : Hid (GoodR w4 (X ++ [] ++ B')) := by
        intro m hm
        rcases List.mem_append.1 hm with h | h
        · rcases List.mem_append.1 h with h | h
          · exact ((HGR.out.k32 hk3).k32 hk4) m h
          · cases h
        · exact (HGB.out.below HB4.out) m (HMG.out.sb m h)
      have HGA4 := hide (HG4.out.arg (bnd_all HMG.out HBA.out HBB.out) (by omega))
      have hwz := wz_calls ho4 HGA4.out (by have h9 := HXL.out; have h8 := HLA.out; have h7 := HLB.out; (try have h6 := HL1.out); (try have h5 := HBl.out); simp only [List.length_append, List.length_cons, List.length_nil] at *; omega) HB4.out.size
      obtain ⟨oa3, oc3, rfl, _, _⟩ := ho3.len
      obtain ⟨oa4, oc4, rfl, _, _⟩ := ho4.len
      clear ho3 hg3 ha3 hk3 ho4 hg4 ha4 hk4
      have HEND := hide (merg_end HMG.out (.inl rfl))
      have l0 : ¬ (0 : Int) < 0 := by omega
      generalize hxl : X.length = xl at *
      clear hxl
      generalize hX3 : (X ++ []).length = x3 at *
      clear hX3
      generalize hX4 : (X ++ [] ++ B').length = x4 at *
      clear hX4
      go_wp2_with (at_builtin; go_must (first | (refine Lib.wpList_append_run _ rfl _ _ _ _ rfl _ _ rfl rfl _ _ hrun3 ?_; clear hrun3) | (refine Lib.wpList_append_run _ rfl _ _ _ _ rfl _ _ rfl rfl _ _ hrun4 ?_)))
      refine hwz.mono ?_
      rintro e w5 ⟨v5, rfl, ho5, hf5⟩
      obtain ⟨ao5, n5, cap5, rfl⟩ : ∃ a n c, v5 = .slice a n c := (by obtain ⟨a, c, e, _⟩ := ho5.len; exact ⟨_, _, _, e⟩)
      have HO5 := hide ho5
      have HF5 := hide hf5
      clear ho5 hf5 hwz hrun4
      go_wp2
      go_ret
      exact ⟨_, _, rfl, HO5.out, fun m hm => (HG4.out.k32 HF5.out.2) m (List.mem_filter.1 hm).1, HEND.out.1, HEND.out.2, HB4.out.trans HF5.out.1⟩
    | cons x A1 =>
      obtain ⟨xv, xn, xm, xz⟩ := x
      obtain ⟨xa, xL, xc, e⟩ := HGA.out.sl (xv, xn, xm, xz) (HMG.out.sa _ (by simp))
      simp only at e
      subst e
      cases B' with
      | nil =>
        simp only [List.length_nil] at HQR HXL ⊢
        generalize hA1 : ((xv, xn, Value.slice xa xL xc, xz) :: A1).length = l1 at *
        have HL1 := hide hA1
        have l0 : (0 : Int) < (l1 : Int) := by
          rw [← hA1]
          simp only [List.length_cons]
          omega
        clear hA1
        obtain ⟨v3, w3, hrun3, ho3, hg3, ha3, hk3⟩ := run_appP wr w.heap.size 25 _ X HO.out _ (((xv, xn, .slice xa xL xc, xz) : Pt) :: A1) (HPR.out.below HBW.out) (fun m hm => HGA.out.sl.one m (HMG.out.sa m hm)) (by have h9 := HXL.out; have h8 := HLA.out; have h7 := HLB.out; (try have h6 := HL1.out); (try have h5 := HBl.out); simp only [List.length_append, List.length_cons, List.length_nil] at *; omega) HBW.out.size
        have HB3 : Hid (Below w.heap.size w w3) := HBW.out.grown hg3 HBW.out.size (fun j hj => (HO.out.lt hj).1)
        obtain ⟨v4, w4, hrun4, ho4, hg4, ha4, hk4⟩ := run_appP w3 w.heap.size 25 _ (X ++ (((xv, xn, .slice xa xL xc, xz) : Pt) :: A1)) ho3 _ [] (HQR.out.below HB3.out) (fun m hm => by cases hm) (by have h9 := HXL.out; have h8 := HLA.out; have h7 := HLB.out; (try have h6 := HL1.out); (try have h5 := HBl.out); simp only [List.length_append, List.length_cons, List.length_nil] at *; omega) HB3.out.size
        have HB4 : Hid (Below w.heap.size w w4) := HB3.out.grown hg4 HB3.out.size (fun j hj => (ho3.lt hj).1)
        have HG4 : Hid (GoodR w4 (X ++ (((xv, xn, .slice xa xL xc, xz) : Pt) :: A1) ++ [])) := by
          intro m hm
          rcases List.mem_append.1 hm with h | h
          · rcases List.mem_append.1 h with h | h
            · exact ((HGR.out.k32 hk3).k32 hk4) m h
            · exact (HGA.out.below HB4.out) m (HMG.out.sa m h)
          · cases h
        have HGA4 := hide (HG4.out.arg (bnd_all HMG.out HBA.out HBB.out) (by omega))
        have hwz := wz_calls ho4 HGA4.out (by have h9 := HXL.out; have h8 := HLA.out; have h7 := HLB.out; (try have h6 := HL1.out); (try have h5 := HBl.out); simp only [List.length_append, List.length_cons, List.length_nil] at *; omega) HB4.out.size
        obtain ⟨oa3, oc3, rfl, _, _⟩ := ho3.len
        obtain ⟨oa4, oc4, rfl, _, _⟩ := ho4.len
        clear ho3 hg3 ha3 hk3 ho4 hg4 ha4 hk4
        have HEND := hide (merg_end HMG.out (.inr rfl))
        generalize hxl : X.length = xl at *
        clear hxl
        generalize hX3 : (X ++ (((xv, xn, .slice xa xL xc, xz) : Pt) :: A1)).length = x3 at *
        clear hX3
        generalize hX4 : (X ++ (((xv, xn, .slice xa xL xc, xz) : Pt) :: A1) ++ []).length = x4 at *
        clear hX4
        go_wp2_with (at_builtin; go_must (first | (refine Lib.wpList_append_run _ rfl _ _ _ _ rfl _ _ rfl rfl _ _ hrun3 ?_; clear hrun3) | (refine Lib.wpList_append_run _ rfl _ _ _ _ rfl _ _ rfl rfl _ _ hrun4 ?_)))
        refine hwz.mono ?_
        rintro e w5 ⟨v5, rfl, ho5, hf5⟩
        obtain ⟨ao5, n5, cap5, rfl⟩ : ∃ a n c, v5 = .slice a n c := (by obtain ⟨a, c, e, _⟩ := ho5.len; exact ⟨_, _, _, e⟩)
        have HO5 := hide ho5
        have HF5 := hide hf5
        clear ho5 hf5 hwz hrun4
        go_wp2
        go_ret
        exact ⟨_, _, rfl, HO5.out, fun m hm => (HG4.out.k32 HF5.out.2) m (List.mem_filter.1 hm).1, HEND.out.1, HEND.out.2, HB4.out.trans HF5.out.1⟩
      | cons y B1 =>
        obtain ⟨yv, yn, ym, yz⟩ := y
        obtain ⟨ya, yL, yc, e⟩ := HGB.out.sl (yv, yn, ym, yz) (HMG.out.sb _ (by simp))
        simp only at e
        subst e
        have hxg := HGA.out (xv, xn, .slice xa xL xc, xz) (HMG.out.sa _ (by simp))
        have hyg := HGB.out (yv, yn, .slice ya yL yc, yz) (HMG.out.sb _ (by simp))
        have hxb := HBA.out (xv, xz) (List.mem_map.2 ⟨(xv, xn, .slice xa xL xc, xz), HMG.out.sa _ (by simp), rfl⟩)
        have hyb := HBB.out (yv, yz) (List.mem_map.2 ⟨(yv, yn, .slice ya yL yc, yz), HMG.out.sb _ (by simp), rfl⟩)
        have HADD := hide (fun (W : World) (h : Below w.heap.size w W) => badd_calls ((hxg.2.arg hxb (by omega)).below h) ((hyg.2.arg hyb (by omega)).below h))
        have HXG := hide hxg
        have HYG := hide hyg
        clear hxg hyg hxb hyb
        have hlen := HXL.out
        simp only [List.length_cons, HLA.out, HLB.out] at hlen
        obtain ⟨pG, pc1, hcutp, hrp1⟩ := HPR.out.cut (by omega)
        obtain ⟨qG, qc1, hcutq, hrq1⟩ := HQR.out.cut (by omega)
        have HRP1 := hide hrp1
        have HRQ1 := hide hrq1
        obtain ⟨_, _, e, _, _, h3⟩ := HPR.out
        cases e
        obtain ⟨pb, po, rfl, hpc⟩ := h3 0 _ rfl
        obtain ⟨_, _, e, _, _, k3⟩ := HQR.out
        cases e
        obtain ⟨qb, qo, rfl, hqc⟩ := k3 0 _ rfl
        have HSX : Hid (∀ W, Below w.heap.size w W → W.cell? ⟨pb, po, none⟩ = some (.int .i64 xv) ∧ W.cell? ⟨pb, po + 1, none⟩ = some (.bool xn) ∧ W.cell? ⟨pb, po + 2, none⟩ = some (.slice xa xL xc)) := fun W h => by
          have := hpc.below h
          simpa [CellsP] using this
        have HSY : Hid (∀ W, Below w.heap.size w W → W.cell? ⟨qb, qo, none⟩ = some (.int .i64 yv) ∧ W.cell? ⟨qb, qo + 1, none⟩ = some (.bool yn) ∧ W.cell? ⟨qb, qo + 2, none⟩ = some (.slice ya yL yc)) := fun W h => by
          have := hqc.below h
          simpa [CellsP] using this
        clear h3 k3 hpc hqc hrp1 hrq1 hlen
        generalize hA1 : ((xv, xn, Value.slice xa xL xc, xz) :: A1).length = l1 at *
        generalize hB1 : ((yv, yn, Value.slice ya yL yc, yz) :: B1).length = l2 at *
        have eA1 : l1 = A1.length + 1 := by rw [← hA1]; rfl
        have eB1 : l2 = B1.length + 1 := by rw [← hB1]; rfl
        have HL1 := hide hA1
        have HL2 := hide hB1
        have l0 : (0 : Int) < (l1 : Int) := by omega
        have l0' : (0 : Int) < (l2 : Int) := by omega
        have HE1 := hide eA1
        have HE2 := hide eB1
        clear hA1 hB1 eA1 eB1
        generalize hA2 : A1.length = n1 at *
        generalize hB2 : B1.length = n2 at *
        have HA2 := hide hA2
        have HB2 := hide hB2
        clear hA2 hB2
        have hcc := AnyG.cmp_Compare_int Tryz.cmpInt xv yv
        change ∀ W', Calls Tryz.prog 81 _ _ _ at hcc
        rcases Int.lt_trichotomy xv yv with hlt | heq | hgt
        · rw [show Lib.compareInt xv yv = -1 by unfold Lib.compareInt; rw [if_pos hlt]] at hcc
          have HLT := hide hlt
          clear hlt
          have HS3 : Hid (∀ W, Below w.heap.size w W → W.cell? ⟨pb, po, none⟩ = some (.int .i64 xv) ∧ W.cell? ⟨qb, qo, none⟩ = some (.int .i64 yv)) := fun W h => ⟨(HSX.out W h).1, (HSY.out W h).1⟩
          go_upto_region 3 with fail
          refine wp_region_held_drew (S := fun X : World => X.cell? ⟨pb, po, none⟩ = some (.int .i64 xv) ∧ X.cell? ⟨qb, qo, none⟩ = some (.int .i64 yv)) (by kernel_rfl) ?_ (fun hHeld => ?_)
          · exact HS3.out _ (by (first | exact (bdrewN HBW.out _).drew | exact HBW.out.drew.drew | exact HBW.out.drew | exact bdrewN HBW.out _ | exact HBW.out))
          refine takeD (i := 0) (v := ?v1) (some 20) rfl (by kernel_rfl) (by kernel_rfl) (by kernel_rfl) (fun _ _ _ h => h) (Or.inl ⟨by rfl, ?hy1⟩) (by assumption) (by rfl) ?rest1
          case hy1 => first | (intro w hSw; (try dsimp only at hSw); obtain ⟨q1, q2⟩ := hSw; go_simp; done) | (intro w hSw; (try dsimp only at hSw); obtain ⟨q1, q2⟩ := hSw; go_simp; with_reducible rfl)
          try simp only [Act.put, List.setIfInBounds_toArray, List.set_cons_zero, List.set_cons_succ]
          refine takeD (i := 1) (v := ?v2) (some 21) rfl (by kernel_rfl) (by kernel_rfl) (by kernel_rfl) (fun _ _ _ h => h) (Or.inl ⟨by rfl, ?hy2⟩) (by assumption) (by rfl) ?rest2
          case hy2 => first | (intro w hSw; (try dsimp only at hSw); obtain ⟨q1, q2⟩ := hSw; go_simp; done) | (intro w hSw; (try dsimp only at hSw); obtain ⟨q1, q2⟩ := hSw; go_simp; with_reducible rfl)
          try simp only [Act.put, List.setIfInBounds_toArray, List.set_cons_zero, List.set_cons_succ]
          refine takeD (i := 2) (v := ?v3) (some 22) rfl (by kernel_rfl) (by kernel_rfl) (by kernel_rfl) (fun _ _ _ h => h) (Or.inl ⟨by rfl, ?hy3⟩) (by assumption) (by rfl) ?rest3
          case hy3 => first | (intro w hSw; (try dsimp only at hSw); obtain ⟨q1, q2⟩ := hSw; go_simp; done) | (intro w hSw; (try dsimp only at hSw); obtain ⟨q1, q2⟩ := hSw; go_simp; with_reducible rfl)
          try simp only [Act.put, List.setIfInBounds_toArray, List.set_cons_zero, List.set_cons_succ]
          refine takeD (i := 3) (v := ?v4) (some 23) rfl (by kernel_rfl) (by kernel_rfl) (by kernel_rfl) (fun _ _ _ h => h) (Or.inl ⟨by rfl, ?hy4⟩) (by assumption) (by rfl) ?rest4
          case hy4 => first | (intro w hSw; (try dsimp only at hSw); obtain ⟨q1, q2⟩ := hSw; go_simp; done) | (intro w hSw; (try dsimp only at hSw); obtain ⟨q1, q2⟩ := hSw; go_simp; with_reducible rfl)
          try simp only [Act.put, List.setIfInBounds_toArray, List.set_cons_zero, List.set_cons_succ]
          refine takeD (i := 4) (v := ?v5) (some 24) rfl (by kernel_rfl) (by kernel_rfl) (by kernel_rfl) (fun _ _ _ h => h) (Or.inl ⟨by rfl, ?hy5⟩) (by assumption) (by rfl) ?rest5
          case hy5 => first | (intro w hSw; (try dsimp only at hSw); obtain ⟨q1, q2⟩ := hSw; go_simp; done) | (intro w hSw; (try dsimp only at hSw); obtain ⟨q1, q2⟩ := hSw; go_simp; with_reducible rfl)
          try simp only [Act.put, List.setIfInBounds_toArray, List.set_cons_zero, List.set_cons_succ]
          refine takeD (i := 5) (v := ?v6) (some 25) rfl (by kernel_rfl) (by kernel_rfl) (by kernel_rfl) (fun _ _ _ h => h) (Or.inl ⟨by rfl, ?hy6⟩) (by assumption) (by rfl) ?rest6
          case hy6 => first | (intro w hSw; (try dsimp only at hSw); obtain ⟨q1, q2⟩ := hSw; go_simp; done) | (intro w hSw; (try dsimp only at hSw); obtain ⟨q1, q2⟩ := hSw; go_simp; with_reducible rfl)
          try simp only [Act.put, List.setIfInBounds_toArray, List.set_cons_zero, List.set_cons_succ]
          refine takeD (i := 6) (v := ?v7) (some 26) rfl (by kernel_rfl) (by kernel_rfl) (by kernel_rfl) (fun _ _ _ h => h) (Or.inl ⟨by rfl, ?hy7⟩) (by assumption) (by rfl) ?rest7
          case hy7 => first | (intro w hSw; (try dsimp only at hSw); obtain ⟨q1, q2⟩ := hSw; go_simp; done) | (intro w hSw; (try dsimp only at hSw); obtain ⟨q1, q2⟩ := hSw; go_simp; with_reducible rfl)
          try simp only [Act.put, List.setIfInBounds_toArray, List.set_cons_zero, List.set_cons_succ]
          refine takeD (i := 7) (v := ?v8) (some 27) rfl (by kernel_rfl) (by kernel_rfl) (by kernel_rfl) (fun _ _ _ h => h) (Or.inl ⟨by rfl, ?hy8⟩) (by assumption) (by rfl) ?rest8
          case hy8 => first | (intro w hSw; (try dsimp only at hSw); obtain ⟨q1, q2⟩ := hSw; go_simp; done) | (intro w hSw; (try dsimp only at hSw); obtain ⟨q1, q2⟩ := hSw; go_simp; with_reducible rfl)
          try simp only [Act.put, List.setIfInBounds_toArray, List.set_cons_zero, List.set_cons_succ]
          refine wpAnyH_ready (rs := [8]) (by kernel_rfl) (by simp) ?_
          refine AllReadyH.cons rfl (fun K hK => ?_) AllReadyH.nil
          go_simp
          refine (hcc _).mono ?_
          rintro e w4 ⟨rfl, hw4⟩
          have HR4 : Hid (Below wr.heap.size wr w4) := by
            show Below _ _ _
            rw [hw4]
            (first | exact (bdrewN (Below.refl _ _) _).drew | exact ((Below.refl _ _).drew).drew | exact (Below.refl _ _).drew | exact bdrewN (Below.refl _ _) _ | exact Below.refl _ _)
          have HB4 := hide (bafter HBW.out HR4.out (Nat.le_refl _))
          clear hw4 hcc hHeld
          go_wp2_with fail
          refine hK.out _ _ (HS3.out _ HB4.out) (fun hHeld => ?_)
          clear hK K hHeld
          try simp only [Act.put, List.setIfInBounds_toArray, List.set_cons_zero, List.set_cons_succ]
          refine wpAnyH_done (by kernel_rfl) ?_ _
          go_upto_region 7 with fail
          refine wp_region_held_drew (S := fun X : World => X.cell? ⟨pb, po, none⟩ = some (.int .i64 xv) ∧ X.cell? ⟨pb, po + 1, none⟩ = some (.bool xn) ∧ X.cell? ⟨pb, po + 2, none⟩ = some (.slice xa xL xc)) (by kernel_rfl) ?_ (fun hHeld => ?_)
          · exact HSX.out _ (by first | exact HB4.out.drew | exact HB4.out)
          refine takeD (i := 0) (v := ?v9) (some 52) rfl (by kernel_rfl) (by kernel_rfl) (by kernel_rfl) (fun _ _ _ h => h) (Or.inl ⟨by rfl, ?hy9⟩) (by assumption) (by rfl) ?rest9
          case hy9 => first | (intro w hSw; (try dsimp only at hSw); obtain ⟨q0, q1, q2⟩ := hSw; go_simp; done) | (intro w hSw; (try dsimp only at hSw); obtain ⟨q0, q1, q2⟩ := hSw; go_simp; with_reducible rfl)
          try simp only [Act.put, List.setIfInBounds_toArray, List.set_cons_zero, List.set_cons_succ]
          refine takeD (i := 1) (v := ?v10) (some 53) rfl (by kernel_rfl) (by kernel_rfl) (by kernel_rfl) (fun _ _ _ h => h) (Or.inl ⟨by rfl, ?hy10⟩) (by assumption) (by rfl) ?rest10
          case hy10 => first | (intro w hSw; (try dsimp only at hSw); obtain ⟨q0, q1, q2⟩ := hSw; go_simp; done) | (intro w hSw; (try dsimp only at hSw); obtain ⟨q0, q1, q2⟩ := hSw; go_simp; with_reducible rfl)
          try simp only [Act.put, List.setIfInBounds_toArray, List.set_cons_zero, List.set_cons_succ]
          refine takeD (i := 2) (v := ?v11) (some 54) rfl (by kernel_rfl) (by kernel_rfl) (by kernel_rfl) (fun _ _ _ h => h) (Or.inl ⟨by rfl, ?hy11⟩) (by assumption) (by rfl) ?rest11
          case hy11 => first | (intro w hSw; (try dsimp only at hSw); obtain ⟨q0, q1, q2⟩ := hSw; go_simp; done) | (intro w hSw; (try dsimp only at hSw); obtain ⟨q0, q1, q2⟩ := hSw; go_simp; with_reducible rfl)
          try simp only [Act.put, List.setIfInBounds_toArray, List.set_cons_zero, List.set_cons_succ]
          refine takeD (i := 3) (v := ?v12) (some 55) rfl (by kernel_rfl) (by kernel_rfl) (by kernel_rfl) (fun _ _ _ h => h) (Or.inl ⟨by rfl, ?hy12⟩) (by assumption) (by rfl) ?rest12
          case hy12 => first | (intro w hSw; (try dsimp only at hSw); obtain ⟨q0, q1, q2⟩ := hSw; go_simp; done) | (intro w hSw; (try dsimp only at hSw); obtain ⟨q0, q1, q2⟩ := hSw; go_simp; with_reducible rfl)
          try simp only [Act.put, List.setIfInBounds_toArray, List.set_cons_zero, List.set_cons_succ]
          refine takeD (i := 6) (v := ?v13) (some 58) rfl (by kernel_rfl) (by kernel_rfl) (by kernel_rfl) (fun _ _ _ h => h) (Or.inl ⟨by rfl, ?hy13⟩) (by assumption) (by rfl) ?rest13
          case hy13 => first | (intro w hSw; (try dsimp only at hSw); obtain ⟨q0, q1, q2⟩ := hSw; go_simp; done) | (intro w hSw; (try dsimp only at hSw); obtain ⟨q0, q1, q2⟩ := hSw; go_simp; with_reducible rfl)
          try simp only [Act.put, List.setIfInBounds_toArray, List.set_cons_zero, List.set_cons_succ]
          refine takeD (i := 7) (v := ?v14) (some 59) rfl (by kernel_rfl) (by kernel_rfl) (by kernel_rfl) (fun _ _ _ h => h) (Or.inl ⟨by rfl, ?hy14⟩) (by assumption) (by rfl) ?rest14
          case hy14 => first | (intro w hSw; (try dsimp only at hSw); obtain ⟨q0, q1, q2⟩ := hSw; go_simp; done) | (intro w hSw; (try dsimp only at hSw); obtain ⟨q0, q1, q2⟩ := hSw; go_simp; with_reducible rfl)
          try simp only [Act.put, List.setIfInBounds_toArray, List.set_cons_zero, List.set_cons_succ]
          refine wpAnyH_ready (rs := [4]) (by kernel_rfl) (by simp) ?_
          refine AllReadyH.cons rfl (fun K hK => ?_) AllReadyH.nil
          go_simp
          have hbl := bel w4 (.cells #[.int .i64 xv, .bool xn, .slice xa xL xc] 89)
          have HB5 := hide ((bafter HB4.out hbl (Nat.le_refl _)).drew)
          have HR5 := hide ((bafter HR4.out hbl (Nat.le_refl _)).drew)
          have HBL := hide hbl
          have HRL := hide ((row_lit w4 xv xn (.slice xa xL xc) (xz)).below ((Below.refl _ _).drew))
          clear hbl
          generalize hw5 : ((w4).alloc (.cells #[.int .i64 xv, .bool xn, .slice xa xL xc] 89)).drew = w5 at *
          clear hw5
          refine hK.out _ _ (HSX.out _ HB5.out) (fun hHeld => ?_)
          clear hK K hHeld
          try simp only [Act.put, List.setIfInBounds_toArray, List.set_cons_zero, List.set_cons_succ]
          obtain ⟨v6, w6, hrun6, ho6, hg6, ha6, hk6⟩ := run_appP w5 w.heap.size 25 _ X (HO.out.below HR5.out) _ [((xv, xn, .slice xa xL xc, xz) : Pt)] HRL.out (fun m hm => by simp at hm; subst hm; rfl) (by have h9 := HXL.out; have h8 := HLA.out; have h7 := HLB.out; simp only [List.length_append, List.length_cons, List.length_nil] at *; omega) HB5.out.size
          have HB6 : Hid (Below w.heap.size w w6) := HB5.out.grown hg6 HB5.out.size (fun j hj => (HO.out.lt hj).1)
          have HG6 : Hid (GoodR w6 (X ++ [((xv, xn, .slice xa xL xc, xz) : Pt)])) := by
            intro m hm
            rcases List.mem_append.1 hm with h | h
            · exact ((HGR.out.below HR5.out).k32 hk6) m h
            · simp at h
              subst h
              exact ⟨HXG.out.1, HXG.out.2.below HB6.out⟩
          obtain ⟨oa6, oc6, rfl, _, _⟩ := ho6.len
          have HO6 := hide ho6
          clear ho6 hg6 ha6 hk6
          refine wpAnyH_ready (rs := [5]) (by kernel_rfl) (by simp) ?_
          refine AllReadyH.cons rfl (fun K hK => ?_) AllReadyH.nil
          refine Lib.wp_append_run _ _ _ _ _ rfl _ _ rfl rfl _ _ hrun6 ?_
          clear hrun6
          refine hK.out _ _ (HSX.out _ HB6.out) (fun hHeld => ?_)
          clear hK K hHeld
          try simp only [Act.put, List.setIfInBounds_toArray, List.set_cons_zero, List.set_cons_succ]
          refine wpAnyH_ready (rs := [8]) (by kernel_rfl) (by simp) ?_
          refine AllReadyH.cons rfl (fun K hK => ?_) AllReadyH.nil
          go_simp
          refine hK.out _ _ (HSX.out _ HB6.out) (fun hHeld => ?_)
          clear hK K hHeld
          try simp only [Act.put, List.setIfInBounds_toArray, List.set_cons_zero, List.set_cons_succ]
          refine wpAnyH_ready (rs := [9]) (by kernel_rfl) (by simp) ?_
          refine AllReadyH.cons rfl (fun K hK => ?_) AllReadyH.nil
          go_simp
          refine hK.out _ _ (HSX.out _ HB6.out) (fun hHeld => ?_)
          clear hK K hHeld
          try simp only [Act.put, List.setIfInBounds_toArray, List.set_cons_zero, List.set_cons_succ]
          refine wpAnyH_done (by kernel_rfl) ?_ _
          go_wp2
          go_roundw
          case rel =>
            have e1 := HA2.out
            have e2 := HB2.out
            have e3 := HL1.out
            have e4 := HL2.out
            subst e1
            subst e2
            subst e3
            subst e4
            exact ⟨A1, _, _, _, _, _, _, _, _, rfl, rfl, (by first | rfl | simp), HRP1.out, HQR.out, HMG.out.left HLT.out HBA.out, HO6.out, HG6.out, HB6.out⟩
          case measure =>
            have e3 := HE1.out
            simp only [lenV]
            omega
        · rw [show Lib.compareInt xv yv = 0 by unfold Lib.compareInt; rw [if_neg (by omega), if_neg (by omega)]] at hcc
          have HEQ := hide heq
          clear heq
          have HS3 : Hid (∀ W, Below w.heap.size w W → W.cell? ⟨pb, po, none⟩ = some (.int .i64 xv) ∧ W.cell? ⟨qb, qo, none⟩ = some (.int .i64 yv)) := fun W h => ⟨(HSX.out W h).1, (HSY.out W h).1⟩
          go_upto_region 3 with fail
          refine wp_region_held_drew (S := fun X : World => X.cell? ⟨pb, po, none⟩ = some (.int .i64 xv) ∧ X.cell? ⟨qb, qo, none⟩ = some (.int .i64 yv)) (by kernel_rfl) ?_ (fun hHeld => ?_)
          · exact HS3.out _ (by (first | exact (bdrewN HBW.out _).drew | exact HBW.out.drew.drew | exact HBW.out.drew | exact bdrewN HBW.out _ | exact HBW.out))
          refine takeD (i := 0) (v := ?v15) (some 20) rfl (by kernel_rfl) (by kernel_rfl) (by kernel_rfl) (fun _ _ _ h => h) (Or.inl ⟨by rfl, ?hy15⟩) (by assumption) (by rfl) ?rest15
          case hy15 => first | (intro w hSw; (try dsimp only at hSw); obtain ⟨q1, q2⟩ := hSw; go_simp; done) | (intro w hSw; (try dsimp only at hSw); obtain ⟨q1, q2⟩ := hSw; go_simp; with_reducible rfl)
          try simp only [Act.put, List.setIfInBounds_toArray, List.set_cons_zero, List.set_cons_succ]
          refine takeD (i := 1) (v := ?v16) (some 21) rfl (by kernel_rfl) (by kernel_rfl) (by kernel_rfl) (fun _ _ _ h => h) (Or.inl ⟨by rfl, ?hy16⟩) (by assumption) (by rfl) ?rest16
          case hy16 => first | (intro w hSw; (try dsimp only at hSw); obtain ⟨q1, q2⟩ := hSw; go_simp; done) | (intro w hSw; (try dsimp only at hSw); obtain ⟨q1, q2⟩ := hSw; go_simp; with_reducible rfl)
          try simp only [Act.put, List.setIfInBounds_toArray, List.set_cons_zero, List.set_cons_succ]
          refine takeD (i := 2) (v := ?v17) (some 22) rfl (by kernel_rfl) (by kernel_rfl) (by kernel_rfl) (fun _ _ _ h => h) (Or.inl ⟨by rfl, ?hy17⟩) (by assumption) (by rfl) ?rest17
          case hy17 => first | (intro w hSw; (try dsimp only at hSw); obtain ⟨q1, q2⟩ := hSw; go_simp; done) | (intro w hSw; (try dsimp only at hSw); obtain ⟨q1, q2⟩ := hSw; go_simp; with_reducible rfl)
          try simp only [Act.put, List.setIfInBounds_toArray, List.set_cons_zero, List.set_cons_succ]
          refine takeD (i := 3) (v := ?v18) (some 23) rfl (by kernel_rfl) (by kernel_rfl) (by kernel_rfl) (fun _ _ _ h => h) (Or.inl ⟨by rfl, ?hy18⟩) (by assumption) (by rfl) ?rest18
          case hy18 => first | (intro w hSw; (try dsimp only at hSw); obtain ⟨q1, q2⟩ := hSw; go_simp; done) | (intro w hSw; (try dsimp only at hSw); obtain ⟨q1, q2⟩ := hSw; go_simp; with_reducible rfl)
          try simp only [Act.put, List.setIfInBounds_toArray, List.set_cons_zero, List.set_cons_succ]
          refine takeD (i := 4) (v := ?v19) (some 24) rfl (by kernel_rfl) (by kernel_rfl) (by kernel_rfl) (fun _ _ _ h => h) (Or.inl ⟨by rfl, ?hy19⟩) (by assumption) (by rfl) ?rest19
          case hy19 => first | (intro w hSw; (try dsimp only at hSw); obtain ⟨q1, q2⟩ := hSw; go_simp; done) | (intro w hSw; (try dsimp only at hSw); obtain ⟨q1, q2⟩ := hSw; go_simp; with_reducible rfl)
          try simp only [Act.put, List.setIfInBounds_toArray, List.set_cons_zero, List.set_cons_succ]
          refine takeD (i := 5) (v := ?v20) (some 25) rfl (by kernel_rfl) (by kernel_rfl) (by kernel_rfl) (fun _ _ _ h => h) (Or.inl ⟨by rfl, ?hy20⟩) (by assumption) (by rfl) ?rest20
          case hy20 => first | (intro w hSw; (try dsimp only at hSw); obtain ⟨q1, q2⟩ := hSw; go_simp; done) | (intro w hSw; (try dsimp only at hSw); obtain ⟨q1, q2⟩ := hSw; go_simp; with_reducible rfl)
          try simp only [Act.put, List.setIfInBounds_toArray, List.set_cons_zero, List.set_cons_succ]
          refine takeD (i := 6) (v := ?v21) (some 26) rfl (by kernel_rfl) (by kernel_rfl) (by kernel_rfl) (fun _ _ _ h => h) (Or.inl ⟨by rfl, ?hy21⟩) (by assumption) (by rfl) ?rest21
          case hy21 => first | (intro w hSw; (try dsimp only at hSw); obtain ⟨q1, q2⟩ := hSw; go_simp; done) | (intro w hSw; (try dsimp only at hSw); obtain ⟨q1, q2⟩ := hSw; go_simp; with_reducible rfl)
          try simp only [Act.put, List.setIfInBounds_toArray, List.set_cons_zero, List.set_cons_succ]
          refine takeD (i := 7) (v := ?v22) (some 27) rfl (by kernel_rfl) (by kernel_rfl) (by kernel_rfl) (fun _ _ _ h => h) (Or.inl ⟨by rfl, ?hy22⟩) (by assumption) (by rfl) ?rest22
          case hy22 => first | (intro w hSw; (try dsimp only at hSw); obtain ⟨q1, q2⟩ := hSw; go_simp; done) | (intro w hSw; (try dsimp only at hSw); obtain ⟨q1, q2⟩ := hSw; go_simp; with_reducible rfl)
          try simp only [Act.put, List.setIfInBounds_toArray, List.set_cons_zero, List.set_cons_succ]
          refine wpAnyH_ready (rs := [8]) (by kernel_rfl) (by simp) ?_
          refine AllReadyH.cons rfl (fun K hK => ?_) AllReadyH.nil
          go_simp
          refine (hcc _).mono ?_
          rintro e w4 ⟨rfl, hw4⟩
          have HR4 : Hid (Below wr.heap.size wr w4) := by
            show Below _ _ _
            rw [hw4]
            (first | exact (bdrewN (Below.refl _ _) _).drew | exact ((Below.refl _ _).drew).drew | exact (Below.refl _ _).drew | exact bdrewN (Below.refl _ _) _ | exact Below.refl _ _)
          have HB4 := hide (bafter HBW.out HR4.out (Nat.le_refl _))
          clear hw4 hcc hHeld
          go_wp2_with fail
          refine hK.out _ _ (HS3.out _ HB4.out) (fun hHeld => ?_)
          clear hK K hHeld
          try simp only [Act.put, List.setIfInBounds_toArray, List.set_cons_zero, List.set_cons_succ]
          refine wpAnyH_done (by kernel_rfl) ?_ _
          have HSB : Hid (∀ W, Below w.heap.size w W → W.cell? ⟨pb, po, none⟩ = some (.int .i64 xv) ∧ W.cell? ⟨pb, po + 1, none⟩ = some (.bool xn) ∧ W.cell? ⟨pb, po + 2, none⟩ = some (.slice xa xL xc) ∧ W.cell? ⟨qb, qo + 1, none⟩ = some (.bool yn) ∧ W.cell? ⟨qb, qo + 2, none⟩ = some (.slice ya yL yc)) := fun W h => ⟨(HSX.out W h).1, (HSX.out W h).2.1, (HSX.out W h).2.2, (HSY.out W h).2.1, (HSY.out W h).2.2⟩
          go_upto_region 4 with fail
          refine wp_region_held_drew (S := fun X : World => X.cell? ⟨pb, po, none⟩ = some (.int .i64 xv) ∧ X.cell? ⟨pb, po + 1, none⟩ = some (.bool xn) ∧ X.cell? ⟨pb, po + 2, none⟩ = some (.slice xa xL xc) ∧ X.cell? ⟨qb, qo + 1, none⟩ = some (.bool yn) ∧ X.cell? ⟨qb, qo + 2, none⟩ = some (.slice ya yL yc)) (by kernel_rfl) ?_ (fun hHeld => ?_)
          · exact HSB.out _ (by first | exact HB4.out.drew | exact HB4.out)
          refine takeD (i := 0) (v := ?v23) (some 29) rfl (by kernel_rfl) (by kernel_rfl) (by kernel_rfl) (fun _ _ _ h => h) (Or.inl ⟨by rfl, ?hy23⟩) (by assumption) (by rfl) ?rest23
          case hy23 => first | (intro w hSw; (try dsimp only at hSw); obtain ⟨q0, q1, q2, q3, q4⟩ := hSw; go_simp; done) | (intro w hSw; (try dsimp only at hSw); obtain ⟨q0, q1, q2, q3, q4⟩ := hSw; go_simp; with_reducible rfl)
          try simp only [Act.put, List.setIfInBounds_toArray, List.set_cons_zero, List.set_cons_succ]
          refine takeD (i := 1) (v := ?v24) (some 30) rfl (by kernel_rfl) (by kernel_rfl) (by kernel_rfl) (fun _ _ _ h => h) (Or.inl ⟨by rfl, ?hy24⟩) (by assumption) (by rfl) ?rest24
          case hy24 => first | (intro w hSw; (try dsimp only at hSw); obtain ⟨q0, q1, q2, q3, q4⟩ := hSw; go_simp; done) | (intro w hSw; (try dsimp only at hSw); obtain ⟨q0, q1, q2, q3, q4⟩ := hSw; go_simp; with_reducible rfl)
          try simp only [Act.put, List.setIfInBounds_toArray, List.set_cons_zero, List.set_cons_succ]
          refine takeD (i := 2) (v := ?v25) (some 31) rfl (by kernel_rfl) (by kernel_rfl) (by kernel_rfl) (fun _ _ _ h => h) (Or.inl ⟨by rfl, ?hy25⟩) (by assumption) (by rfl) ?rest25
          case hy25 => first | (intro w hSw; (try dsimp only at hSw); obtain ⟨q0, q1, q2, q3, q4⟩ := hSw; go_simp; done) | (intro w hSw; (try dsimp only at hSw); obtain ⟨q0, q1, q2, q3, q4⟩ := hSw; go_simp; with_reducible rfl)
          try simp only [Act.put, List.setIfInBounds_toArray, List.set_cons_zero, List.set_cons_succ]
          refine takeD (i := 3) (v := ?v26) (some 32) rfl (by kernel_rfl) (by kernel_rfl) (by kernel_rfl) (fun _ _ _ h => h) (Or.inl ⟨by rfl, ?hy26⟩) (by assumption) (by rfl) ?rest26
          case hy26 => first | (intro w hSw; (try dsimp only at hSw); obtain ⟨q0, q1, q2, q3, q4⟩ := hSw; go_simp; done) | (intro w hSw; (try dsimp only at hSw); obtain ⟨q0, q1, q2, q3, q4⟩ := hSw; go_simp; with_reducible rfl)
          try simp only [Act.put, List.setIfInBounds_toArray, List.set_cons_zero, List.set_cons_succ]
          refine takeD (i := 4) (v := ?v27) (some 33) rfl (by kernel_rfl) (by kernel_rfl) (by kernel_rfl) (fun _ _ _ h => h) (Or.inl ⟨by rfl, ?hy27⟩) (by assumption) (by rfl) ?rest27
          case hy27 => first | (intro w hSw; (try dsimp only at hSw); obtain ⟨q0, q1, q2, q3, q4⟩ := hSw; go_simp; done) | (intro w hSw; (try dsimp only at hSw); obtain ⟨q0, q1, q2, q3, q4⟩ := hSw; go_simp; with_reducible rfl)
          try simp only [Act.put, List.setIfInBounds_toArray, List.set_cons_zero, List.set_cons_succ]
          refine takeD (i := 5) (v := ?v28) (some 34) rfl (by kernel_rfl) (by kernel_rfl) (by kernel_rfl) (fun _ _ _ h => h) (Or.inl ⟨by rfl, ?hy28⟩) (by assumption) (by rfl) ?rest28
          case hy28 => first | (intro w hSw; (try dsimp only at hSw); obtain ⟨q0, q1, q2, q3, q4⟩ := hSw; go_simp; done) | (intro w hSw; (try dsimp only at hSw); obtain ⟨q0, q1, q2, q3, q4⟩ := hSw; go_simp; with_reducible rfl)
          try simp only [Act.put, List.setIfInBounds_toArray, List.set_cons_zero, List.set_cons_succ]
          refine takeD (i := 6) (v := ?v29) (some 35) rfl (by kernel_rfl) (by kernel_rfl) (by kernel_rfl) (fun _ _ _ h => h) (Or.inl ⟨by rfl, ?hy29⟩) (by assumption) (by rfl) ?rest29
          case hy29 => first | (intro w hSw; (try dsimp only at hSw); obtain ⟨q0, q1, q2, q3, q4⟩ := hSw; go_simp; done) | (intro w hSw; (try dsimp only at hSw); obtain ⟨q0, q1, q2, q3, q4⟩ := hSw; go_simp; with_reducible rfl)
          try simp only [Act.put, List.setIfInBounds_toArray, List.set_cons_zero, List.set_cons_succ]
          refine takeD (i := 7) (v := ?v30) (some 36) rfl (by kernel_rfl) (by kernel_rfl) (by kernel_rfl) (fun _ _ _ h => h) (Or.inl ⟨by rfl, ?hy30⟩) (by assumption) (by rfl) ?rest30
          case hy30 => first | (intro w hSw; (try dsimp only at hSw); obtain ⟨q0, q1, q2, q3, q4⟩ := hSw; go_simp; done) | (intro w hSw; (try dsimp only at hSw); obtain ⟨q0, q1, q2, q3, q4⟩ := hSw; go_simp; with_reducible rfl)
          try simp only [Act.put, List.setIfInBounds_toArray, List.set_cons_zero, List.set_cons_succ]
          refine takeD (i := 8) (v := ?v31) (some 37) rfl (by kernel_rfl) (by kernel_rfl) (by kernel_rfl) (fun _ _ _ h => h) (Or.inl ⟨by rfl, ?hy31⟩) (by assumption) (by rfl) ?rest31
          case hy31 => first | (intro w hSw; (try dsimp only at hSw); obtain ⟨q0, q1, q2, q3, q4⟩ := hSw; go_simp; done) | (intro w hSw; (try dsimp only at hSw); obtain ⟨q0, q1, q2, q3, q4⟩ := hSw; go_simp; with_reducible rfl)
          try simp only [Act.put, List.setIfInBounds_toArray, List.set_cons_zero, List.set_cons_succ]
          refine takeD (i := 9) (v := ?v32) (some 38) rfl (by kernel_rfl) (by kernel_rfl) (by kernel_rfl) (fun _ _ _ h => h) (Or.inl ⟨by rfl, ?hy32⟩) (by assumption) (by rfl) ?rest32
          case hy32 => first | (intro w hSw; (try dsimp only at hSw); obtain ⟨q0, q1, q2, q3, q4⟩ := hSw; go_simp; done) | (intro w hSw; (try dsimp only at hSw); obtain ⟨q0, q1, q2, q3, q4⟩ := hSw; go_simp; with_reducible rfl)
          try simp only [Act.put, List.setIfInBounds_toArray, List.set_cons_zero, List.set_cons_succ]
          refine takeD (i := 10) (v := ?v33) (some 39) rfl (by kernel_rfl) (by kernel_rfl) (by kernel_rfl) (fun _ _ _ h => h) (Or.inl ⟨by rfl, ?hy33⟩) (by assumption) (by rfl) ?rest33
          case hy33 => first | (intro w hSw; (try dsimp only at hSw); obtain ⟨q0, q1, q2, q3, q4⟩ := hSw; go_simp; done) | (intro w hSw; (try dsimp only at hSw); obtain ⟨q0, q1, q2, q3, q4⟩ := hSw; go_simp; with_reducible rfl)
          try simp only [Act.put, List.setIfInBounds_toArray, List.set_cons_zero, List.set_cons_succ]
          refine takeD (i := 11) (v := ?v34) (some 40) rfl (by kernel_rfl) (by kernel_rfl) (by kernel_rfl) (fun _ _ _ h => h) (Or.inl ⟨by rfl, ?hy34⟩) (by assumption) (by rfl) ?rest34
          case hy34 => first | (intro w hSw; (try dsimp only at hSw); obtain ⟨q0, q1, q2, q3, q4⟩ := hSw; go_simp; done) | (intro w hSw; (try dsimp only at hSw); obtain ⟨q0, q1, q2, q3, q4⟩ := hSw; go_simp; with_reducible rfl)
          try simp only [Act.put, List.setIfInBounds_toArray, List.set_cons_zero, List.set_cons_succ]
          refine takeD (i := 12) (v := ?v35) (some 41) rfl (by kernel_rfl) (by kernel_rfl) (by kernel_rfl) (fun _ _ _ h => h) (Or.inl ⟨by rfl, ?hy35⟩) (by assumption) (by rfl) ?rest35
          case hy35 => first | (intro w hSw; (try dsimp only at hSw); obtain ⟨q0, q1, q2, q3, q4⟩ := hSw; go_simp; done) | (intro w hSw; (try dsimp only at hSw); obtain ⟨q0, q1, q2, q3, q4⟩ := hSw; go_simp; with_reducible rfl)
          try simp only [Act.put, List.setIfInBounds_toArray, List.set_cons_zero, List.set_cons_succ]
          refine wpAnyH_ready (rs := [13]) (by kernel_rfl) (by simp) ?_
          refine AllReadyH.cons rfl (fun K hK => ?_) AllReadyH.nil
          go_simp
          refine (HADD.out w4.drew HB4.out.drew).mono ?_
          rintro e w7 ⟨v7, rfl, hr7, hb7⟩
          obtain ⟨zn, za, zL, zc, rfl⟩ := hr7.form
          have HB7 := hide (bafter HB4.out.drew hb7 (Nat.le_refl _))
          have HR7 := hide (bafter HR4.out.drew hb7 (Nat.le_refl _))
          have HRES := hide hr7
          clear hr7 hb7 hHeld
          go_wp2_with fail
          refine hK.out _ _ (HSB.out _ HB7.out) (fun hHeld => ?_)
          clear hK K
          try simp only [Act.put, List.setIfInBounds_toArray, List.set_cons_zero, List.set_cons_succ]
          refine takeD (i := 14) (v := ?v36) (some 43) rfl (by kernel_rfl) (by kernel_rfl) (by kernel_rfl) (fun _ _ _ h => h) (Or.inl ⟨by rfl, ?hy36⟩) (by assumption) (by rfl) ?rest36
          case hy36 => first | (intro w hSw; (try dsimp only at hSw); obtain ⟨q0, q1, q2, q3, q4⟩ := hSw; go_simp; done) | (intro w hSw; (try dsimp only at hSw); obtain ⟨q0, q1, q2, q3, q4⟩ := hSw; go_simp; with_reducible rfl)
          try simp only [Act.put, List.setIfInBounds_toArray, List.set_cons_zero, List.set_cons_succ]
          refine wpAnyH_ready (rs := [15]) (by kernel_rfl) (by simp) ?_
          refine AllReadyH.cons rfl (fun K hK => ?_) AllReadyH.nil
          go_simp
          have hbl := bel w7 (.cells #[.int .i64 xv, .bool zn, .slice za zL zc] 89)
          have HB5 := hide ((bafter HB7.out hbl (Nat.le_refl _)))
          have HR5 := hide ((bafter HR7.out hbl (Nat.le_refl _)))
          have HBL := hide hbl
          have HRL := hide ((row_lit w7 xv zn (.slice za zL zc) (xz + yz)))
          clear hbl
          generalize hw5 : ((w7).alloc (.cells #[.int .i64 xv, .bool zn, .slice za zL zc] 89)) = w5 at *
          clear hw5
          refine hK.out _ _ (HSB.out _ HB5.out) (fun hHeld => ?_)
          clear hK K hHeld
          try simp only [Act.put, List.setIfInBounds_toArray, List.set_cons_zero, List.set_cons_succ]
          obtain ⟨v6, w6, hrun6, ho6, hg6, ha6, hk6⟩ := run_appP w5 w.heap.size 25 _ X (HO.out.below HR5.out) _ [((xv, zn, .slice za zL zc, xz + yz) : Pt)] HRL.out (fun m hm => by simp at hm; subst hm; rfl) (by have h9 := HXL.out; have h8 := HLA.out; have h7 := HLB.out; simp only [List.length_append, List.length_cons, List.length_nil] at *; omega) HB5.out.size
          have HB6 : Hid (Below w.heap.size w w6) := HB5.out.grown hg6 HB5.out.size (fun j hj => (HO.out.lt hj).1)
          have HG6 : Hid (GoodR w6 (X ++ [((xv, zn, .slice za zL zc, xz + yz) : Pt)])) := by
            intro m hm
            rcases List.mem_append.1 hm with h | h
            · exact ((HGR.out.below HR5.out).k32 hk6) m h
            · simp at h
              subst h
              exact ⟨HXG.out.1, (HRES.out.below HBL.out).k32 hk6⟩
          obtain ⟨oa6, oc6, rfl, _, _⟩ := ho6.len
          have HO6 := hide ho6
          clear ho6 hg6 ha6 hk6
          refine wpAnyH_ready (rs := [16]) (by kernel_rfl) (by simp) ?_
          refine AllReadyH.cons rfl (fun K hK => ?_) AllReadyH.nil
          refine Lib.wp_append_run _ _ _ _ _ rfl _ _ rfl rfl _ _ hrun6 ?_
          clear hrun6
          refine hK.out _ _ (HSB.out _ HB6.out) (fun hHeld => ?_)
          clear hK K hHeld
          try simp only [Act.put, List.setIfInBounds_toArray, List.set_cons_zero, List.set_cons_succ]
          refine wpAnyH_ready (rs := [17]) (by kernel_rfl) (by simp) ?_
          refine AllReadyH.cons rfl (fun K hK => ?_) AllReadyH.nil
          go_simp
          refine hK.out _ _ (HSB.out _ HB6.out) (fun hHeld => ?_)
          clear hK K hHeld
          try simp only [Act.put, List.setIfInBounds_toArray, List.set_cons_zero, List.set_cons_succ]
          refine wpAnyH_done (by kernel_rfl) ?_ _
          go_upto_region 5 with fail
          refine wp_region_held_drew (S := fun X : World => True) (by kernel_rfl) ?_ (fun hHeld => ?_)
          · exact trivial
          refine takeD (i := 0) (v := ?v37) (some 46) rfl (by kernel_rfl) (by kernel_rfl) (by kernel_rfl) (fun _ _ _ h => h) (Or.inl ⟨by rfl, ?hy37⟩) (by assumption) (by rfl) ?rest37
          case hy37 => first | (intro w hSw; (try dsimp only at hSw); go_simp; done) | (intro w hSw; (try dsimp only at hSw); go_simp; with_reducible rfl)
          try simp only [Act.put, List.setIfInBounds_toArray, List.set_cons_zero, List.set_cons_succ]
          refine takeD (i := 1) (v := ?v38) (some 47) rfl (by kernel_rfl) (by kernel_rfl) (by kernel_rfl) (fun _ _ _ h => h) (Or.inl ⟨by rfl, ?hy38⟩) (by assumption) (by rfl) ?rest38
          case hy38 => first | (intro w hSw; (try dsimp only at hSw); go_simp; done) | (intro w hSw; (try dsimp only at hSw); go_simp; with_reducible rfl)
          try simp only [Act.put, List.setIfInBounds_toArray, List.set_cons_zero, List.set_cons_succ]
          refine takeD (i := 2) (v := ?v39) (some 48) rfl (by kernel_rfl) (by kernel_rfl) (by kernel_rfl) (fun _ _ _ h => h) (Or.inl ⟨by rfl, ?hy39⟩) (by assumption) (by rfl) ?rest39
          case hy39 => first | (intro w hSw; (try dsimp only at hSw); go_simp; done) | (intro w hSw; (try dsimp only at hSw); go_simp; with_reducible rfl)
          try simp only [Act.put, List.setIfInBounds_toArray, List.set_cons_zero, List.set_cons_succ]
          refine takeD (i := 3) (v := ?v40) (some 49) rfl (by kernel_rfl) (by kernel_rfl) (by kernel_rfl) (fun _ _ _ h => h) (Or.inl ⟨by rfl, ?hy40⟩) (by assumption) (by rfl) ?rest40
          case hy40 => first | (intro w hSw; (try dsimp only at hSw); go_simp; done) | (intro w hSw; (try dsimp only at hSw); go_simp; with_reducible rfl)
          try simp only [Act.put, List.setIfInBounds_toArray, List.set_cons_zero, List.set_cons_succ]
          refine wpAnyH_ready (rs := [4]) (by kernel_rfl) (by simp) ?_
          refine AllReadyH.cons rfl (fun K hK => ?_) AllReadyH.nil
          go_simp
          refine hK.out _ _ (trivial) (fun hHeld => ?_)
          clear hK K hHeld
          try simp only [Act.put, List.setIfInBounds_toArray, List.set_cons_zero, List.set_cons_succ]
          refine wpAnyH_ready (rs := [5]) (by kernel_rfl) (by simp) ?_
          refine AllReadyH.cons rfl (fun K hK => ?_) AllReadyH.nil
          go_simp
          refine hK.out _ _ (trivial) (fun hHeld => ?_)
          clear hK K hHeld
          try simp only [Act.put, List.setIfInBounds_toArray, List.set_cons_zero, List.set_cons_succ]
          refine wpAnyH_done (by kernel_rfl) ?_ _
          go_wp2
          go_roundw
          case rel =>
            have e1 := HA2.out
            have e2 := HB2.out
            have e3 := HL1.out
            have e4 := HL2.out
            subst e1
            subst e2
            subst e3
            subst e4
            exact ⟨A1, B1, _, _, _, _, _, _, _, rfl, rfl, (by first | rfl | simp), HRP1.out, HRQ1.out, HMG.out.both HEQ.out HBA.out HBB.out zn _, HO6.out, HG6.out, by first | exact HB6.out.drew | exact HB6.out⟩
          case measure =>
            have e3 := HE1.out
            have e4 := HE2.out
            simp only [lenV]
            omega
        · rw [show Lib.compareInt xv yv = 1 by unfold Lib.compareInt; rw [if_neg (by omega), if_pos (by omega)]] at hcc
          have HGT := hide hgt
          clear hgt
          have HS3 : Hid (∀ W, Below w.heap.size w W → W.cell? ⟨pb, po, none⟩ = some (.int .i64 xv) ∧ W.cell? ⟨qb, qo, none⟩ = some (.int .i64 yv)) := fun W h => ⟨(HSX.out W h).1, (HSY.out W h).1⟩
          go_upto_region 3 with fail
          refine wp_region_held_drew (S := fun X : World => X.cell? ⟨pb, po, none⟩ = some (.int .i64 xv) ∧ X.cell? ⟨qb, qo, none⟩ = some (.int .i64 yv)) (by kernel_rfl) ?_ (fun hHeld => ?_)
          · exact HS3.out _ (by (first | exact (bdrewN HBW.out _).drew | exact HBW.out.drew.drew | exact HBW.out.drew | exact bdrewN HBW.out _ | exact HBW.out))
          refine takeD (i := 0) (v := ?v41) (some 20) rfl (by kernel_rfl) (by kernel_rfl) (by kernel_rfl) (fun _ _ _ h => h) (Or.inl ⟨by rfl, ?hy41⟩) (by assumption) (by rfl) ?rest41
          case hy41 => first | (intro w hSw; (try dsimp only at hSw); obtain ⟨q1, q2⟩ := hSw; go_simp; done) | (intro w hSw; (try dsimp only at hSw); obtain ⟨q1, q2⟩ := hSw; go_simp; with_reducible rfl)
          try simp only [Act.put, List.setIfInBounds_toArray, List.set_cons_zero, List.set_cons_succ]
          refine takeD (i := 1) (v := ?v42) (some 21) rfl (by kernel_rfl) (by kernel_rfl) (by kernel_rfl) (fun _ _ _ h => h) (Or.inl ⟨by rfl, ?hy42⟩) (by assumption) (by rfl) ?rest42
          case hy42 => first | (intro w hSw; (try dsimp only at hSw); obtain ⟨q1, q2⟩ := hSw; go_simp; done) | (intro w hSw; (try dsimp only at hSw); obtain ⟨q1, q2⟩ := hSw; go_simp; with_reducible rfl)
          try simp only [Act.put, List.setIfInBounds_toArray, List.set_cons_zero, List.set_cons_succ]
          refine takeD (i := 2) (v := ?v43) (some 22) rfl (by kernel_rfl) (by kernel_rfl) (by kernel_rfl) (fun _ _ _ h => h) (Or.inl ⟨by rfl, ?hy43⟩) (by assumption) (by rfl) ?rest43
          case hy43 => first | (intro w hSw; (try dsimp only at hSw); obtain ⟨q1, q2⟩ := hSw; go_simp; done) | (intro w hSw; (try dsimp only at hSw); obtain ⟨q1, q2⟩ := hSw; go_simp; with_reducible rfl)
          try simp only [Act.put, List.setIfInBounds_toArray, List.set_cons_zero, List.set_cons_succ]
          refine takeD (i := 3) (v := ?v44) (some 23) rfl (by kernel_rfl) (by kernel_rfl) (by kernel_rfl) (fun _ _ _ h => h) (Or.inl ⟨by rfl, ?hy44⟩) (by assumption) (by rfl) ?rest44
          case hy44 => first | (intro w hSw; (try dsimp only at hSw); obtain ⟨q1, q2⟩ := hSw; go_simp; done) | (intro w hSw; (try dsimp only at hSw); obtain ⟨q1, q2⟩ := hSw; go_simp; with_reducible rfl)
          try simp only [Act.put, List.setIfInBounds_toArray, List.set_cons_zero, List.set_cons_succ]
          refine takeD (i := 4) (v := ?v45) (some 24) rfl (by kernel_rfl) (by kernel_rfl) (by kernel_rfl) (fun _ _ _ h => h) (Or.inl ⟨by rfl, ?hy45⟩) (by assumption) (by rfl) ?rest45
          case hy45 => first | (intro w hSw; (try dsimp only at hSw); obtain ⟨q1, q2⟩ := hSw; go_simp; done) | (intro w hSw; (try dsimp only at hSw); obtain ⟨q1, q2⟩ := hSw; go_simp; with_reducible rfl)
          try simp only [Act.put, List.setIfInBounds_toArray, List.set_cons_zero, List.set_cons_succ]
          refine takeD (i := 5) (v := ?v46) (some 25) rfl (by kernel_rfl) (by kernel_rfl) (by kernel_rfl) (fun _ _ _ h => h) (Or.inl ⟨by rfl, ?hy46⟩) (by assumption) (by rfl) ?rest46
          case hy46 => first | (intro w hSw; (try dsimp only at hSw); obtain ⟨q1, q2⟩ := hSw; go_simp; done) | (intro w hSw; (try dsimp only at hSw); obtain ⟨q1, q2⟩ := hSw; go_simp; with_reducible rfl)
          try simp only [Act.put, List.setIfInBounds_toArray, List.set_cons_zero, List.set_cons_succ]
          refine takeD (i := 6) (v := ?v47) (some 26) rfl (by kernel_rfl) (by kernel_rfl) (by kernel_rfl) (fun _ _ _ h => h) (Or.inl ⟨by rfl, ?hy47⟩) (by assumption) (by rfl) ?rest47
          case hy47 => first | (intro w hSw; (try dsimp only at hSw); obtain ⟨q1, q2⟩ := hSw; go_simp; done) | (intro w hSw; (try dsimp only at hSw); obtain ⟨q1, q2⟩ := hSw; go_simp; with_reducible rfl)
          try simp only [Act.put, List.setIfInBounds_toArray, List.set_cons_zero, List.set_cons_succ]
          refine takeD (i := 7) (v := ?v48) (some 27) rfl (by kernel_rfl) (by kernel_rfl) (by kernel_rfl) (fun _ _ _ h => h) (Or.inl ⟨by rfl, ?hy48⟩) (by assumption) (by rfl) ?rest48
          case hy48 => first | (intro w hSw; (try dsimp only at hSw); obtain ⟨q1, q2⟩ := hSw; go_simp; done) | (intro w hSw; (try dsimp only at hSw); obtain ⟨q1, q2⟩ := hSw; go_simp; with_reducible rfl)
          try simp only [Act.put, List.setIfInBounds_toArray, List.set_cons_zero, List.set_cons_succ]
          refine wpAnyH_ready (rs := [8]) (by kernel_rfl) (by simp) ?_
          refine AllReadyH.cons rfl (fun K hK => ?_) AllReadyH.nil
          go_simp
          refine (hcc _).mono ?_
          rintro e w4 ⟨rfl, hw4⟩
          have HR4 : Hid (Below wr.heap.size wr w4) := by
            show Below _ _ _
            rw [hw4]
            (first | exact (bdrewN (Below.refl _ _) _).drew | exact ((Below.refl _ _).drew).drew | exact (Below.refl _ _).drew | exact bdrewN (Below.refl _ _) _ | exact Below.refl _ _)
          have HB4 := hide (bafter HBW.out HR4.out (Nat.le_refl _))
          clear hw4 hcc hHeld
          go_wp2_with fail
          refine hK.out _ _ (HS3.out _ HB4.out) (fun hHeld => ?_)
          clear hK K hHeld
          try simp only [Act.put, List.setIfInBounds_toArray, List.set_cons_zero, List.set_cons_succ]
          refine wpAnyH_done (by kernel_rfl) ?_ _
          go_upto_region 9 with fail
          refine wp_region_held_drew (S := fun X : World => X.cell? ⟨qb, qo, none⟩ = some (.int .i64 yv) ∧ X.cell? ⟨qb, qo + 1, none⟩ = some (.bool yn) ∧ X.cell? ⟨qb, qo + 2, none⟩ = some (.slice ya yL yc)) (by kernel_rfl) ?_ (fun hHeld => ?_)
          · exact HSY.out _ (by first | exact HB4.out.drew | exact HB4.out)
          refine takeD (i := 0) (v := ?v49) (some 62) rfl (by kernel_rfl) (by kernel_rfl) (by kernel_rfl) (fun _ _ _ h => h) (Or.inl ⟨by rfl, ?hy49⟩) (by assumption) (by rfl) ?rest49
          case hy49 => first | (intro w hSw; (try dsimp only at hSw); obtain ⟨q0, q1, q2⟩ := hSw; go_simp; done) | (intro w hSw; (try dsimp only at hSw); obtain ⟨q0, q1, q2⟩ := hSw; go_simp; with_reducible rfl)
          try simp only [Act.put, List.setIfInBounds_toArray, List.set_cons_zero, List.set_cons_succ]
          refine takeD (i := 1) (v := ?v50) (some 63) rfl (by kernel_rfl) (by kernel_rfl) (by kernel_rfl) (fun _ _ _ h => h) (Or.inl ⟨by rfl, ?hy50⟩) (by assumption) (by rfl) ?rest50
          case hy50 => first | (intro w hSw; (try dsimp only at hSw); obtain ⟨q0, q1, q2⟩ := hSw; go_simp; done) | (intro w hSw; (try dsimp only at hSw); obtain ⟨q0, q1, q2⟩ := hSw; go_simp; with_reducible rfl)
          try simp only [Act.put, List.setIfInBounds_toArray, List.set_cons_zero, List.set_cons_succ]
          refine takeD (i := 2) (v := ?v51) (some 64) rfl (by kernel_rfl) (by kernel_rfl) (by kernel_rfl) (fun _ _ _ h => h) (Or.inl ⟨by rfl, ?hy51⟩) (by assumption) (by rfl) ?rest51
          case hy51 => first | (intro w hSw; (try dsimp only at hSw); obtain ⟨q0, q1, q2⟩ := hSw; go_simp; done) | (intro w hSw; (try dsimp only at hSw); obtain ⟨q0, q1, q2⟩ := hSw; go_simp; with_reducible rfl)
          try simp only [Act.put, List.setIfInBounds_toArray, List.set_cons_zero, List.set_cons_succ]
          refine takeD (i := 3) (v := ?v52) (some 65) rfl (by kernel_rfl) (by kernel_rfl) (by kernel_rfl) (fun _ _ _ h => h) (Or.inl ⟨by rfl, ?hy52⟩) (by assumption) (by rfl) ?rest52
          case hy52 => first | (intro w hSw; (try dsimp only at hSw); obtain ⟨q0, q1, q2⟩ := hSw; go_simp; done) | (intro w hSw; (try dsimp only at hSw); obtain ⟨q0, q1, q2⟩ := hSw; go_simp; with_reducible rfl)
          try simp only [Act.put, List.setIfInBounds_toArray, List.set_cons_zero, List.set_cons_succ]
          refine takeD (i := 6) (v := ?v53) (some 68) rfl (by kernel_rfl) (by kernel_rfl) (by kernel_rfl) (fun _ _ _ h => h) (Or.inl ⟨by rfl, ?hy53⟩) (by assumption) (by rfl) ?rest53
          case hy53 => first | (intro w hSw; (try dsimp only at hSw); obtain ⟨q0, q1, q2⟩ := hSw; go_simp; done) | (intro w hSw; (try dsimp only at hSw); obtain ⟨q0, q1, q2⟩ := hSw; go_simp; with_reducible rfl)
          try simp only [Act.put, List.setIfInBounds_toArray, List.set_cons_zero, List.set_cons_succ]
          refine takeD (i := 7) (v := ?v54) (some 69) rfl (by kernel_rfl) (by kernel_rfl) (by kernel_rfl) (fun _ _ _ h => h) (Or.inl ⟨by rfl, ?hy54⟩) (by assumption) (by rfl) ?rest54
          case hy54 => first | (intro w hSw; (try dsimp only at hSw); obtain ⟨q0, q1, q2⟩ := hSw; go_simp; done) | (intro w hSw; (try dsimp only at hSw); obtain ⟨q0, q1, q2⟩ := hSw; go_simp; with_reducible rfl)
          try simp only [Act.put, List.setIfInBounds_toArray, List.set_cons_zero, List.set_cons_succ]
          refine wpAnyH_ready (rs := [4]) (by kernel_rfl) (by simp) ?_
          refine AllReadyH.cons rfl (fun K hK => ?_) AllReadyH.nil
          go_simp
          have hbl := bel w4 (.cells #[.int .i64 yv, .bool yn, .slice ya yL yc] 89)
          have HB5 := hide ((bafter HB4.out hbl (Nat.le_refl _)).drew)
          have HR5 := hide ((bafter HR4.out hbl (Nat.le_refl _)).drew)
          have HBL := hide hbl
          have HRL := hide ((row_lit w4 yv yn (.slice ya yL yc) (yz)).below ((Below.refl _ _).drew))
          clear hbl
          generalize hw5 : ((w4).alloc (.cells #[.int .i64 yv, .bool yn, .slice ya yL yc] 89)).drew = w5 at *
          clear hw5
          refine hK.out _ _ (HSY.out _ HB5.out) (fun hHeld => ?_)
          clear hK K hHeld
          try simp only [Act.put, List.setIfInBounds_toArray, List.set_cons_zero, List.set_cons_succ]
          obtain ⟨v6, w6, hrun6, ho6, hg6, ha6, hk6⟩ := run_appP w5 w.heap.size 25 _ X (HO.out.below HR5.out) _ [((yv, yn, .slice ya yL yc, yz) : Pt)] HRL.out (fun m hm => by simp at hm; subst hm; rfl) (by have h9 := HXL.out; have h8 := HLA.out; have h7 := HLB.out; simp only [List.length_append, List.length_cons, List.length_nil] at *; omega) HB5.out.size
          have HB6 : Hid (Below w.heap.size w w6) := HB5.out.grown hg6 HB5.out.size (fun j hj => (HO.out.lt hj).1)
          have HG6 : Hid (GoodR w6 (X ++ [((yv, yn, .slice ya yL yc, yz) : Pt)])) := by
            intro m hm
            rcases List.mem_append.1 hm with h | h
            · exact ((HGR.out.below HR5.out).k32 hk6) m h
            · simp at h
              subst h
              exact ⟨HYG.out.1, HYG.out.2.below HB6.out⟩
          obtain ⟨oa6, oc6, rfl, _, _⟩ := ho6.len
          have HO6 := hide ho6
          clear ho6 hg6 ha6 hk6
          refine wpAnyH_ready (rs := [5]) (by kernel_rfl) (by simp) ?_
          refine AllReadyH.cons rfl (fun K hK => ?_) AllReadyH.nil
          refine Lib.wp_append_run _ _ _ _ _ rfl _ _ rfl rfl _ _ hrun6 ?_
          clear hrun6
          refine hK.out _ _ (HSY.out _ HB6.out) (fun hHeld => ?_)
          clear hK K hHeld
          try simp only [Act.put, List.setIfInBounds_toArray, List.set_cons_zero, List.set_cons_succ]
          refine wpAnyH_ready (rs := [8]) (by kernel_rfl) (by simp) ?_
          refine AllReadyH.cons rfl (fun K hK => ?_) AllReadyH.nil
          go_simp
          refine hK.out _ _ (HSY.out _ HB6.out) (fun hHeld => ?_)
          clear hK K hHeld
          try simp only [Act.put, List.setIfInBounds_toArray, List.set_cons_zero, List.set_cons_succ]
          refine wpAnyH_ready (rs := [9]) (by kernel_rfl) (by simp) ?_
          refine AllReadyH.cons rfl (fun K hK => ?_) AllReadyH.nil
          go_simp
          refine hK.out _ _ (HSY.out _ HB6.out) (fun hHeld => ?_)
          clear hK K hHeld
          try simp only [Act.put, List.setIfInBounds_toArray, List.set_cons_zero, List.set_cons_succ]
          refine wpAnyH_done (by kernel_rfl) ?_ _
          go_wp2
          go_roundw
          case rel =>
            have e1 := HA2.out
            have e2 := HB2.out
            have e3 := HL1.out
            have e4 := HL2.out
            subst e1
            subst e2
            subst e3
            subst e4
            exact ⟨_, B1, _, _, _, _, _, _, _, rfl, rfl, (by first | rfl | simp), HPR.out, HRQ1.out, HMG.out.right HGT.out HBB.out, HO6.out, HG6.out, HB6.out⟩
          case measure =>
            have e3 := HE2.out
            simp only [lenV]
            omega

end Go.Proofs.YtbjolmgobeagoaaGreatDoor
