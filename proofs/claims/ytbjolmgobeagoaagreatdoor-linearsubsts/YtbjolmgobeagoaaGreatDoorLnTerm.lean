/- Sums in memory: a number and parts; made, Of, Var. -/
import Derived.Test.YtbjolmgobeagoaaGreatDoorLnTidy2
namespace Go.Proofs.YtbjolmgobeagoaaGreatDoor
set_option linter.unusedVariables false
set_option linter.unusedSimpArgs false
set_option maxRecDepth 100000
open Go Go.RowKit Go.Shelf Go.Lib

/-- A block of three cells, that may be written. -/
def Thr (W : World) (b : Nat) (x y z : Value) (t : TypeId) : Prop := W.heap[b]? = some (.cells #[x, y, z] t (0, 0))
theorem Thr.keep {W W' : World} {b : Nat} {x y z : Value} {t : TypeId} (h : Thr W b x y z t) (hb : Below W.heap.size W W') : Thr W' b x y z t := (hb.block b (Array.getElem?_eq_some_iff.1 h).1).trans h
theorem Thr.keep' {n : Nat} {W W' : World} {b : Nat} {x y z : Value} {t : TypeId} (h : Thr W b x y z t) (hb : Below n W W') (hn : b < n) : Thr W' b x y z t := (hb.block b hn).trans h
theorem Thr.c0 {W : World} {b : Nat} {x y z : Value} {t : TypeId} (h : Thr W b x y z t) : W.cell? ⟨b, 0, none⟩ = some x := by rw [cell_of_row W b 0 _ _ _ h]; rfl
theorem Thr.c1 {W : World} {b : Nat} {x y z : Value} {t : TypeId} (h : Thr W b x y z t) : W.cell? ⟨b, 1, none⟩ = some y := by rw [cell_of_row W b 1 _ _ _ h]; rfl
theorem Thr.c2 {W : World} {b : Nat} {x y z : Value} {t : TypeId} (h : Thr W b x y z t) : W.cell? ⟨b, 2, none⟩ = some z := by rw [cell_of_row W b 2 _ _ _ h]; rfl
theorem Thr.f0 {W : World} {b : Nat} {x y z : Value} {t : TypeId} (h : Thr W b x y z t) (j : Nat) : W.frozen? ⟨b, j, none⟩ = false := frozen_of_row W b j _ _ h
theorem Thr.lt {W : World} {b : Nat} {x y z : Value} {t : TypeId} (h : Thr W b x y z t) : b < W.heap.size := (Array.getElem?_eq_some_iff.1 h).1
theorem Thr.new (W : World) (x y z : Value) (t : TypeId) : Thr (W.alloc (.cells #[x, y, z] t)) W.heap.size x y z t := World.alloc_heap_new W _
theorem Thr.new1 (W : World) (o : Obj) (x y z : Value) (t : TypeId) : Thr ((W.alloc o).alloc (.cells #[x, y, z] t)) (W.heap.size + 1) x y z t := by
  have h := Thr.new (W.alloc o) x y z t
  rw [World.size_alloc] at h
  exact h
theorem Thr.alloc {W : World} {b : Nat} {x y z : Value} {t : TypeId} (h : Thr W b x y z t) (o : Obj) : Thr (W.alloc o) b x y z t := h.keep (bel W o)
theorem Thr.every {W : World} {b : Nat} {x y z : Value} {t : TypeId} (h : Thr W b x y z t) : W.cell? ⟨b, 0, none⟩ = some x ∧ W.cell? ⟨b, 1, none⟩ = some y ∧ W.cell? ⟨b, 2, none⟩ = some z ∧ W.frozen? ⟨b, 0, none⟩ = false ∧ W.frozen? ⟨b, 1, none⟩ = false ∧ W.frozen? ⟨b, 2, none⟩ = false :=
  ⟨h.c0, h.c1, h.c2, h.f0 _, h.f0 _, h.f0 _⟩
/-- The world behind a store of three cells. -/
def put3 (W : World) (b : Nat) (p q r : Value) : World := ((W.setCell ⟨b, 0, none⟩ p).setCell ⟨b, 1, none⟩ q).setCell ⟨b, 2, none⟩ r
theorem Thr.put {W : World} {b : Nat} {x y z : Value} {t : TypeId} (h : Thr W b x y z t) (p q r : Value) : Thr (put3 W b p q r) b p q r t := by
  have h1 := heap_setCell_same W b 0 _ _ p h
  have h2 := heap_setCell_same _ b 1 _ _ q h1
  have h3 := heap_setCell_same _ b 2 _ _ r h2
  exact h3
theorem put3_other {W : World} {b k : Nat} (h : k ≠ b) (p q r : Value) : (put3 W b p q r).heap[k]? = W.heap[k]? :=
  (heap_setCell_other _ ⟨b, 2, none⟩ k r h).trans ((heap_setCell_other _ ⟨b, 1, none⟩ k q h).trans (heap_setCell_other W ⟨b, 0, none⟩ k p h))
theorem put3_below {n : Nat} {w W : World} {b : Nat} (h : Below n w W) (hb : n ≤ b) (p q r : Value) : Below n w (put3 W b p q r) :=
  ((h.setCell (p := ⟨b, 0, none⟩) hb p).setCell (p := ⟨b, 1, none⟩) hb q).setCell (p := ⟨b, 2, none⟩) hb r
/-- A number's and a sum's boxes hold no whole number. -/
def NoInt (W : World) (b : Nat) : Prop := ∀ j k x, W.cell? ⟨b, j, none⟩ ≠ some (.int k x)
theorem Thr.noInt {W : World} {b : Nat} {x : Bool} {y z : Option Addr} {l c l' c' : Nat} {t : TypeId} (h : Thr W b (.bool x) (.slice y l c) (.slice z l' c') t) : NoInt W b := by
  intro j k v hc
  rw [cell_of_row W b j _ _ _ h] at hc
  match j, hc with
  | 0, hc => simp at hc
  | 1, hc => simp at hc
  | 2, hc => simp at hc
  | n + 3, hc => simp at hc
theorem Two.noInt {W : World} {b : Nat} {x : Bool} {y : Option Addr} {l c : Nat} {t : TypeId} (h : Two W b (.bool x) (.slice y l c) t) : NoInt W b := by
  intro j k v hc
  rw [cell_of_row W b j _ _ _ h] at hc
  match j, hc with
  | 0, hc => simp at hc
  | 1, hc => simp at hc
  | n + 2, hc => simp at hc
theorem NoInt.off {W : World} {b : Nat} (h : NoInt W b) {a : Addr} {k : IntKind} {x : Int} (hc : W.cell? a = some (.int k x)) : a.block ≠ b := by
  intro e
  obtain ⟨ab, ao, asp⟩ := a
  have hs : asp = none := World.cell?_spot hc
  subst hs
  simp only at e
  subst e
  exact h _ _ _ hc
/-- All blocks but one are as they were, and that one holds no whole number. -/
structure ButN (b : Nat) (W W' : World) : Prop where
  no : NoInt W b
  same : ∀ k, k ≠ b → W'.heap[k]? = W.heap[k]?
theorem ButN.k32 {b : Nat} {W W' : World} (h : ButN b W W') : K32 W W' := fun a x hc =>
  (World.cell?_of_block (h.same a.block (h.no.off hc))).trans hc
theorem ButN.row {b : Nat} {W W' : World} (h : ButN b W W') {v : Value} {M : List Pt} (hr : RowP W v M) : RowP W' v M := by
  obtain ⟨ao, cap, e, h1, h2, h3⟩ := hr
  refine ⟨ao, cap, e, h1, h2, fun j m hj => ?_⟩
  obtain ⟨bb, o, e2, hc⟩ := h3 j m hj
  refine ⟨bb, o, e2, hc.keep (fun a u hu ha => ?_)⟩
  exact (World.cell?_of_block (h.same a.block (by rw [ha]; exact h.no.off (a := ⟨bb, o + j * 3, none⟩) hc.1))).trans hu
theorem Thr.but {W : World} {b : Nat} {x : Bool} {y z : Option Addr} {l c l' c' : Nat} {t : TypeId} (h : Thr W b (.bool x) (.slice y l c) (.slice z l' c') t) (p q r : Value) : ButN b W (put3 W b p q r) := ⟨h.noInt, fun k hk => put3_other hk p q r⟩
theorem Two.but {W : World} {b : Nat} {x : Bool} {y : Option Addr} {l c : Nat} {t : TypeId} (h : Two W b (.bool x) (.slice y l c) t) (p q : Value) : ButN b W ((W.setCell ⟨b, 0, none⟩ p).setCell ⟨b, 1, none⟩ q) :=
  ⟨h.noInt, fun k hk => (heap_setCell_other _ ⟨b, 1, none⟩ k q hk).trans (heap_setCell_other W ⟨b, 0, none⟩ k p hk)⟩

theorem results_term {fn : Func} {k : Tmp} (h : fn.results = #[.cell k 27]) {tmps : Array Value} {W : World} {b : Nat} {x y z : Value} {t : TypeId} (hp : tmps.getD k undef = .pointer (some ⟨b, 0, none⟩)) (T : Thr W b x y z t) :
    (results fn tmps).run Tryz.prog W = .ok (.agg #[x, y, z]) W := by
  have c0 := T.c0
  have c1 := T.c1
  have c2 := T.c2
  have hp' : tmps[k]?.getD undef = .pointer (some ⟨b, 0, none⟩) := by simpa using hp
  simp [results, h, hp', go_sem, c0, c1, c2]

/-- A sum as an argument: numbers of no more than k limbs, and few parts, or the one form. -/
def TermA (k : Nat) (W : World) (v : Value) (c : Int) (M : List Pt) : Prop :=
  ∃ cn ca cL cc pa pl pc, v = .agg #[.bool cn, .slice ca cL cc, .slice pa pl pc] ∧ BArg W (.agg #[.bool cn, .slice ca cL cc]) c ∧ c.natAbs < R ^ k ∧ RowP W (.slice pa pl pc) M ∧ GoodA W M ∧ Bnd k (ps M) ∧ (M.length ≤ 12 ∨ One W M M.length) ∧ M.length ≤ 1000
/-- A sum as an answer: the one form. -/
def TermR (W : World) (v : Value) (c : Int) (M : List Pt) : Prop :=
  ∃ cn ca cL cc pa pl pc, v = .agg #[.bool cn, .slice ca cL cc, .slice pa pl pc] ∧ BRes W (.agg #[.bool cn, .slice ca cL cc]) c ∧ RowP W (.slice pa pl pc) M ∧ GoodR W M ∧ NF (ps M)

theorem One.all {W : World} {M : List Pt} (h1 : NF (ps M)) (h2 : GoodR W M) : One W M M.length := by
  unfold One
  rw [List.take_length]
  exact ⟨h1, h2⟩
theorem One.below {W W' : World} {M : List Pt} {k : Nat} (h : One W M k) (hb : Below W.heap.size W W') : One W' M k := ⟨h.1, h.2.below hb⟩
theorem TermA.below {k : Nat} {W W' : World} {v : Value} {c : Int} {M : List Pt} (h : TermA k W v c M) (hb : Below W.heap.size W W') : TermA k W' v c M := by
  obtain ⟨cn, ca, cL, cc, pa, pl, pc, e, h1, h2, h3, h4, h5, h6, h7⟩ := h
  exact ⟨cn, ca, cL, cc, pa, pl, pc, e, h1.below hb, h2, h3.below hb, h4.below hb, h5, h6.imp id (fun h => h.below hb), h7⟩
theorem TermR.below {W W' : World} {v : Value} {c : Int} {M : List Pt} (h : TermR W v c M) (hb : Below W.heap.size W W') : TermR W' v c M := by
  obtain ⟨cn, ca, cL, cc, pa, pl, pc, e, h1, h3, h4, h5⟩ := h
  exact ⟨cn, ca, cL, cc, pa, pl, pc, e, h1.below hb, h3.below hb, h4.below hb, h5⟩
theorem TermR.but {b : Nat} {W W' : World} {v : Value} {c : Int} {M : List Pt} (h : TermR W v c M) (hb : ButN b W W') : TermR W' v c M := by
  obtain ⟨cn, ca, cL, cc, pa, pl, pc, e, h1, h3, h4, h5⟩ := h
  exact ⟨cn, ca, cL, cc, pa, pl, pc, e, h1.k32 hb.k32, hb.row h3, h4.k32 hb.k32, h5⟩
theorem TermR.form {W : World} {v : Value} {c : Int} {M : List Pt} (h : TermR W v c M) : ∃ cn ca cL cc pa pl pc, v = .agg #[.bool cn, .slice ca cL cc, .slice pa pl pc] := by
  obtain ⟨cn, ca, cL, cc, pa, pl, pc, e, _⟩ := h
  exact ⟨cn, ca, cL, cc, pa, pl, pc, e⟩
theorem TermR.arg {k : Nat} {W : World} {v : Value} {c : Int} {M : List Pt} (h : TermR W v c M) (hc : c.natAbs < R ^ k) (hM : Bnd k (ps M)) (hk : k ≤ 1048576) (hl : M.length ≤ 1000) : TermA k W v c M := by
  obtain ⟨cn, ca, cL, cc, pa, pl, pc, e, h1, h3, h4, h5⟩ := h
  exact ⟨cn, ca, cL, cc, pa, pl, pc, e, h1.arg hc hk, hc, h3, h4.arg hM hk, hM, .inr (One.all h5 h4), hl⟩

def MadeE (w : World) (cn : Bool) (cm pv : Value) (e : Ending) (w' : World) : Prop :=
  ∃ pa pl pc, e = .returned (.agg #[.bool cn, cm, .slice pa pl pc]) ∧ (∀ W M, RowP W pv M → RowP W (.slice pa pl pc) M) ∧ Below w.heap.size w w'

theorem eq_zero_dec (n : Nat) (h : n ≠ 0) : ((n : Int) == 0) = false := beq_eq_false_iff_ne.2 (by omega)
set_option maxHeartbeats 2000000 in
theorem made_calls {w : World} {cn : Bool} {ca : Option Addr} {cL cc : Nat} {pa : Option Addr} {pl pc : Nat} :
    Calls Tryz.prog 51 #[.agg #[.bool cn, .slice ca cL cc], .slice pa pl pc] w fun e w' => MadeE w cn (.slice ca cL cc) (.slice pa pl pc) e w' := by
  by_cases h : pl = 0
  · subst h
    go_enter Tryz.func51, Tryz.ntmps51
    go_wp2
    refine bodyPost_ret (results_term rfl rfl (Thr.new1 _ _ _ _ _ _)) rfl ?_
    refine ⟨_, _, _, rfl, fun W M hr => ?_, (bel _ _).trans ((bel _ _).mono (by simp))⟩
    obtain ⟨ao, cap, e, h1, h2, h3⟩ := hr
    obtain rfl : M = [] := by
      simp only [Value.slice.injEq] at e
      exact List.eq_nil_of_length_eq_zero e.2.1.symm
    exact ⟨none, 0, rfl, Nat.le_refl _, by simp [maxLen], fun j m hj => by simp at hj⟩
  · have e0 := eq_zero_dec pl h
    clear h
    go_enter Tryz.func51, Tryz.ntmps51
    go_wp2
    refine bodyPost_ret (results_term rfl rfl (Thr.new1 _ _ _ _ _ _)) rfl ?_
    exact ⟨_, _, _, rfl, fun W M hr => hr, (bel _ _).trans ((bel _ _).mono (by simp))⟩

def TermE (w : World) (c : Int) (f : Int → Int) (e : Ending) (w' : World) : Prop := ∃ v M, e = .returned v ∧ TermR w' v c M ∧ (∀ u, cf u (ps M) = f u) ∧ Below w.heap.size w w'

set_option maxHeartbeats 2000000 in
theorem lof_calls {w : World} {v : Value} {c : Int} (h : BArg w v c) :
    Calls Tryz.prog 24 #[v] w fun e w' => TermE w c (fun _ => 0) e w' := by
  obtain ⟨neg, mv, n, rfl, hm, hz⟩ := id h
  obtain ⟨a, L, cc, rfl⟩ := hm.shape
  have t2 := Thr.new (w.alloc (.cells #[.bool neg, .slice a L cc] 24)) (.bool false) (.slice none 0 0) (.slice none 0 0) 27
  rw [World.size_alloc] at t2
  have hb := ((bel w (.cells #[.bool neg, .slice a L cc] 24)).trans ((bel (w.alloc (.cells #[.bool neg, .slice a L cc] 24)) (.cells #[.bool false, .slice none 0 0, .slice none 0 0] 27)).mono (by simp)))
  have hcall := bnorm_calls (h.below hb)
  have T2 := hide t2
  have HB := hide hb
  clear t2 hb h hm hz
  go_enter Tryz.func24, Tryz.ntmps24
  go_wp2_with fail
  refine hcall.mono ?_
  rintro e w2 ⟨r2, rfl, q2, hb2⟩
  obtain ⟨b2, a2, L2, k2, rfl⟩ := q2.form
  have TZ := T2.out.keep hb2
  obtain ⟨d0, d1, d2, f0, f1, f2⟩ := TZ.every
  have TZ' := hide TZ
  have KZ' := hide (bafter HB.out hb2 (Nat.le_refl _))
  have Q2 := hide q2
  clear TZ hb2 hcall q2
  go_wp2
  refine bodyPost_ret (results_term rfl rfl (TZ'.out.put _ _ _)) rfl ?_
  refine ⟨_, [], rfl, TermR.but ⟨_, _, _, _, none, 0, 0, rfl, Q2.out, ⟨none, 0, rfl, Nat.le_refl _, by simp [maxLen], fun j m hj => by simp at hj⟩, fun m hm => (by cases hm), NF.nil⟩ (TZ'.out.but _ _ _), fun u => rfl, put3_below KZ'.out (by omega) _ _ _⟩

end Go.Proofs.YtbjolmgobeagoaaGreatDoor
