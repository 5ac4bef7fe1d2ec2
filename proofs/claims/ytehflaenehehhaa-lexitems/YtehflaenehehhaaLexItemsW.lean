/- The law LexItems, walked. -/
import Derived.Test.YtehflaenehehhaaLRItems2
namespace Go.Proofs.Ytehflaenehehhaa
set_option linter.unusedVariables false
set_option linter.unusedSimpArgs false
set_option maxRecDepth 100000
open Go Go.RowKit Go.Shelf Go.Lib

attribute [local go_sem] Oper.semAt_some

theorem box_no_byte2 {W : World} {B : Nat} {t : TypeId} {z : Int} {i : Nat} {y : Int} (h : Boxed W B t (.int .i64 z)) (hc : W.cell? ⟨B, i, none⟩ = some (.int .u8 y)) : False := by
  rw [World.cell?, show W.heap[B]? = _ from h] at hc
  cases i with
  | zero => simp at hc
  | succ i => simp at hc

/-- What the loop keeps. -/
def ItC (W2 : World) (s1 : Nat) (lo : Option Addr) (M lc : Nat) (ao : Option Addr) (cap : Nat) (T : List Nat) (k : Nat) (W : World) : Prop :=
  (Boxed W W2.heap.size 39 (.slice lo M lc) ∧ Boxed W (W2.heap.size + 1) 3 (.int .i64 (k : Int))) ∧ PieceKnow (W2.heap.size + 2) ao cap T W ∧ Below W2.heap.size W2 W ∧ s1 ≤ W.heap.size
theorem itC_turn {W2 : World} {s1 : Nat} {lo : Option Addr} {M lc : Nat} {ao : Option Addr} {cap : Nat} {T : List Nat} {k D : Nat} {Pv : Nat → Prop} {W W' : World} (h : ItC W2 s1 lo M lc ao cap T k W) (hD : W2.heap.size + 3 ≤ D) (hpv : ∀ b, Pv b → D ≤ b) (hbb : ∀ b off, 0 < T.length → ao = some ⟨b, off, none⟩ → b < D) (ht : Turn D Pv W W') : ItC W2 s1 lo M lc ao cap T k W' := by
  obtain ⟨⟨g0, g1⟩, ⟨g4, g5⟩, g6, g7⟩ := h
  have np : ∀ b, b < D → ¬ Pv b := fun b hb e => by have := hpv b e; omega
  exact ⟨⟨ht.block _ _ g0 (np _ (by omega)) (.inl rfl), ht.block _ _ g1 (np _ (by omega)) (.inl rfl)⟩, ⟨cell_turn g4 ht (np _ (by omega)) (by omega), byts_turn g5 ht (fun hT a c e b off e2 => by cases e; exact ⟨np _ (hbb b off hT e2), hbb b off hT e2⟩)⟩, below_turn g6 ht (Nat.le_refl _) (by omega) (fun b e => by have := hpv b e; omega), Nat.le_trans g7 ht.size⟩
theorem itC_own {W2 : World} {s1 : Nat} {lo : Option Addr} {M lc : Nat} {ao : Option Addr} {cap : Nat} {T : List Nat} {C : Nat} (hC : W2.heap.size ≤ C) : OwnFrom C (fun k W => ItC W2 s1 lo M lc ao cap T k W) := fun k X Y row h hg hr => by
  obtain ⟨⟨g0, g1⟩, ⟨g4, g5⟩, g6, g7⟩ := h
  have cellk : ∀ {b i : Nat} {u : Value}, X.cell? ⟨b, i, none⟩ = some u → Y.cell? ⟨b, i, none⟩ = some u := fun {b i u} hc => cell_kept hc hg (fun r e => (hr r e).2)
  refine ⟨⟨own_cells hg hr g0 rfl, own_cells hg hr g1 rfl⟩, ⟨cellk g4, ?_⟩, ownFrom_below (β := Unit) (Nat.le_refl _) hC () X Y row g6 hg hr, Nat.le_trans g7 hg.size⟩
  obtain ⟨a, c, e, q1, q2⟩ := g5
  refine ⟨a, c, e, q1, fun j hj => ?_⟩
  obtain ⟨b, off, e2, hc⟩ := q2 j hj
  exact ⟨b, off, e2, cellk hc⟩
theorem ItC.below {W2 : World} {s1 : Nat} {lo : Option Addr} {M lc : Nat} {ao : Option Addr} {cap : Nat} {T : List Nat} {k : Nat} {W W' : World} (h : ItC W2 s1 lo M lc ao cap T k W) (hb : Below W.heap.size W W') : ItC W2 s1 lo M lc ao cap T k W' := by
  obtain ⟨⟨g0, g1⟩, ⟨g4, g5⟩, g6, g7⟩ := h
  exact ⟨⟨boxed_below g0 hb, boxed_below g1 hb⟩, ⟨(hb.cell (p := ⟨W2.heap.size + 2, 0, none⟩) (block_lt g4)).trans g4, g5.below hb⟩, bafter g6 hb (Nat.le_refl _), Nat.le_trans g7 hb.size⟩
theorem ItC.count {W2 : World} {s1 : Nat} {lo : Option Addr} {M lc : Nat} {ao : Option Addr} {cap : Nat} {T : List Nat} {k : Nat} {W : World} (h : ItC W2 s1 lo M lc ao cap T k W) : ItC W2 s1 lo M lc ao cap T (k + 1) (W.setCell ⟨W2.heap.size + 1, 0, none⟩ (.int .i64 ((k + 1 : Nat) : Int))) := by
  obtain ⟨⟨g0, g1⟩, ⟨g4, g5⟩, g6, g7⟩ := h
  have nc : ∀ (b i : Nat) (u : Value), W.cell? ⟨b, i, none⟩ = some u → b ≠ W2.heap.size + 1 → (W.setCell ⟨W2.heap.size + 1, 0, none⟩ (.int .i64 ((k + 1 : Nat) : Int))).cell? ⟨b, i, none⟩ = some u := fun b i u hc hne =>
    (World.cell?_of_block (w := W) (a := ⟨b, i, none⟩) (heap_setCell_other W ⟨W2.heap.size + 1, 0, none⟩ b _ hne)).trans hc
  refine ⟨⟨boxed_other g0 (by omega) _, Boxed.set _ g1⟩, ⟨nc _ _ _ g4 (by omega), ?_⟩, g6.setCell (p := ⟨W2.heap.size + 1, 0, none⟩) (by show W2.heap.size ≤ W2.heap.size + 1; omega) _, Nat.le_trans g7 (KeepsOthers.setCell W ⟨W2.heap.size + 1, 0, none⟩ _).size⟩
  obtain ⟨a, c, e, q1, q2⟩ := g5
  refine ⟨a, c, e, q1, fun j hj => ?_⟩
  obtain ⟨b, off, e2, hc⟩ := q2 j hj
  exact ⟨b, off, e2, nc _ _ _ hc (fun e => by subst e; exact box_no_byte2 g1 hc)⟩

/-- The slots of a round. -/
def itmAct (w W2 : World) (ao : Option Addr) (cap : Nat) (T : List Nat) (st S : Int) (lo : Option Addr) (M lc N k B : Nat) : Act :=
  { tmps := #[.slice ao T.length cap, .int .i64 st, undef, .pointer (some ⟨w.heap.size, 0, none⟩), .pointer (some ⟨w.heap.size + 1, 0, none⟩), .pointer (some ⟨W2.heap.size, 0, none⟩), .pointer (some ⟨W2.heap.size + 1, 0, none⟩), .pointer (some ⟨B, 0, none⟩), .bool true, .bool false, .bool false, .slice ao T.length cap, .int .i64 (T.length : Int), .bool (decide ((2000 : Int) < (T.length : Int))), .bool (decide ((2000 : Int) < (T.length : Int))), undef, .int .i64 st, .int .u64 (IntKind.u64.wrap st), .int .u64 ((IntKind.u64.wrap st).tmod 10), .int .i64 S, .slice ao T.length cap, .slice lo M lc, .slice ao T.length cap, .func (.func 27) #[] #[.pointer (some ⟨W2.heap.size + 2, 0, none⟩)], .agg #[.int .i64 (((itemAt T N k).1 : Nat) : Int), .int .i64 (((itemAt T N k).2 : Nat) : Int)], undef, undef, undef, undef, undef, undef, undef, undef, undef, undef, undef, undef, undef, undef, undef, undef, undef, undef, undef, undef, undef, undef, undef, undef], defers := [] }
def ItmB (w W2 : World) (ao : Option Addr) (cap : Nat) (T : List Nat) (st S : Int) (lo : Option Addr) (M lc N : Nat) (s1 : Nat) (ao' : Option Addr) (cap' : Nat) (p : Nat × Act) (W : World) : Prop :=
  ∃ B, p.2 = itmAct w W2 ao cap T st S lo M lc N p.1 B ∧ Box2 W B 32 (.int .i64 (((itemAt T N p.1).1 : Nat) : Int)) (.int .i64 (((itemAt T N p.1).2 : Nat) : Int)) ∧ ItC W2 s1 lo M lc ao' cap' T p.1 W

set_option maxHeartbeats 8000000 in
theorem lexitems_calls (w : World) (ao : Option Addr) (cap : Nat) (T : List Nat) (h : Byts w (.slice ao T.length cap) T) (hcap : T.length ≤ cap) (hao : ao = none → cap = 0) (st : Int) (hst : (Lit.int .i64 st).wf) :
    Calls Try.prog 4 #[.slice ao T.length cap, .int .i64 st] w fun e w' => e = .returned (.bool true) ∧ Below w.heap.size w w' := by
  have H := hide h
  clear h hao hst
  have bS := Boxed.new w 3 (.int .i64 st)
  have bR := Boxed.new (w.alloc (.cells #[.int .i64 st] 3)) 4 (.bool false)
  simp only [World.size_alloc] at bR
  have hB1 : Below w.heap.size w ((w.alloc (.cells #[.int .i64 st] 3)).alloc (.cells #[.bool false] 4)) := ((Below.refl _ w).alloc (Nat.le_refl _) _).alloc (by simp) _
  have BS := hide (bS.alloc (.cells #[.bool false] 4))
  have BR := hide bR
  have KB := hide hB1
  clear bS bR hB1
  refine calls_of_marks Try.func4 rfl ?_
  simp only [Try.ntmps4, List.size_toArray, List.length_cons, List.length_nil, Nat.reduceAdd, Nat.reduceSub, Array.replicate_succ, Array.replicate_zero, List.push_toArray, List.append_toArray, List.nil_append, List.cons_append]
  go_wp2_with fail
  refine (parted_calls _).mono ?_
  rintro e W1 ⟨rfl, hb1⟩
  have b1S := boxed_below BS.out hb1
  have b1R := boxed_below BR.out hb1
  have K1 := hide (bafter KB.out hb1 (Nat.le_refl _))
  clear hb1 BS BR KB
  by_cases hl : 2000 < T.length
  · have dl : decide ((2000 : Int) < (T.length : Int)) = true := decide_eq_true (by omega)
    have cR := b1R.cell
    have fR := b1R.frozen
    go_wp2_with fail
    refine (parted_calls W1).mono ?_
    rintro e W2 ⟨rfl, hb2⟩
    have b2R := boxed_below b1R hb2
    have cR2 := b2R.cell
    have fR2 := b2R.frozen
    have K2 := hide (bafter K1.out hb2 (Nat.le_refl _))
    clear hb2
    go_wp2
    have d1 := b2R.set (.bool true)
    refine ⟨.bool true, ?_, ⟨rfl, K2.out.setCell (p := ⟨w.heap.size + 1, 0, none⟩) (by simp) _⟩⟩
    have e1 := d1.cell
    simp [results, Try.f4, go_sem, e1]
  have dl : ¬ (2000 : Int) < (T.length : Int) := by omega
  obtain ⟨N, n1, n2⟩ := pieces_count T
  have hN : N ≤ 2000 := by have := posP_ge n1 N (Nat.le_refl _); omega
  have hM : (itemsL T N).length ≤ 2001 := by have := itemsL_le T N; omega
  have N1 := hide n1
  have N2 := hide n2
  clear n1 n2
  have cS := b1S.cell
  have fS := b1S.frozen
  go_wp2_with fail
  generalize wrap64 ((IntKind.u64.wrap st).tmod 10) = S
  have hb1' : Below w.heap.size w (W1.setCell ⟨w.heap.size, 0, none⟩ (.int .i64 S)) := K1.out.setCell (p := ⟨w.heap.size, 0, none⟩) (by simp) _
  have b2S := b1S.set (.int .i64 S)
  have b2R := boxed_other b1R (show w.heap.size + 1 ≠ w.heap.size by omega) (.int .i64 S)
  generalize W1.setCell ⟨w.heap.size, 0, none⟩ (.int .i64 S) = W1' at *
  refine (ritems_calls W1' ao cap T N (H.out.below hb1') N1.out N2.out (by omega) hcap).mono ?_
  rintro e W2 ⟨rv, rfl, hsp, hb2⟩
  have b3S := boxed_below b2S hb2
  have b3R := boxed_below b2R hb2
  have K2 := hide (bafter hb1' hb2 (Nat.le_refl _))
  have HSP := hide hsp
  obtain ⟨lo, lc, rfl, _⟩ := hsp
  clear hb1' b2S b2R hb2 b1S b1R cS fS K1
  generalize hM0 : (itemsL T N).length = M at *
  have HM0 := hide hM0
  clear hM0
  have v5 := Boxed.new W2 39 (.slice lo M lc)
  have kA := bel W2 (.cells #[.slice lo M lc] 39)
  have v6 := Boxed.new (W2.alloc (.cells #[.slice lo M lc] 39)) 3 (.int .i64 0)
  have kB := bel (W2.alloc (.cells #[.slice lo M lc] 39)) (.cells #[.int .i64 0] 3)
  have hz : ((W2.alloc (.cells #[.slice lo M lc] 39)).alloc (.cells #[.int .i64 0] 3)).heap.size = W2.heap.size + 2 := by simp
  rw [World.size_alloc] at v6
  have HW := hide (And.intro (boxed_below v5 kB) (And.intro v6 (And.intro (bafter kA kB (Nat.le_refl _)) hz)))
  clear v5 v6 kA kB hz
  go_wp2_with fail
  generalize (W2.alloc (.cells #[.slice lo M lc] 39)).alloc (.cells #[.int .i64 0] 3) = W3 at *
  obtain ⟨v5, v6, k23, hz3⟩ := HW.out
  clear HW
  refine (items_calls W3 ao cap T (H.out.below (bafter K2.out k23 (Nat.le_refl _))) (by omega)).mono ?_
  rintro e w0 ⟨ao', cap', rfl, hkn, hcp, hb0⟩
  rw [hz3] at hkn ⊢
  have u5 := boxed_below v5 hb0
  have u6 := boxed_below v6 hb0
  have k20 := bafter k23 hb0 (Nat.le_refl _)
  have l0 : W2.heap.size + 2 < w0.heap.size := block_lt hkn.1
  have hbb : ∀ b off, 0 < T.length → ao' = some ⟨b, off, none⟩ → b < w0.heap.size := fun b off hT e => by
    obtain ⟨_, _, e2, _, hcs⟩ := hkn.2
    cases e2
    obtain ⟨_, _, e3, hc⟩ := hcs 0 hT
    rw [e] at e3
    cases e3
    exact block_lt hc
  have hstart : ItC W2 w0.heap.size lo M lc ao' cap' T 0 w0 := ⟨⟨u5, u6⟩, hkn, k20, Nat.le_refl _⟩
  have HB3S := hide b3S
  have HB3R := hide b3R
  clear v5 v6 hb0 k23 u5 u6 k20 b3S b3R hkn
  go_wp2
  have hw2 : w.heap.size + 2 ≤ W2.heap.size := by have := Box1.lt' HB3R.out; omega
  refine (wpIn_wide (n := 3)).1 ?_
  refine range_knownV (gf := 27) (lb := #[.pointer (some ⟨W2.heap.size + 2, 0, none⟩)]) ?hg (enters_of Try.func27 (by kernel_rfl) rfl)
    (items_hands (W2.heap.size + 2) ao' cap' T N N1.out N2.out (by omega) hcp) (fun _ => rfl)
    (fun k Pv W => ItC W2 w0.heap.size lo M lc ao' cap' T k W)
    (fun c k Pv W => c = .exit 0 ∧ ItC W2 w0.heap.size lo M lc ao' cap' T k W)
    (fun Pv => itC_own (by omega))
    (fun c Pv => fun k X Y row hv hg hr => ⟨hv.1, itC_own (by omega) k X Y row hv.2 hg hr⟩)
    (fun k Pv W hv => hv.2.1)
    (fun k Pv Pv' W2' W3' hv hpv ht hp => itC_turn hv (by omega) (fun b hb => (hpv b hb).1) (fun b off hT e => by have := hbb b off hT e; omega) ht)
    (fun c k Pv W2' W3' hv hpv ht => ⟨hv.1, itC_turn hv.2 (by omega) hpv (fun b off hT e => by have := hbb b off hT e; omega) ht⟩)
    hstart (fun p Pv W => ItmB w W2 ao cap T st S lo M lc N w0.heap.size ao' cap' p W) ?own1 ?assign ?body ?done ?stop
  case hg => rfl
  case own1 => exact fun Pv p X Y row ⟨B, ha, hb, hv⟩ hg hr => ⟨B, ha, own_cells hg hr hb rfl, itC_own (by omega) p.1 X Y row hv hg hr⟩
  case assign =>
    rintro l k Pv X K hk hpv hv hK
    have hK2 := hK (itmAct w W2 ao cap T st S lo M lc N k X.heap.size) (X.alloc (.cells #[.int .i64 (((itemAt T N k).1 : Nat) : Int), .int .i64 (((itemAt T N k).2 : Nat) : Int)] 32)) (bel _ _) ⟨X.heap.size, rfl, World.alloc_heap_new _ _, hv.below (bel _ _)⟩
    clear hK hv
    unfold itmAct at hK2
    unfold itemV
    gi_wp2
    exact hK2
  case body =>
    rintro l k Pv a1 X hk hpv ⟨B, ha1, hbx, hv⟩
    dsimp only at ha1 hbx hv
    subst ha1
    unfold itmAct
    have HV := hide hv
    obtain ⟨⟨g0, g1⟩, g4, g6, g7⟩ := hv
    have cS := (boxed_below HB3S.out g6).cell
    have cN := g1.cell
    have fN := g1.frozen
    have cW := g0.cell
    have b0 := hbx.cell0
    have b1 := hbx.cell1
    have hkM : k < M := by rw [HM0.out] at hk; exact hk
    obtain ⟨lb, hlo, c0, c1⟩ : ∃ b, lo = some ⟨b, 0, none⟩ ∧ X.cell? ⟨b, k * 2, none⟩ = some (.int .i64 (((itemAt T N k).1 : Nat) : Int)) ∧ X.cell? ⟨b, k * 2 + 1, none⟩ = some (.int .i64 (((itemAt T N k).2 : Nat) : Int)) := by
      obtain ⟨lo2, lc2, e, _, hc⟩ := HSP.out.below g6
      rw [HM0.out] at e
      cases e
      obtain ⟨b, e, h1, h2⟩ := hc k (itemAt T N k) (by unfold itemAt; rw [List.getElem?_eq_getElem hk]; rfl)
      exact ⟨b, e, h1, h2⟩
    subst hlo
    generalize (((itemAt T N k).1 : Nat) : Int) = i1 at *
    generalize (((itemAt T N k).2 : Nat) : Int) = i2 at *
    have d1 : (k : Int) < (M : Int) := by omega
    have d0 : (0 : Int) ≤ (k : Int) := by omega
    have d2 : ¬ (k : Int) ≥ (M : Int) := by omega
    have d3 : decide ((k : Int) ≥ (M : Int)) = false := decide_eq_false (by omega)
    have d4 : decide ((M : Int) ≤ (k : Int)) = false := decide_eq_false (by omega)
    have d5 : decide (M ≤ k) = false := decide_eq_false (by omega)
    have hkb : k ≤ 2001 := by omega
    have HPV := hide hpv
    clear g0 g1 g4 g6 g7 hbx hstart hbb hk hpv
    by_cases hS : (k : Int) ≥ S
    · gi_wp2
      exact ⟨⟨KeepsFrom.refl _ _, fun b o _ h => h⟩, rfl, HV.out⟩
    · gi_wp2
      refine round_any 1 l (by kernel_rfl) (no_defer (by simp)) (by rintro ⟨_, _, h⟩; exact h) (wpAny_of_held (S := fun Y : World => (Y.cell? ⟨W2.heap.size + 1, 0, none⟩ = some (.int .i64 (k : Int)) ∧ Y.cell? ⟨W2.heap.size, 0, none⟩ = some (.slice (some ⟨lb, 0, none⟩) M lc)) ∧ (Y.cell? ⟨B, 0, none⟩ = some (.int .i64 i1) ∧ Y.cell? ⟨B, 1, none⟩ = some (.int .i64 i2)) ∧ (Y.cell? ⟨lb, k * 2, none⟩ = some (.int .i64 i1) ∧ Y.cell? ⟨lb, k * 2 + 1, none⟩ = some (.int .i64 i2))) _ _ _ _ ?_)
      have hSS : (fun Y : World => (Y.cell? ⟨W2.heap.size + 1, 0, none⟩ = some (.int .i64 (k : Int)) ∧ Y.cell? ⟨W2.heap.size, 0, none⟩ = some (.slice (some ⟨lb, 0, none⟩) M lc)) ∧ (Y.cell? ⟨B, 0, none⟩ = some (.int .i64 i1) ∧ Y.cell? ⟨B, 1, none⟩ = some (.int .i64 i2)) ∧ (Y.cell? ⟨lb, k * 2, none⟩ = some (.int .i64 i1) ∧ Y.cell? ⟨lb, k * 2 + 1, none⟩ = some (.int .i64 i2))) X.drew := ⟨⟨cN, cW⟩, ⟨b0, b1⟩, c0, c1⟩
      refine takeD (i := 0) (v := ?v1) (some 28) rfl (by kernel_rfl) (by kernel_rfl) (by kernel_rfl) (fun _ _ _ h => h) (Or.inl ⟨by rfl, ?hy1⟩) (by assumption) (by rfl) ?rest1
      case hy1 => first | (intro w hSw; (try dsimp only at hSw); go_simp; done) | (intro w hSw; (try dsimp only at hSw); go_simp; with_reducible rfl)
      try simp only [Act.put, List.setIfInBounds_toArray, List.set_cons_zero, List.set_cons_succ]
      refine takeD (i := 1) (v := ?v2) (some 29) rfl (by kernel_rfl) (by kernel_rfl) (by kernel_rfl) (fun _ _ _ h => h) (Or.inl ⟨by rfl, ?hy2⟩) (by assumption) (by rfl) ?rest2
      case hy2 => first | (intro w hSw; (try dsimp only at hSw); go_simp; done) | (intro w hSw; (try dsimp only at hSw); go_simp; with_reducible rfl)
      try simp only [Act.put, List.setIfInBounds_toArray, List.set_cons_zero, List.set_cons_succ]
      refine takeD (i := 2) (v := ?v3) (some 30) rfl (by kernel_rfl) (by kernel_rfl) (by kernel_rfl) (fun _ _ _ h => h) (Or.inl ⟨by rfl, ?hy3⟩) (by assumption) (by rfl) ?rest3
      case hy3 => first | (intro w hSw; (try dsimp only at hSw); go_simp; done) | (intro w hSw; (try dsimp only at hSw); go_simp; with_reducible rfl)
      try simp only [Act.put, List.setIfInBounds_toArray, List.set_cons_zero, List.set_cons_succ]
      refine takeD (i := 3) (v := ?v4) (some 31) rfl (by kernel_rfl) (by kernel_rfl) (by kernel_rfl) (fun _ _ _ h => h) (Or.inl ⟨by rfl, ?hy4⟩) (by assumption) (by rfl) ?rest4
      case hy4 => first | (intro w hSw; (try dsimp only at hSw); go_simp; done) | (intro w hSw; (try dsimp only at hSw); go_simp; with_reducible rfl)
      try simp only [Act.put, List.setIfInBounds_toArray, List.set_cons_zero, List.set_cons_succ]
      refine takeD (i := 4) (v := ?v5) (some 32) rfl (by kernel_rfl) (by kernel_rfl) (by kernel_rfl) (fun _ _ _ h => h) (Or.inl ⟨by rfl, ?hy5⟩) (by assumption) (by rfl) ?rest5
      case hy5 => first | (intro w hSw; (try dsimp only at hSw); go_simp; done) | (intro w hSw; (try dsimp only at hSw); go_simp; with_reducible rfl)
      try simp only [Act.put, List.setIfInBounds_toArray, List.set_cons_zero, List.set_cons_succ]
      refine takeD (i := 5) (v := ?v6) (some 33) rfl (by kernel_rfl) (by kernel_rfl) (by kernel_rfl) (fun _ _ _ h => h) (Or.inl ⟨by rfl, ?hy6⟩) (by assumption) (by rfl) ?rest6
      case hy6 => first | (intro w hSw; (try dsimp only at hSw); go_simp; done) | (intro w hSw; (try dsimp only at hSw); go_simp; with_reducible rfl)
      try simp only [Act.put, List.setIfInBounds_toArray, List.set_cons_zero, List.set_cons_succ]
      refine takeD (i := 6) (v := ?v7) (some 34) rfl (by kernel_rfl) (by kernel_rfl) (by kernel_rfl) (fun _ _ _ h => h) (Or.inl ⟨by rfl, ?hy7⟩) (by assumption) (by rfl) ?rest7
      case hy7 => first | (intro w hSw; (try dsimp only at hSw); go_simp; done) | (intro w hSw; (try dsimp only at hSw); go_simp; with_reducible rfl)
      try simp only [Act.put, List.setIfInBounds_toArray, List.set_cons_zero, List.set_cons_succ]
      refine takeD (i := 7) (v := ?v8) (some 35) rfl (by kernel_rfl) (by kernel_rfl) (by kernel_rfl) (fun _ _ _ h => h) (Or.inl ⟨by rfl, ?hy8⟩) (by assumption) (by rfl) ?rest8
      case hy8 => first | (intro w hSw; (try dsimp only at hSw); go_simp; done) | (intro w hSw; (try dsimp only at hSw); go_simp; with_reducible rfl)
      try simp only [Act.put, List.setIfInBounds_toArray, List.set_cons_zero, List.set_cons_succ]
      refine takeD (i := 8) (v := ?v9) (some 36) rfl (by kernel_rfl) (by kernel_rfl) (by kernel_rfl) (fun _ _ _ h => h) (Or.inl ⟨by rfl, ?hy9⟩) (by assumption) (by rfl) ?rest9
      case hy9 => first | (intro w hSw; (try dsimp only at hSw); go_simp; done) | (intro w hSw; (try dsimp only at hSw); go_simp; with_reducible rfl)
      try simp only [Act.put, List.setIfInBounds_toArray, List.set_cons_zero, List.set_cons_succ]
      refine takeD (i := 9) (v := ?v10) (some 37) rfl (by kernel_rfl) (by kernel_rfl) (by kernel_rfl) (fun _ _ _ h => h) (Or.inl ⟨by rfl, ?hy10⟩) (by assumption) (by rfl) ?rest10
      case hy10 => first | (intro w hSw; (try dsimp only at hSw); go_simp; done) | (intro w hSw; (try dsimp only at hSw); go_simp; with_reducible rfl)
      try simp only [Act.put, List.setIfInBounds_toArray, List.set_cons_zero, List.set_cons_succ]
      refine takeD (i := 10) (v := ?v11) (some 38) rfl (by kernel_rfl) (by kernel_rfl) (by kernel_rfl) (fun _ _ _ h => h) (Or.inl ⟨by rfl, ?hy11⟩) (by assumption) (by rfl) ?rest11
      case hy11 => first | (intro w hSw; (try dsimp only at hSw); go_simp; done) | (intro w hSw; (try dsimp only at hSw); go_simp; with_reducible rfl)
      try simp only [Act.put, List.setIfInBounds_toArray, List.set_cons_zero, List.set_cons_succ]
      refine takeD (i := 11) (v := ?v12) (some 39) rfl (by kernel_rfl) (by kernel_rfl) (by kernel_rfl) (fun _ _ _ h => h) (Or.inl ⟨by rfl, ?hy12⟩) (by assumption) (by rfl) ?rest12
      case hy12 => first | (intro w hSw; (try dsimp only at hSw); go_simp; done) | (intro w hSw; (try dsimp only at hSw); go_simp; with_reducible rfl)
      try simp only [Act.put, List.setIfInBounds_toArray, List.set_cons_zero, List.set_cons_succ]
      refine wpAnyH_done (by kernel_rfl) ?_ _
      simp only [Exit.then]
      clear hSS
      gi_wp2
      have hd := HV.out.count
      rw [show ((k + 1 : Nat) : Int) = (k : Int) + 1 by omega] at hd
      refine ⟨⟨((KeepsOthers.drew _).trans (KeepsOthers.setCell _ _ _)).from _, fun b o hb ho => (heap_setCell_other X ⟨W2.heap.size + 1, 0, none⟩ b _ (by show b ≠ W2.heap.size + 1; have := (HPV.out b hb).1; omega)).trans ho⟩, ?_⟩
      exact hd.below (Below.refl _ _).drew
  case done =>
    rintro D Pv X hD ⟨⟨g0, g1⟩, g4, g6, g7⟩ hKd
    have cW := g0.cell
    have K2X := hide g6
    have KX := hide (bafter K2.out g6 (Nat.le_refl _))
    clear g0 g1 g4 g6 g7 hstart hbb
    go_wp2
    refine wp_region_held_drew (S := fun Y : World => Y.cell? ⟨W2.heap.size, 0, none⟩ = some (.slice lo M lc)) (by kernel_rfl) cW (fun hS0 => ?_)
    try simp only [Act.put, List.setIfInBounds_toArray, List.set_cons_zero, List.set_cons_succ]
    refine wpAnyH_ready (rs := [0]) (by kernel_rfl) (by simp) ?_
    refine AllReadyH.cons rfl (fun K hK => ?_) AllReadyH.nil
    go_simp
    refine (parted_calls X.drew).mono ?_
    rintro e Y1 ⟨rfl, hy1⟩
    replace hy1 : Below X.heap.size X Y1 := ((Below.refl X.heap.size X).drew).trans hy1
    have hS1 : (fun Y : World => Y.cell? ⟨W2.heap.size, 0, none⟩ = some (.slice lo M lc)) Y1 := (hy1.cell (p := ⟨W2.heap.size, 0, none⟩) (block_lt cW)).trans cW
    clear hS0
    go_wp2_with fail
    refine hK.out _ _ hS1 (fun _ => ?_)
    clear hK K
    try simp only [Act.put, List.setIfInBounds_toArray, List.set_cons_zero, List.set_cons_succ]
    refine takeD (i := 1) (v := ?v13) (some 43) rfl (by kernel_rfl) (by kernel_rfl) (by kernel_rfl) (fun _ _ _ h => h) (Or.inl ⟨by rfl, ?hy13⟩) (by assumption) (by rfl) ?rest13
    case hy13 => first | (intro w hSw; (try dsimp only at hSw); go_simp; done) | (intro w hSw; (try dsimp only at hSw); go_simp; with_reducible rfl)
    try simp only [Act.put, List.setIfInBounds_toArray, List.set_cons_zero, List.set_cons_succ]
    refine takeD (i := 2) (v := ?v14) (some 44) rfl (by kernel_rfl) (by kernel_rfl) (by kernel_rfl) (fun _ _ _ h => h) (Or.inl ⟨by rfl, ?hy14⟩) (by assumption) (by rfl) ?rest14
    case hy14 => first | (intro w hSw; (try dsimp only at hSw); go_simp; done) | (intro w hSw; (try dsimp only at hSw); go_simp; with_reducible rfl)
    try simp only [Act.put, List.setIfInBounds_toArray, List.set_cons_zero, List.set_cons_succ]
    refine takeD (i := 4) (v := ?v15) (some 46) rfl (by kernel_rfl) (by kernel_rfl) (by kernel_rfl) (fun _ _ _ h => h) (Or.inl ⟨by rfl, ?hy15⟩) (by assumption) (by rfl) ?rest15
    case hy15 => first | (intro w hSw; (try dsimp only at hSw); go_simp; done) | (intro w hSw; (try dsimp only at hSw); go_simp; with_reducible rfl)
    try simp only [Act.put, List.setIfInBounds_toArray, List.set_cons_zero, List.set_cons_succ]
    refine wpAnyH_ready (rs := [3]) (by kernel_rfl) (by simp) ?_
    refine AllReadyH.cons rfl (fun K hK => ?_) AllReadyH.nil
    go_simp
    refine (spans_calls Y1 ao cap T N (H.out.below (bafter KX.out hy1 (Nat.le_refl _))) N1.out N2.out (by omega)).mono ?_
    rintro e Y2 ⟨rv2, rfl, hsp2, hy2⟩
    have hS2 : (fun Y : World => Y.cell? ⟨W2.heap.size, 0, none⟩ = some (.slice lo M lc)) Y2 := (hy2.cell (p := ⟨W2.heap.size, 0, none⟩) (block_lt hS1)).trans hS1
    clear hS1
    go_wp2_with fail
    refine hK.out _ _ hS2 (fun _ => ?_)
    clear hK K
    try simp only [Act.put, List.setIfInBounds_toArray, List.set_cons_zero, List.set_cons_succ]
    refine wpAnyH_ready (rs := [5]) (by kernel_rfl) (by simp) ?_
    refine AllReadyH.cons rfl (fun K hK => ?_) AllReadyH.nil
    go_simp
    have hx2 : Below X.heap.size X Y2 := bafter hy1 hy2 (Nat.le_refl _)
    refine (samespans_calls Y2 _ _ (itemsL T N) hsp2 (HSP.out.below (bafter K2X.out hx2 (Nat.le_refl _))) (by rw [HM0.out]; omega)).mono ?_
    rintro e Y3 ⟨rfl, hy3⟩
    have hx3 : Below X.heap.size X Y3 := bafter hx2 hy3 (Nat.le_refl _)
    have hS3 : (fun Y : World => Y.cell? ⟨W2.heap.size, 0, none⟩ = some (.slice lo M lc)) Y3 := (hy3.cell (p := ⟨W2.heap.size, 0, none⟩) (block_lt hS2)).trans hS2
    clear hS2 hy1 hy2 hy3 hx2 hsp2
    go_wp2_with fail
    refine hK.out _ _ hS3 (fun _ => ?_)
    clear hK K
    try simp only [Act.put, List.setIfInBounds_toArray, List.set_cons_zero, List.set_cons_succ]
    refine takeD (i := 6) (v := ?v16) (some 48) rfl (by kernel_rfl) (by kernel_rfl) (by kernel_rfl) (fun _ _ _ h => h) (Or.inl ⟨by rfl, ?hy16⟩) (by assumption) (by rfl) ?rest16
    case hy16 => first | (intro w hSw; (try dsimp only at hSw); go_simp; done) | (intro w hSw; (try dsimp only at hSw); go_simp; with_reducible rfl)
    try simp only [Act.put, List.setIfInBounds_toArray, List.set_cons_zero, List.set_cons_succ]
    have r3 := boxed_below HB3R.out (bafter K2X.out hx3 (Nat.le_refl _))
    have cR := r3.cell
    have fR := r3.frozen
    refine wpAnyH_ready (rs := [7]) (by kernel_rfl) (by simp) ?_
    refine AllReadyH.cons rfl (fun K hK => ?_) AllReadyH.nil
    go_simp
    have hS4 : (fun Y : World => Y.cell? ⟨W2.heap.size, 0, none⟩ = some (.slice lo M lc)) (Y3.setCell ⟨w.heap.size + 1, 0, none⟩ (.bool true)) := (World.cell?_of_block (w := Y3) (a := ⟨W2.heap.size, 0, none⟩) (heap_setCell_other Y3 ⟨w.heap.size + 1, 0, none⟩ W2.heap.size _ (by show W2.heap.size ≠ w.heap.size + 1; have := Box1.lt' HB3R.out; omega))).trans hS3
    refine hK.out _ _ hS4 (fun _ => ?_)
    clear hK K
    try simp only [Act.put, List.setIfInBounds_toArray, List.set_cons_zero, List.set_cons_succ]
    refine wpAnyH_done (by kernel_rfl) ?_ _
    clear hS3 hS4 cW
    have hKD := (hx3.block D (Array.getElem?_eq_some_iff.1 hKd).1).trans hKd
    have hK' := (KeepsOthers.setCell Y3 ⟨w.heap.size + 1, 0, none⟩ (.bool true)).same D _ hKD rfl
    have KY := hide (bafter KX.out hx3 (Nat.le_refl _))
    have R3 := hide r3
    clear cR fR r3 hx3 hKD
    go_wp2
    refine ⟨by simp, .inl ⟨_, _, rfl, run_takeDeferred hK', ?_⟩⟩
    have d1 := R3.out.set (.bool true)
    have e1 := cell_kept d1.cell (grownBy_putObj' _ D (.deferred none)) (fun r e => by cases e; exact ⟨_, hK', rfl⟩)
    have hlast := belowK_b (w := w) (Nat.le_refl _) _ D _ (.deferred none) (by omega) hK' rfl rfl
    refine ⟨.bool true, ?_, ⟨rfl, (KY.out.setCell (p := ⟨w.heap.size + 1, 0, none⟩) (by simp) _).trans hlast⟩⟩
    simp [results, Try.f4, go_sem, e1]
  case stop =>
    rintro D c k Pv X hD hk ⟨rfl, ⟨g0, g1⟩, g4, g6, g7⟩ hKd
    have cW := g0.cell
    have K2X := hide g6
    have KX := hide (bafter K2.out g6 (Nat.le_refl _))
    clear g0 g1 g4 g6 g7 hstart hbb
    refine wpIn_wide.2 ?_
    go_wp2
    refine wp_region_held_drew (S := fun Y : World => Y.cell? ⟨W2.heap.size, 0, none⟩ = some (.slice lo M lc)) (by kernel_rfl) cW (fun hS0 => ?_)
    try simp only [Act.put, List.setIfInBounds_toArray, List.set_cons_zero, List.set_cons_succ]
    refine wpAnyH_ready (rs := [0]) (by kernel_rfl) (by simp) ?_
    refine AllReadyH.cons rfl (fun K hK => ?_) AllReadyH.nil
    go_simp
    refine (parted_calls X.drew).mono ?_
    rintro e Y1 ⟨rfl, hy1⟩
    replace hy1 : Below X.heap.size X Y1 := ((Below.refl X.heap.size X).drew).trans hy1
    have hS1 : (fun Y : World => Y.cell? ⟨W2.heap.size, 0, none⟩ = some (.slice lo M lc)) Y1 := (hy1.cell (p := ⟨W2.heap.size, 0, none⟩) (block_lt cW)).trans cW
    clear hS0
    go_wp2_with fail
    refine hK.out _ _ hS1 (fun _ => ?_)
    clear hK K
    try simp only [Act.put, List.setIfInBounds_toArray, List.set_cons_zero, List.set_cons_succ]
    refine takeD (i := 1) (v := ?v17) (some 43) rfl (by kernel_rfl) (by kernel_rfl) (by kernel_rfl) (fun _ _ _ h => h) (Or.inl ⟨by rfl, ?hy17⟩) (by assumption) (by rfl) ?rest17
    case hy17 => first | (intro w hSw; (try dsimp only at hSw); go_simp; done) | (intro w hSw; (try dsimp only at hSw); go_simp; with_reducible rfl)
    try simp only [Act.put, List.setIfInBounds_toArray, List.set_cons_zero, List.set_cons_succ]
    refine takeD (i := 2) (v := ?v18) (some 44) rfl (by kernel_rfl) (by kernel_rfl) (by kernel_rfl) (fun _ _ _ h => h) (Or.inl ⟨by rfl, ?hy18⟩) (by assumption) (by rfl) ?rest18
    case hy18 => first | (intro w hSw; (try dsimp only at hSw); go_simp; done) | (intro w hSw; (try dsimp only at hSw); go_simp; with_reducible rfl)
    try simp only [Act.put, List.setIfInBounds_toArray, List.set_cons_zero, List.set_cons_succ]
    refine takeD (i := 4) (v := ?v19) (some 46) rfl (by kernel_rfl) (by kernel_rfl) (by kernel_rfl) (fun _ _ _ h => h) (Or.inl ⟨by rfl, ?hy19⟩) (by assumption) (by rfl) ?rest19
    case hy19 => first | (intro w hSw; (try dsimp only at hSw); go_simp; done) | (intro w hSw; (try dsimp only at hSw); go_simp; with_reducible rfl)
    try simp only [Act.put, List.setIfInBounds_toArray, List.set_cons_zero, List.set_cons_succ]
    refine wpAnyH_ready (rs := [3]) (by kernel_rfl) (by simp) ?_
    refine AllReadyH.cons rfl (fun K hK => ?_) AllReadyH.nil
    go_simp
    refine (spans_calls Y1 ao cap T N (H.out.below (bafter KX.out hy1 (Nat.le_refl _))) N1.out N2.out (by omega)).mono ?_
    rintro e Y2 ⟨rv2, rfl, hsp2, hy2⟩
    have hS2 : (fun Y : World => Y.cell? ⟨W2.heap.size, 0, none⟩ = some (.slice lo M lc)) Y2 := (hy2.cell (p := ⟨W2.heap.size, 0, none⟩) (block_lt hS1)).trans hS1
    clear hS1
    go_wp2_with fail
    refine hK.out _ _ hS2 (fun _ => ?_)
    clear hK K
    try simp only [Act.put, List.setIfInBounds_toArray, List.set_cons_zero, List.set_cons_succ]
    refine wpAnyH_ready (rs := [5]) (by kernel_rfl) (by simp) ?_
    refine AllReadyH.cons rfl (fun K hK => ?_) AllReadyH.nil
    go_simp
    have hx2 : Below X.heap.size X Y2 := bafter hy1 hy2 (Nat.le_refl _)
    refine (samespans_calls Y2 _ _ (itemsL T N) hsp2 (HSP.out.below (bafter K2X.out hx2 (Nat.le_refl _))) (by rw [HM0.out]; omega)).mono ?_
    rintro e Y3 ⟨rfl, hy3⟩
    have hx3 : Below X.heap.size X Y3 := bafter hx2 hy3 (Nat.le_refl _)
    have hS3 : (fun Y : World => Y.cell? ⟨W2.heap.size, 0, none⟩ = some (.slice lo M lc)) Y3 := (hy3.cell (p := ⟨W2.heap.size, 0, none⟩) (block_lt hS2)).trans hS2
    clear hS2 hy1 hy2 hy3 hx2 hsp2
    go_wp2_with fail
    refine hK.out _ _ hS3 (fun _ => ?_)
    clear hK K
    try simp only [Act.put, List.setIfInBounds_toArray, List.set_cons_zero, List.set_cons_succ]
    refine takeD (i := 6) (v := ?v20) (some 48) rfl (by kernel_rfl) (by kernel_rfl) (by kernel_rfl) (fun _ _ _ h => h) (Or.inl ⟨by rfl, ?hy20⟩) (by assumption) (by rfl) ?rest20
    case hy20 => first | (intro w hSw; (try dsimp only at hSw); go_simp; done) | (intro w hSw; (try dsimp only at hSw); go_simp; with_reducible rfl)
    try simp only [Act.put, List.setIfInBounds_toArray, List.set_cons_zero, List.set_cons_succ]
    have r3 := boxed_below HB3R.out (bafter K2X.out hx3 (Nat.le_refl _))
    have cR := r3.cell
    have fR := r3.frozen
    refine wpAnyH_ready (rs := [7]) (by kernel_rfl) (by simp) ?_
    refine AllReadyH.cons rfl (fun K hK => ?_) AllReadyH.nil
    go_simp
    have hS4 : (fun Y : World => Y.cell? ⟨W2.heap.size, 0, none⟩ = some (.slice lo M lc)) (Y3.setCell ⟨w.heap.size + 1, 0, none⟩ (.bool true)) := (World.cell?_of_block (w := Y3) (a := ⟨W2.heap.size, 0, none⟩) (heap_setCell_other Y3 ⟨w.heap.size + 1, 0, none⟩ W2.heap.size _ (by show W2.heap.size ≠ w.heap.size + 1; have := Box1.lt' HB3R.out; omega))).trans hS3
    refine hK.out _ _ hS4 (fun _ => ?_)
    clear hK K
    try simp only [Act.put, List.setIfInBounds_toArray, List.set_cons_zero, List.set_cons_succ]
    refine wpAnyH_done (by kernel_rfl) ?_ _
    clear hS3 hS4 cW
    have hKD := (hx3.block D (Array.getElem?_eq_some_iff.1 hKd).1).trans hKd
    have hK' := (KeepsOthers.setCell Y3 ⟨w.heap.size + 1, 0, none⟩ (.bool true)).same D _ hKD rfl
    have KY := hide (bafter KX.out hx3 (Nat.le_refl _))
    have R3 := hide r3
    clear cR fR r3 hx3 hKD
    go_wp2
    refine ⟨by simp, .inl ⟨_, _, rfl, run_takeDeferred hK', ?_⟩⟩
    have d1 := R3.out.set (.bool true)
    have e1 := cell_kept d1.cell (grownBy_putObj' _ D (.deferred none)) (fun r e => by cases e; exact ⟨_, hK', rfl⟩)
    have hlast := belowK_b (w := w) (Nat.le_refl _) _ D _ (.deferred none) (by omega) hK' rfl rfl
    refine ⟨.bool true, ?_, ⟨rfl, (KY.out.setCell (p := ⟨w.heap.size + 1, 0, none⟩) (by simp) _).trans hlast⟩⟩
    simp [results, Try.f4, go_sem, e1]

end Go.Proofs.Ytehflaenehehhaa
