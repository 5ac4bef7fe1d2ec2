/- The law UtfLetters, walked. -/
import Derived.Test.YtchpnbcagbjnnaaDoorULaw1
import Derived.Test.YtchpnbcagbjnnaaDoorURVal
import Derived.Test.YtchpnbcagbjnnaaDoorUClone
namespace Go.Proofs.YtchpnbcagbjnnaaDoor
set_option linter.unusedVariables false
set_option linter.unusedSimpArgs false
open Go Go.RowKit Go.Shelf Go.Lib

attribute [local go_sem] Oper.semAt_some

set_option maxRecDepth 100000 in
set_option maxHeartbeats 8000000 in
theorem utfletters_calls (w : World) (ao : Option Addr) (cap : Nat) (T : List Nat) (h : Byt w ao cap T) (st : Int) (hst : (Lit.int .i64 st).wf) (hK : Know w) :
    Calls Tryd.prog 4 #[.slice ao T.length cap, .int .i64 st] w fun e w' => e = .returned (.bool true) ∧ Below w.heap.size w w' := by
  have H := hide h
  have HK := hide hK
  obtain ⟨N, n1, n2⟩ := letters_count h.1.small
  have N1 := hide n1
  have N2 := hide n2
  have hN : N ≤ T.length := by have := posL_ge h.1.small n1 N (Nat.le_refl _); omega
  clear h hK n1 n2
  have bS := Boxed.new w 3 (.int .i64 st)
  have bR := Boxed.new (w.alloc (.cells #[.int .i64 st] 3)) 4 (.bool false)
  simp only [World.size_alloc] at bR
  have hB1 : Below w.heap.size w ((w.alloc (.cells #[.int .i64 st] 3)).alloc (.cells #[.bool false] 4)) := ((Below.refl _ w).alloc (Nat.le_refl _) _).alloc (by simp) _
  have BS := hide (bS.alloc (.cells #[.bool false] 4))
  have BR := hide bR
  have KB := hide hB1
  clear bS bR hB1
  refine (callsIn_wide (n := 3)).1 ?_
  refine callsIn_of_wp_marks Tryd.func4 rfl trivial ?_ rfl
  simp only [Tryd.ntmps4, List.size_toArray, List.length_cons, List.length_nil, Nat.reduceAdd, Nat.reduceSub, Array.replicate_succ, Array.replicate_zero, List.push_toArray, List.append_toArray, List.nil_append, List.cons_append]
  gi_wp2_with fail
  refine ⟨trivial, ?_⟩
  refine (callsIn_wide.2 (lettered_calls _ (HK.out.below KB.out))).mono ?_
  rintro e W1 ⟨rfl, hb1⟩
  have b1S := boxed_below BS.out hb1
  have b1R := boxed_below BR.out hb1
  have K1 := hide (bafter KB.out hb1 (Nat.le_refl _))
  have hs1 : w.heap.size + 2 ≤ W1.heap.size := by have := hb1.size; simpa using this
  clear hb1 BS BR KB
  by_cases hl : T.length ≤ 400
  · have hl' : ¬ (T.length : Int) > 400 := by omega
    have hd4 : decide (400 < (T.length : Int)) = false := decide_eq_false (by omega)
    have cS := b1S.cell
    have fS := b1S.frozen
    gi_wp2_with fail
    refine ⟨trivial, ?_⟩
    generalize wrap64 ((IntKind.u64.wrap st).tmod 30) = S
    have hb1' : Below w.heap.size w (W1.setCell ⟨w.heap.size, 0, none⟩ (.int .i64 S)) := K1.out.setCell (p := ⟨w.heap.size, 0, none⟩) (by simp) _
    have b2S := b1S.set (.int .i64 S)
    have b2R := boxed_other b1R (show w.heap.size + 1 ≠ w.heap.size by omega) (.int .i64 S)
    have hsz : (W1.setCell ⟨w.heap.size, 0, none⟩ (.int .i64 S)).heap.size = W1.heap.size := by simp
    generalize W1.setCell ⟨w.heap.size, 0, none⟩ (.int .i64 S) = W1' at *
    refine (callsIn_wide.2 (rletters_calls _ ao cap T N (H.out.below hb1').1 (H.out.below hb1').2.1 N1.out N2.out (by omega))).mono ?_
    rintro e W2 ⟨rv, rfl, hLe, hb2⟩
    have hs2 : W1.heap.size ≤ W2.heap.size := by have := hb2.size; omega
    have B3S := hide (boxed_below b2S hb2)
    have B3R := hide (boxed_below b2R hb2)
    have K2 := hide (bafter hb1' hb2 (Nat.le_refl _))
    have HLe := hide hLe
    obtain ⟨lo, lc, rfl, _⟩ := hLe
    clear hb1' b2S b2R hb2 hsz b1S b1R cS fS hst K1
    gi_wp2_with fail
    refine ⟨trivial, ?_⟩
    have hbA : Below W2.heap.size W2 (W2.alloc (.cells #[.slice lo N lc] 32)) := bel _ _
    have K3 := hide (bafter K2.out hbA (Nat.le_refl _))
    refine (callsIn_wide.2 (uletters_calls _ ao cap T (H.out.below K3.out) (by omega))).mono ?_
    rintro e W4 ⟨B, ao', cap', rfl, hBx, hBy, hb4⟩
    have b4L := boxed_below (Boxed.new W2 32 (.slice lo N lc)) hb4
    have b4S := boxed_below (B3S.out.alloc (.cells #[.slice lo N lc] 32)) hb4
    have b4R := boxed_below (B3R.out.alloc (.cells #[.slice lo N lc] 32)) hb4
    have hLe4 := (HLe.out.below hbA).below hb4
    have K4 := hide (bafter K3.out hb4 (Nat.le_refl _))
    have hs4 : W2.heap.size + 1 ≤ W4.heap.size := by have := hb4.size; simpa using this
    have hBlt : B < W4.heap.size := hBx.lt
    clear hb4 hbA B3S B3R HLe K3 K2
    gi_wp2_with fail
    have b0 := Boxed.new W4 3 (.int .i64 0)
    have hB0 : Below W4.heap.size W4 (W4.alloc (.cells #[.int .i64 0] 3)) := bel _ _
    refine range_knownB (gf := 37) (lb := #[.pointer (some ⟨B, 0, none⟩)]) rfl (enters_of Tryd.func37 (by kernel_rfl) rfl)
      (letters_hands B ao' cap' T N N1.out N2.out (by omega) hBy.2.1) (fun _ => rfl)
      (fun k W => Boxed W W4.heap.size 3 (.int .i64 (k : Int)) ∧ Below W4.heap.size W4 W)
      (fun c k W => (c = .exit 0 ∧ Boxed W W4.heap.size 3 (.int .i64 (k : Int))) ∧ Below W4.heap.size W4 W)
      (OwnFrom.and (own_boxedk _ _ _ _) (ownFrom_below (Nat.le_refl _) (by simp)))
      (fun c => OwnFrom.and (OwnFrom.and (ownFrom_pure _ _) (own_boxedk _ _ _ _)) (ownFrom_below (Nat.le_refl _) (by simp)))
      ?know ?stable ⟨b0, hB0⟩
      (fun k => { tmps := #[.slice ao T.length cap, .int .i64 st, undef, .pointer (some ⟨w.heap.size, 0, none⟩), .pointer (some ⟨w.heap.size + 1, 0, none⟩), .pointer (some ⟨W2.heap.size, 0, none⟩), .func (.func 37) #[] #[.pointer (some ⟨B, 0, none⟩)], .pointer (some ⟨W4.heap.size, 0, none⟩), .int .i64 ((posL T k : Nat) : Int), .int .i32 (runeAt T (posL T k)), undef, undef, .bool true, .bool false, .bool false, .slice ao T.length cap, .int .i64 (T.length : Int), .bool false, .bool false, undef, .int .i64 st, .int .u64 (IntKind.u64.wrap st), .int .u64 ((IntKind.u64.wrap st).tmod 30), .int .i64 S, .slice ao T.length cap, .slice lo N lc, .slice ao T.length cap, .func (.func 37) #[] #[.pointer (some ⟨B, 0, none⟩)], .func (.func 37) #[] #[.pointer (some ⟨B, 0, none⟩)], .int .i64 ((posL T k : Nat) : Int), .int .i32 (runeAt T (posL T k)), undef, undef, undef, undef, undef, undef, undef, undef, undef, undef, undef, undef, undef, undef, undef, undef, undef, undef, undef, undef, undef, undef, undef, undef, undef, undef, undef, undef, undef, undef, undef, undef, undef, undef, undef, undef, undef, undef, undef, undef, undef, undef, undef, undef, undef, undef, undef, undef, undef, undef, undef, undef, undef, undef, undef, undef, undef, undef, undef, undef, undef, undef, undef], defers := [] }) ?assign ?body ?done ?stop
    case know =>
      rintro k W ⟨g1, hB⟩
      exact ⟨(boxed_below hBx hB).cell, (hBy.below hB).1, (HK.out.below (bafter K4.out hB (Nat.le_refl _))).tabs⟩
    case stable =>
      rintro k W W' ⟨g1, hB⟩ hb
      exact ⟨boxed_below g1 hb, bafter hB hb (Nat.le_refl _)⟩
    case assign =>
      intro l k W K hk hK
      gi_wp2
      exact hK
    case body =>
      rintro l k W hk ⟨g1, hB⟩
      have cS := (boxed_below b4S hB).cell
      have cL := (boxed_below b4L hB).cell
      have cN := g1.cell
      have fN := g1.frozen
      obtain ⟨lb, hlo, c0, c1, _⟩ : ∃ b, lo = some ⟨b, 0, none⟩ ∧ W.cell? ⟨b, 3 * k, none⟩ = some (.int .i64 ((posL T k : Nat) : Int)) ∧ W.cell? ⟨b, 3 * k + 1, none⟩ = some (.int .i64 (runeAt T (posL T k))) ∧ True := by
        obtain ⟨_, _, e, hc⟩ := hLe4.below hB
        cases e
        obtain ⟨b, e, h1, h2, _⟩ := hc k hk
        exact ⟨b, e, h1, h2, trivial⟩
      subst hlo
      have hpk := N1.out k hk
      have hrb : -1 ≤ runeAt T (posL T k) ∧ runeAt T (posL T k) ≤ 1114111 := by
        have := (size_bounds H.out.1.small hpk).2.2
        unfold runeAt
        split <;> omega
      have d1 : (k : Int) < (N : Int) := by omega
      have d0 : (0 : Int) ≤ (k : Int) := by omega
      have d2 : ¬ (k : Int) ≥ (N : Int) := by omega
      have hkm : k * 3 = 3 * k := by omega
      have hNb : N ≤ 400 := by omega
      generalize runeAt T (posL T k) = r at *
      generalize posL T k = pk at *
      have hwr : IntKind.i64.wrap r = r := by rw [IntKind.wrap_i64]; omega
      have e1 : ((pk : Int) != (pk : Int)) = false := by simp
      have e2 : (r != r) = false := by simp
      have HB := hide hB
      have G1 := hide g1
      clear g1 hB hpk hrb
      by_cases hS : (k : Int) ≥ S
      · gi_wp2
        exact ⟨KeepsFrom.refl _ _, ⟨rfl, G1.out⟩, HB.out⟩
      · gi_wp2
        exact ⟨(KeepsOthers.setCell _ _ _).from _, G1.out.set _, HB.out.setCell (p := ⟨W4.heap.size, 0, none⟩) (by simp) _⟩
    case done =>
      rintro D W hD ⟨g1, hB⟩ hK
      have cN := g1.cell
      have fN := g1.frozen
      have HB := hide hB
      have G1 := hide g1
      clear g1 hB
      gi_wp2_with fail
      have b5 := G1.out.set (.int .i64 0)
      have hB5 : Below W4.heap.size W4 (W.setCell ⟨W4.heap.size, 0, none⟩ (.int .i64 0)) := HB.out.setCell (p := ⟨W4.heap.size, 0, none⟩) (by simp) _
      have hK5 := (KeepsOthers.setCell W ⟨W4.heap.size, 0, none⟩ (.int .i64 0)).same D _ hK rfl
      have hDlt : D < (W.setCell ⟨W4.heap.size, 0, none⟩ (.int .i64 0)).heap.size := (Array.getElem?_eq_some_iff.1 hK5).1
      generalize W.setCell ⟨W4.heap.size, 0, none⟩ (.int .i64 0) = W5 at *
      clear HB G1 cN fN hK
      have hn5 : W4.heap.size < W5.heap.size := b5.lt
      refine range_knownB (gf := 37) (lb := #[.pointer (some ⟨B, 0, none⟩)]) rfl (enters_of Tryd.func37 (by kernel_rfl) rfl)
        (letters_hands B ao' cap' T N N1.out N2.out (by omega) hBy.2.1) (fun _ => rfl)
        (fun k W => (Boxed W W4.heap.size 3 (.int .i64 (k : Int)) ∧ W.heap[D]? = some (.deferred (some []))) ∧ Below W4.heap.size W4 W)
        (fun c k W => False)
        (OwnFrom.and (OwnFrom.and (own_boxedk _ _ _ _) (own_block hDlt)) (ownFrom_below (Nat.le_refl _) (by omega)))
        (fun c => ownFrom_pure _ _)
        ?know2 ?stable2 ⟨⟨b5, hK5⟩, hB5⟩
        (fun k => { tmps := #[.slice ao T.length cap, .int .i64 st, undef, .pointer (some ⟨w.heap.size, 0, none⟩), .pointer (some ⟨w.heap.size + 1, 0, none⟩), .pointer (some ⟨W2.heap.size, 0, none⟩), .func (.func 37) #[] #[.pointer (some ⟨B, 0, none⟩)], .pointer (some ⟨W4.heap.size, 0, none⟩), undef, undef, .int .i64 ((posL T k : Nat) : Int), .int .i32 (runeAt T (posL T k)), .bool true, .bool false, .bool false, .slice ao T.length cap, .int .i64 (T.length : Int), .bool false, .bool false, undef, .int .i64 st, .int .u64 (IntKind.u64.wrap st), .int .u64 ((IntKind.u64.wrap st).tmod 30), .int .i64 S, .slice ao T.length cap, .slice lo N lc, .slice ao T.length cap, .func (.func 37) #[] #[.pointer (some ⟨B, 0, none⟩)], .func (.func 37) #[] #[.pointer (some ⟨B, 0, none⟩)], undef, undef, undef, undef, undef, undef, undef, undef, undef, undef, undef, undef, undef, undef, undef, undef, undef, undef, undef, undef, undef, undef, undef, undef, undef, undef, undef, undef, undef, undef, .func (.func 37) #[] #[.pointer (some ⟨B, 0, none⟩)], .int .i64 ((posL T k : Nat) : Int), .int .i32 (runeAt T (posL T k)), undef, undef, undef, undef, undef, undef, undef, undef, undef, undef, undef, undef, undef, undef, undef, undef, undef, undef, undef, undef, undef, undef, undef, undef, undef, undef, undef, undef, undef, undef, undef, undef], defers := [] }) ?assign2 ?body2 ?done2 ?stop2
      case know2 =>
        rintro k W ⟨⟨g1, _⟩, hB⟩
        exact ⟨(boxed_below hBx hB).cell, (hBy.below hB).1, (HK.out.below (bafter K4.out hB (Nat.le_refl _))).tabs⟩
      case stable2 =>
        rintro k W W' ⟨⟨g1, g2⟩, hB⟩ hb
        exact ⟨⟨boxed_below g1 hb, (hb.block D (Array.getElem?_eq_some_iff.1 g2).1).trans g2⟩, bafter hB hb (Nat.le_refl _)⟩
      case assign2 =>
        intro l k W K hk hK
        gi_wp2
        exact hK
      case body2 =>
        rintro l k W hk ⟨⟨g1, g2⟩, hB⟩
        have cS := (boxed_below b4S hB).cell
        have cL := (boxed_below b4L hB).cell
        have cN := g1.cell
        have fN := g1.frozen
        obtain ⟨lb, hlo, c0, c1, _⟩ : ∃ b, lo = some ⟨b, 0, none⟩ ∧ W.cell? ⟨b, 3 * k, none⟩ = some (.int .i64 ((posL T k : Nat) : Int)) ∧ W.cell? ⟨b, 3 * k + 1, none⟩ = some (.int .i64 (runeAt T (posL T k))) ∧ True := by
          obtain ⟨_, _, e, hc⟩ := hLe4.below hB
          cases e
          obtain ⟨b, e, h1, h2, _⟩ := hc k hk
          exact ⟨b, e, h1, h2, trivial⟩
        subst hlo
        have hpk := N1.out k hk
        have hrb : -1 ≤ runeAt T (posL T k) ∧ runeAt T (posL T k) ≤ 1114111 := by
          have := (size_bounds H.out.1.small hpk).2.2
          unfold runeAt
          split <;> omega
        have d1 : (k : Int) < (N : Int) := by omega
        have d0 : (0 : Int) ≤ (k : Int) := by omega
        have d2 : ¬ (k : Int) ≥ (N : Int) := by omega
        have hkm : k * 3 = 3 * k := by omega
        have hNb : N ≤ 400 := by omega
        generalize runeAt T (posL T k) = r at *
        generalize posL T k = pk at *
        have hwr : IntKind.i64.wrap r = r := by rw [IntKind.wrap_i64]; omega
        have e1 : ((pk : Int) != (pk : Int)) = false := by simp
        have e2 : (r != r) = false := by simp
        have HB := hide hB
        have G1 := hide g1
        have hD4 : D ≠ W4.heap.size := by
          intro e
          rw [e] at g2
          rw [show W.heap[W4.heap.size]? = _ from G1.out] at g2
          cases g2
        have HG2 := hide g2
        clear g1 g2 hB hpk hrb
        gi_wp2
        refine ⟨(KeepsOthers.setCell _ _ _).from _, ⟨G1.out.set _, ?_⟩, HB.out.setCell (p := ⟨W4.heap.size, 0, none⟩) (by simp) _⟩
        exact (KeepsOthers.setCell W ⟨W4.heap.size, 0, none⟩ _).same D _ HG2.out rfl
      case done2 =>
        rintro D2 W6 hD2 ⟨⟨g1, g2⟩, hB⟩ hK2
        have HB := hide hB
        have G1 := hide g1
        have b6L := boxed_below b4L hB
        have b6R := boxed_below b4R hB
        clear g1 hB
        gi_wp2_with fail
        refine ⟨trivial, ?_⟩
        refine (callsIn_wide.2 (lettered_calls _ (HK.out.below (bafter K4.out HB.out (Nat.le_refl _))))).mono ?_
        rintro e W7 ⟨rfl, hb7⟩
        have b7N := boxed_below G1.out hb7
        have b7L := boxed_below b6L hb7
        have b7R := boxed_below b6R hb7
        have k7 := (hb7.block D (Array.getElem?_eq_some_iff.1 g2).1).trans g2
        have k7' := (hb7.block D2 (Array.getElem?_eq_some_iff.1 hK2).1).trans hK2
        have HB7 := hide (bafter K4.out (bafter HB.out hb7 (Nat.le_refl _)) (Nat.le_refl _))
        have c7N := b7N.cell
        have c7L := b7L.cell
        have c7R := b7R.cell
        have f7R := b7R.frozen
        have hee : ((N : Int) == (N : Int)) = true := by simp
        clear hb7 HB G1 b6L b6R
        gi_wp2
        have d1 := b7R.set (.bool true)
        have q1 := (KeepsOthers.setCell W7 ⟨w.heap.size + 1, 0, none⟩ (.bool true)).same D2 _ k7' rfl
        have q0 := (KeepsOthers.setCell W7 ⟨w.heap.size + 1, 0, none⟩ (.bool true)).same D _ k7 rfl
        have hne : D ≠ D2 := by
          intro e
          have := (Array.getElem?_eq_some_iff.1 g2).1
          omega
        have q0' : ((W7.setCell ⟨w.heap.size + 1, 0, none⟩ (.bool true)).putObj D2 (.deferred none)).heap[D]? = some (.deferred (some [])) := (World.putObj_heap_other hne).trans q0
        refine ⟨by simp, .inl ⟨_, _, rfl, run_takeDeferred q1, ?_⟩⟩
        refine ⟨by simp, .inl ⟨_, _, rfl, run_takeDeferred q0', ?_⟩⟩
        have e1 := cell_kept d1.cell (grownBy_putObj' _ D2 (.deferred none)) (fun r e => by cases e; exact ⟨_, q1, rfl⟩)
        have e2 := cell_kept e1 (grownBy_putObj' _ D (.deferred none)) (fun r e => by cases e; exact ⟨_, q0', rfl⟩)
        refine ⟨.bool true, ?_, ⟨rfl, ((HB7.out.setCell (p := ⟨w.heap.size + 1, 0, none⟩) (by simp) _).trans (belowK_b (w := w) (Nat.le_refl _) _ D2 _ _ (by omega) q1 rfl rfl)).trans (belowK_b (w := w) (Nat.le_refl _) _ D _ _ (by simp at hD; omega) q0' rfl rfl)⟩⟩
        simp [results, Tryd.f4, go_sem, e2]
      case stop2 =>
        rintro D2 c k W _ _ h _
        exact h.elim
    case stop =>
      rintro D c k W hD hk ⟨⟨rfl, g1⟩, hB⟩ hK
      have cN := g1.cell
      have fN := g1.frozen
      have HB := hide hB
      have G1 := hide g1
      clear g1 hB
      gi_wp2_with fail
      have b5 := G1.out.set (.int .i64 0)
      have hB5 : Below W4.heap.size W4 (W.setCell ⟨W4.heap.size, 0, none⟩ (.int .i64 0)) := HB.out.setCell (p := ⟨W4.heap.size, 0, none⟩) (by simp) _
      have hK5 := (KeepsOthers.setCell W ⟨W4.heap.size, 0, none⟩ (.int .i64 0)).same D _ hK rfl
      have hDlt : D < (W.setCell ⟨W4.heap.size, 0, none⟩ (.int .i64 0)).heap.size := (Array.getElem?_eq_some_iff.1 hK5).1
      generalize W.setCell ⟨W4.heap.size, 0, none⟩ (.int .i64 0) = W5 at *
      clear HB G1 cN fN hK
      have hn5 : W4.heap.size < W5.heap.size := b5.lt
      refine range_knownB (gf := 37) (lb := #[.pointer (some ⟨B, 0, none⟩)]) rfl (enters_of Tryd.func37 (by kernel_rfl) rfl)
        (letters_hands B ao' cap' T N N1.out N2.out (by omega) hBy.2.1) (fun _ => rfl)
        (fun k W => (Boxed W W4.heap.size 3 (.int .i64 (k : Int)) ∧ W.heap[D]? = some (.deferred (some []))) ∧ Below W4.heap.size W4 W)
        (fun c k W => False)
        (OwnFrom.and (OwnFrom.and (own_boxedk _ _ _ _) (own_block hDlt)) (ownFrom_below (Nat.le_refl _) (by omega)))
        (fun c => ownFrom_pure _ _)
        ?know2 ?stable2 ⟨⟨b5, hK5⟩, hB5⟩
        (fun k => { tmps := #[.slice ao T.length cap, .int .i64 st, undef, .pointer (some ⟨w.heap.size, 0, none⟩), .pointer (some ⟨w.heap.size + 1, 0, none⟩), .pointer (some ⟨W2.heap.size, 0, none⟩), .func (.func 37) #[] #[.pointer (some ⟨B, 0, none⟩)], .pointer (some ⟨W4.heap.size, 0, none⟩), undef, undef, .int .i64 ((posL T k : Nat) : Int), .int .i32 (runeAt T (posL T k)), .bool true, .bool false, .bool false, .slice ao T.length cap, .int .i64 (T.length : Int), .bool false, .bool false, undef, .int .i64 st, .int .u64 (IntKind.u64.wrap st), .int .u64 ((IntKind.u64.wrap st).tmod 30), .int .i64 S, .slice ao T.length cap, .slice lo N lc, .slice ao T.length cap, .func (.func 37) #[] #[.pointer (some ⟨B, 0, none⟩)], .func (.func 37) #[] #[.pointer (some ⟨B, 0, none⟩)], undef, undef, undef, undef, undef, undef, undef, undef, undef, undef, undef, undef, undef, undef, undef, undef, undef, undef, undef, undef, undef, undef, undef, undef, undef, undef, undef, undef, undef, undef, .func (.func 37) #[] #[.pointer (some ⟨B, 0, none⟩)], .int .i64 ((posL T k : Nat) : Int), .int .i32 (runeAt T (posL T k)), undef, undef, undef, undef, undef, undef, undef, undef, undef, undef, undef, undef, undef, undef, undef, undef, undef, undef, undef, undef, undef, undef, undef, undef, undef, undef, undef, undef, undef, undef, undef, undef], defers := [] }) ?assign2 ?body2 ?done2 ?stop2
      case know2 =>
        rintro k W ⟨⟨g1, _⟩, hB⟩
        exact ⟨(boxed_below hBx hB).cell, (hBy.below hB).1, (HK.out.below (bafter K4.out hB (Nat.le_refl _))).tabs⟩
      case stable2 =>
        rintro k W W' ⟨⟨g1, g2⟩, hB⟩ hb
        exact ⟨⟨boxed_below g1 hb, (hb.block D (Array.getElem?_eq_some_iff.1 g2).1).trans g2⟩, bafter hB hb (Nat.le_refl _)⟩
      case assign2 =>
        intro l k W K hk hK
        gi_wp2
        exact hK
      case body2 =>
        rintro l k W hk ⟨⟨g1, g2⟩, hB⟩
        have cS := (boxed_below b4S hB).cell
        have cL := (boxed_below b4L hB).cell
        have cN := g1.cell
        have fN := g1.frozen
        obtain ⟨lb, hlo, c0, c1, _⟩ : ∃ b, lo = some ⟨b, 0, none⟩ ∧ W.cell? ⟨b, 3 * k, none⟩ = some (.int .i64 ((posL T k : Nat) : Int)) ∧ W.cell? ⟨b, 3 * k + 1, none⟩ = some (.int .i64 (runeAt T (posL T k))) ∧ True := by
          obtain ⟨_, _, e, hc⟩ := hLe4.below hB
          cases e
          obtain ⟨b, e, h1, h2, _⟩ := hc k hk
          exact ⟨b, e, h1, h2, trivial⟩
        subst hlo
        have hpk := N1.out k hk
        have hrb : -1 ≤ runeAt T (posL T k) ∧ runeAt T (posL T k) ≤ 1114111 := by
          have := (size_bounds H.out.1.small hpk).2.2
          unfold runeAt
          split <;> omega
        have d1 : (k : Int) < (N : Int) := by omega
        have d0 : (0 : Int) ≤ (k : Int) := by omega
        have d2 : ¬ (k : Int) ≥ (N : Int) := by omega
        have hkm : k * 3 = 3 * k := by omega
        have hNb : N ≤ 400 := by omega
        generalize runeAt T (posL T k) = r at *
        generalize posL T k = pk at *
        have hwr : IntKind.i64.wrap r = r := by rw [IntKind.wrap_i64]; omega
        have e1 : ((pk : Int) != (pk : Int)) = false := by simp
        have e2 : (r != r) = false := by simp
        have HB := hide hB
        have G1 := hide g1
        have hD4 : D ≠ W4.heap.size := by
          intro e
          rw [e] at g2
          rw [show W.heap[W4.heap.size]? = _ from G1.out] at g2
          cases g2
        have HG2 := hide g2
        clear g1 g2 hB hpk hrb
        gi_wp2
        refine ⟨(KeepsOthers.setCell _ _ _).from _, ⟨G1.out.set _, ?_⟩, HB.out.setCell (p := ⟨W4.heap.size, 0, none⟩) (by simp) _⟩
        exact (KeepsOthers.setCell W ⟨W4.heap.size, 0, none⟩ _).same D _ HG2.out rfl
      case done2 =>
        rintro D2 W6 hD2 ⟨⟨g1, g2⟩, hB⟩ hK2
        have HB := hide hB
        have G1 := hide g1
        have b6L := boxed_below b4L hB
        have b6R := boxed_below b4R hB
        clear g1 hB
        gi_wp2_with fail
        refine ⟨trivial, ?_⟩
        refine (callsIn_wide.2 (lettered_calls _ (HK.out.below (bafter K4.out HB.out (Nat.le_refl _))))).mono ?_
        rintro e W7 ⟨rfl, hb7⟩
        have b7N := boxed_below G1.out hb7
        have b7L := boxed_below b6L hb7
        have b7R := boxed_below b6R hb7
        have k7 := (hb7.block D (Array.getElem?_eq_some_iff.1 g2).1).trans g2
        have k7' := (hb7.block D2 (Array.getElem?_eq_some_iff.1 hK2).1).trans hK2
        have HB7 := hide (bafter K4.out (bafter HB.out hb7 (Nat.le_refl _)) (Nat.le_refl _))
        have c7N := b7N.cell
        have c7L := b7L.cell
        have c7R := b7R.cell
        have f7R := b7R.frozen
        have hee : ((N : Int) == (N : Int)) = true := by simp
        clear hb7 HB G1 b6L b6R
        gi_wp2
        have d1 := b7R.set (.bool true)
        have q1 := (KeepsOthers.setCell W7 ⟨w.heap.size + 1, 0, none⟩ (.bool true)).same D2 _ k7' rfl
        have q0 := (KeepsOthers.setCell W7 ⟨w.heap.size + 1, 0, none⟩ (.bool true)).same D _ k7 rfl
        have hne : D ≠ D2 := by
          intro e
          have := (Array.getElem?_eq_some_iff.1 g2).1
          omega
        have q0' : ((W7.setCell ⟨w.heap.size + 1, 0, none⟩ (.bool true)).putObj D2 (.deferred none)).heap[D]? = some (.deferred (some [])) := (World.putObj_heap_other hne).trans q0
        refine ⟨by simp, .inl ⟨_, _, rfl, run_takeDeferred q1, ?_⟩⟩
        refine ⟨by simp, .inl ⟨_, _, rfl, run_takeDeferred q0', ?_⟩⟩
        have e1 := cell_kept d1.cell (grownBy_putObj' _ D2 (.deferred none)) (fun r e => by cases e; exact ⟨_, q1, rfl⟩)
        have e2 := cell_kept e1 (grownBy_putObj' _ D (.deferred none)) (fun r e => by cases e; exact ⟨_, q0', rfl⟩)
        refine ⟨.bool true, ?_, ⟨rfl, ((HB7.out.setCell (p := ⟨w.heap.size + 1, 0, none⟩) (by simp) _).trans (belowK_b (w := w) (Nat.le_refl _) _ D2 _ _ (by omega) q1 rfl rfl)).trans (belowK_b (w := w) (Nat.le_refl _) _ D _ _ (by simp at hD; omega) q0' rfl rfl)⟩⟩
        simp [results, Tryd.f4, go_sem, e2]
      case stop2 =>
        rintro D2 c k W _ _ h _
        exact h.elim
  · have hl' : (T.length : Int) > 400 := by omega
    have cR := b1R.cell
    have fR := b1R.frozen
    gi_wp2_with fail
    refine ⟨trivial, ?_⟩
    refine (callsIn_wide.2 (lettered_calls _ (HK.out.below K1.out))).mono ?_
    rintro e W2 ⟨rfl, hb2⟩
    have b2R := boxed_below b1R hb2
    have K2 := hide (bafter K1.out hb2 (Nat.le_refl _))
    have cR2 := b2R.cell
    have fR2 := b2R.frozen
    clear hb2
    gi_wp2
    have d1 := b2R.set (.bool true)
    refine ⟨.bool true, ?_, ⟨rfl, K2.out.setCell (p := ⟨w.heap.size + 1, 0, none⟩) (by simp) _⟩⟩
    have e1 := d1.cell
    simp [results, Tryd.f4, go_sem, e1]

end Go.Proofs.YtchpnbcagbjnnaaDoor
