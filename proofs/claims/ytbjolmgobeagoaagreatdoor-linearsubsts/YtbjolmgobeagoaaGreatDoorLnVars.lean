/- The variables of a sum gone through: Vars and its iterator. -/
import Derived.Test.YtbjolmgobeagoaaGreatDoorLnRange
import Derived.Test.YtbjolmgobeagoaaGreatDoorLnNorm
namespace Go.Proofs.YtbjolmgobeagoaaGreatDoor
set_option linter.unusedVariables false
set_option linter.unusedSimpArgs false
set_option maxRecDepth 100000
open Go Go.RowKit Go.Shelf Go.Lib

def atP (M : List Pt) (k : Nat) : Pt := M[k]?.getD (0, false, .slice none 0 0, 0)
theorem atP_of {M : List Pt} {k : Nat} {m : Pt} (h : M[k]? = some m) : atP M k = m := by unfold atP; rw [h]; rfl
def varV (M : List Pt) (k : Nat) : Array Value := #[.int .i64 (atP M k).1, .agg #[.bool (atP M k).2.1, (atP M k).2.2.1]]
def VarsKnow (B : Nat) (v : Value) (M : List Pt) (W : World) : Prop := W.cell? ⟨B, 0, none⟩ = some v ∧ RowP W v M
theorem VarsKnow.cel {B : Nat} {v : Value} {M : List Pt} {W W' : World} (h : VarsKnow B v M W) (hc : Cel W W') : VarsKnow B v M W' := ⟨hc.cell h.1, hc.row h.2⟩

set_option maxHeartbeats 2000000 in
theorem vars_hands (B : Nat) (v : Value) (M : List Pt) (hsl : Sl M) (hl : M.length ≤ 1048576) :
    HandsB Tryz.prog 80 #[.pointer (some ⟨B, 0, none⟩)] M.length (varV M) (fun _ W => VarsKnow B v M W) := by
  intro l J Jx W hKn hSt hY h0
  obtain ⟨hc0, hr0⟩ := hKn 0 W h0
  obtain ⟨a, n, c, rfl⟩ := hr0.shape
  obtain rfl : n = M.length := by
    obtain ⟨_, _, e, _⟩ := hr0
    cases e
    rfl
  generalize hLn : M.length = Ln at *
  have HLN := hide hLn
  have HKn := hide hKn
  have HSt := hide hSt
  have HY := hide hY
  have HSL := hide hsl
  clear hr0 hKn hSt hY hLn hsl
  refine callsIn_of_wp Tryz.func80 rfl trivial ?_ rfl
  simp only [Tryz.ntmps80, List.size_toArray, List.length_cons, List.length_nil, Nat.reduceAdd, Nat.reduceSub, Array.replicate_succ, Array.replicate_zero, List.push_toArray, List.append_toArray, List.nil_append, List.cons_append]
  gi_wp2
  gi_loopw [7] (fun i wr => ∃ k : Nat, k ≤ Ln ∧ i = .int .i64 (k : Int) ∧ J k wr) (fun i _ => Ln - (RowKit.intOf i).toNat)
  case atStart => exact ⟨0, Nat.zero_le _, rfl, h0⟩
  case round =>
    obtain ⟨k, hk, rfl, hJ⟩ := hrel
    clear h0 hc0
    by_cases hlt : k < Ln
    · obtain ⟨⟨vr, neg, mv, z⟩, hm⟩ : ∃ m, M[k]? = some m := ⟨_, List.getElem?_eq_getElem (by rw [HLN.out]; exact hlt)⟩
      obtain ⟨ma, mL, mc, e⟩ := HSL.out _ (List.mem_of_getElem? hm)
      simp only at e
      subst e
      obtain ⟨_, hr⟩ := HKn.out k _ hJ
      obtain ⟨_, _, e, _, _, h3⟩ := hr
      simp only [Value.slice.injEq] at e
      obtain ⟨ea, eL, ec⟩ := e
      clear eL
      subst ea
      subst ec
      obtain ⟨b, o, rfl, hc⟩ := h3 k _ hm
      obtain ⟨c0, c1, c2⟩ := hc
      dsimp only at c0 c1 c2
      have hJ2 := HSt.out k _ _ hJ (bel wr (.cells #[.int .i64 vr, .bool neg, .slice ma mL mc] 89))
      have hy0 := HY.out k _ hlt hJ2
      have ev : varV M k = #[.int .i64 vr, .agg #[.bool neg, .slice ma mL mc]] := by
        unfold varV
        rw [atP_of hm]
      rw [ev] at hy0
      have d1 : (k : Int) < (Ln : Int) := by omega
      have d0 : (0 : Int) ≤ (k : Int) := by omega
      have lb : b < wr.heap.size := block_lt_of_cell c0
      clear ev hm h3 hJ2 hJ
      obtain ⟨fn, tmps, assign, body, hy, hR⟩ := hy0
      gi_wp2
      refine hR.mono ?_
      rintro e W3 (⟨rfl, hJ3⟩ | ⟨rfl, hJx3⟩)
      · clear hR hy
        gi_wp2
        go_roundw
        case rel => exact ⟨k + 1, by omega, by go_num, hJ3⟩
        case measure => simp [RowKit.intOf]; omega
      · clear hR hy
        gi_wp2
        refine bodyPost_ret (results_none rfl _ _ _) rfl ?_
        exact ⟨⟨_, rfl⟩, .inr ⟨k, hlt, hJx3⟩⟩
    · obtain rfl : k = Ln := by omega
      have dge : ¬ (k : Int) < (k : Int) := by omega
      gi_wp2
      go_end0
      exact ⟨⟨_, rfl⟩, .inl hJ⟩

/-- What Vars answers: an iterator over the parts of the one form. -/
def VarsE (w : World) (M : List Pt) (e : Ending) (w' : World) : Prop :=
  ∃ B M' a n c, e = .returned (.func (.func 80) #[] #[.pointer (some ⟨B, 0, none⟩)]) ∧ Uno w' B (.slice a n c) 25 ∧ w.heap.size ≤ B ∧ OwnP w.heap.size w' (.slice a n c) M' ∧ GoodR w' M' ∧ NF (ps M') ∧ (∀ u, cf u (ps M') = cf u (ps M)) ∧ Below w.heap.size w w'

set_option maxHeartbeats 2000000 in
theorem vars_calls {k : Nat} {w : World} {v : Value} {c : Int} {M : List Pt} (h : TermA k w v c M) (hk : k ≤ 500000) :
    Calls Tryz.prog 45 #[v] w fun e w' => VarsE w M e w' := by
  obtain ⟨cn, ca, cL, cc, pa, pl, pc, rfl⟩ := h.form
  have HT := hide h
  have hb0 := bel w (.cells #[.bool cn, .slice ca cL cc, .slice pa pl pc] 27)
  have hti := h.tidies hk _ hb0
  have HB0 := hide hb0
  clear hb0 h
  go_enter Tryz.func45, Tryz.ntmps45
  go_wp2_with fail
  refine hti.mono ?_
  rintro e w2 ⟨v2, M2, rfl, hr2, hg2, hn2, hc2, hb2⟩
  obtain ⟨sa, sL, sc, rfl⟩ := hr2.shape
  have hcl := clone_calls hr2 hg2.sl (by have := len_of hn2 hc2; have := HT.out.len; omega)
  have HB2 := hide (bafter HB0.out hb2 (Nat.le_refl _))
  have HR2 := hide hr2
  have HG2 := hide hg2
  have HN2 := hide hn2
  have HC2 := hide hc2
  clear hr2 hg2 hn2 hc2 hb2 hti
  go_wp2_with fail
  refine hcl.mono ?_
  rintro e w3 ⟨v3, rfl, ho3, hb3⟩
  obtain ⟨ta, tL, tc, rfl⟩ := ho3.row.shape
  have HO3 : Hid (OwnP w.heap.size w3 (.slice ta tL tc) M2) := ⟨⟨ho3.1.1, ho3.1.2.imp id (fun ⟨g, cap, cur, hv, h1, h2⟩ => ⟨g, cap, cur, hv, Nat.le_trans HB2.out.size h1, h2⟩)⟩, ho3.2⟩
  have HB3 := hide hb3
  clear ho3 hb3 hcl
  go_wp2
  go_ret
  have hbl := bel w3 (.cells #[.slice ta tL tc] 25)
  exact ⟨w3.heap.size, M2, _, _, _, rfl, World.alloc_heap_new w3 _, Nat.le_trans HB2.out.size HB3.out.size, HO3.out.below hbl, (HG2.out.below HB3.out).below hbl, HN2.out, HC2.out, bafter (bafter HB2.out HB3.out (Nat.le_refl _)) hbl (Nat.le_refl _)⟩

end Go.Proofs.YtbjolmgobeagoaaGreatDoor
