/- utf.Place: the position of a byte. -/
import Derived.Test.YthhpfdjcggfhaaaDoorUOff
import Derived.Test.YthhpfdjcggfhaaaDoorUOne
namespace Go.Proofs.YthhpfdjcggfhaaaDoor
set_option linter.unusedVariables false
set_option linter.unusedSimpArgs false
open Go Go.RowKit Go.Shelf Go.Lib

attribute [local go_sem] Oper.semAt_some

/-- The position of a byte. -/
def PlaceR (T : List Nat) (L : List Int) (at' : Int) (ln un : Int) : Prop :=
  (L = [] ∧ ln = 0 ∧ un = 0) ∨
  ∃ a i f en N k : Nat, L ≠ [] ∧ clamp at' (T.length : Int) = (a : Int) ∧ LineOf L (a : Int) i ∧ ln = (i : Int) ∧ clamp (nthI L i) (T.length : Int) = (f : Int) ∧ IsEnd T f en ∧
    (∀ j, j < N → posL (lineL T f en) j < (lineL T f en).length) ∧ posL (lineL T f en) N = (lineL T f en).length ∧ k ≤ N ∧ (∀ j, j < k → f + posL (lineL T f en) (j + 1) ≤ a) ∧ (k < N → a < f + posL (lineL T f en) (k + 1)) ∧ un = ((unitsL (lineL T f en) k : Nat) : Int)

theorem Box2.set1 {W : World} {B : Nat} {t : TypeId} {u v : Value} (x : Value) (h : Box2 W B t u v) : Box2 (W.setCell ⟨B, 1, none⟩ x) B t u x := by
  obtain ⟨hlt, hk⟩ := Array.getElem?_eq_some_iff.1 h
  show (W.heap.modify B _)[B]? = _
  rw [Array.getElem?_eq_getElem (by rw [Array.size_modify]; exact hlt), Array.getElem_modify_self, hk]
  rfl
theorem Box2.set0 {W : World} {B : Nat} {t : TypeId} {u v : Value} (x : Value) (h : Box2 W B t u v) : Box2 (W.setCell ⟨B, 0, none⟩ x) B t x v := by
  obtain ⟨hlt, hk⟩ := Array.getElem?_eq_some_iff.1 h
  show (W.heap.modify B _)[B]? = _
  rw [Array.getElem?_eq_getElem (by rw [Array.size_modify]; exact hlt), Array.getElem_modify_self, hk]
  rfl
theorem Box2.other1 {W : World} {B C : Nat} {t : TypeId} {u v : Value} (h : Box2 W B t u v) (hne : B ≠ C) (x : Value) : Box2 (W.setCell ⟨C, 1, none⟩ x) B t u v := (heap_setCell_other W ⟨C, 1, none⟩ B x hne).trans h
theorem boxed_other1 {W : World} {B C : Nat} {t : TypeId} {v : Value} (h : Boxed W B t v) (hne : B ≠ C) (x : Value) : Boxed (W.setCell ⟨C, 1, none⟩ x) B t v := (heap_setCell_other W ⟨C, 1, none⟩ B x hne).trans h

set_option maxRecDepth 100000 in
set_option maxHeartbeats 8000000 in
theorem place_calls (w : World) (ao : Option Addr) (cap : Nat) (T : List Nat) (v : Value) (L : List Int) (at' : Int) (h : Byt w ao cap T) (hL : IntsIn w v L) (hK : Know w) (hlen : T.length ≤ 1000000000) (hll : L.length ≤ 1000000001) :
    Calls Tryd.prog 40 #[.slice ao T.length cap, v, .int .i64 at'] w fun e w' => ∃ ln un : Int, e = .returned (.agg #[.int .i64 ln, .int .i64 un]) ∧ PlaceR T L at' ln un ∧ Below w.heap.size w w' := by
  obtain ⟨lo, lc, rfl, hc⟩ := id hL
  have HL := hide hL
  have HC := hide hc
  have H := hide h
  have HK := hide hK
  clear hL hc h hK
  refine (callsIn_wide (n := 3)).1 ?_
  refine callsIn_of_wp_marks Tryd.func40 rfl trivial ?_ rfl
  simp only [Tryd.ntmps40, List.size_toArray, List.length_cons, List.length_nil, Nat.reduceAdd, Nat.reduceSub, Array.replicate_succ, Array.replicate_zero, List.push_toArray, List.append_toArray, List.nil_append, List.cons_append]
  by_cases h0 : L.length = 0
  · have h0' : ((L.length : Int) == 0) = true := beq_iff_eq.2 (by omega)
    have H0 := hide h0
    clear h0
    gi_wp2
    refine ⟨.agg #[.int .i64 0, .int .i64 0], ?_, ⟨0, 0, rfl, .inl ⟨List.length_eq_zero_iff.1 H0.out, rfl, rfl⟩, ((Below.refl _ w).alloc (Nat.le_refl _) _).alloc (by simp) _⟩⟩
    simp [results, Tryd.f40, go_sem]
  · have h0' : ((L.length : Int) == 0) = false := beq_eq_false_iff_ne.2 (by omega)
    obtain ⟨a, hcl, ha⟩ := clamp_nat at' T.length
    have HW := hide (fun w => within_calls w ao T.length cap at')
    rw [hcl] at HW
    gi_wp2_with fail
    refine ⟨trivial, ?_⟩
    refine (callsIn_wide.2 (HW.out _)).mono ?_
    rintro e w1 ⟨rfl, hw⟩
    rw [hw]
    clear hw
    gi_wp2_with fail
    refine ⟨trivial, ?_⟩
    have hBa : Below w.heap.size w ((w.alloc (.cells #[.int .i64 (a : Int)] 3)).alloc (.cells #[.int .i64 0, .int .i64 0] 48)) := ((Below.refl _ w).alloc (Nat.le_refl _) _).alloc (by simp) _
    refine (callsIn_wide.2 (lineOf_calls _ _ L (a : Int) (HL.out.below hBa) (by omega))).mono ?_
    rintro e w2 ⟨i, rfl, hlo, hw⟩
    rw [hw]
    have hi : i < L.length := by have := hlo.1; omega
    have HLO := hide hlo
    clear hw hlo w2 hBa
    obtain ⟨b, off, rfl, c0⟩ := HC.out i hi
    have hb0 : b < w.heap.size := block_lt c0
    have hb1 : b < w.heap.size + 1 := by omega
    have hb2 : b < w.heap.size + 1 + 1 := by omega
    have di : (i : Int) < (L.length : Int) := by omega
    have di0 : (0 : Int) ≤ (i : Int) := by omega
    have hB3 : Below w.heap.size w (((w.alloc (.cells #[.int .i64 (a : Int)] 3)).alloc (.cells #[.int .i64 0, .int .i64 0] 48)).alloc (.cells #[.int .i64 (i : Int), .int .i64 0] 48)) := (((Below.refl _ w).alloc (Nat.le_refl _) _).alloc (by simp) _).alloc (by simp; omega) _
    have bA := ((Boxed.new w 3 (.int .i64 (a : Int))).alloc (.cells #[.int .i64 0, .int .i64 0] 48)).alloc (.cells #[.int .i64 (i : Int), .int .i64 0] 48)
    have bR := (Box2.new (w.alloc (.cells #[.int .i64 (a : Int)] 3)) 48 (.int .i64 0) (.int .i64 0)).alloc (.cells #[.int .i64 (i : Int), .int .i64 0] 48)
    have bP := Box2.new ((w.alloc (.cells #[.int .i64 (a : Int)] 3)).alloc (.cells #[.int .i64 0, .int .i64 0] 48)) 48 (.int .i64 (i : Int)) (.int .i64 0)
    simp only [World.size_alloc] at bR bP
    have HB3 := hide hB3
    have BA := hide bA
    have BR := hide bR
    have BP := hide bP
    have Hc := hide (lettersOf_calls _ ao cap T (nthI L i) (H.out.below hB3) (HK.out.below hB3) hlen)
    generalize hZ : nthI L i = z at *
    have HZ := hide hZ
    have HCA := hide hcl
    clear bA bP bR hB3 hZ hcl HW
    gi_wp2_with fail
    refine ⟨trivial, ?_⟩
    refine (callsIn_wide.2 Hc.out).mono ?_
    rintro e W1 ⟨f, en, bo, bc, rfl, hcl, hE, hBl, hbW⟩
    have hs1 : w.heap.size + 3 ≤ W1.heap.size := by have := hbW.size; simpa using this
    have bA := boxed_below BA.out hbW
    have bR := BR.out.below hbW
    have bP := BP.out.below hbW
    have hBW : Below w.heap.size w W1 := bafter HB3.out hbW (Nat.le_refl _)
    have HE := hide hE
    have HCL := hide hcl
    have HBl := hide hBl
    clear BP BR BA Hc hbW
    have hll2 : (lineL T f en).length = en - f := lineL_length hE.1 hE.2.1
    have hsm := lineL_small H.out.1.small f en
    clear hE hcl hBl
    generalize hLT : lineL T f en = LT at *
    rw [← hll2]
    obtain ⟨N, n1, n2⟩ := letters_count hsm
    have hN : N ≤ LT.length := by have := posL_ge hsm n1 N (Nat.le_refl _); omega
    have hLl : LT.length ≤ 1000000000 := by have := HE.out.2.1; omega
    have hfl : f + LT.length ≤ 1000000000 := by have h1 := HE.out.1; have h2 := HE.out.2.1; omega
    have HM := hide hll2
    have HLT := hide hLT
    clear hll2 hLT
    have hcapL : LT.length ≤ bc := (HBl.out W1 (H.out.below hBW)).2.1
    gi_wp2_with (refine ⟨trivial, ?_⟩; gi_at_call 43; refine (callsIn_wide.2 (letters_calls _ _ _ _)).mono ?_; rintro e w' ⟨rfl, rfl⟩)
    have b1 := Boxed.new W1 3 (.int .i64 (f : Int))
    have b3 := Boxed.new (W1.alloc (.cells #[.int .i64 (f : Int)] 3)) 36 (.slice bo LT.length bc)
    simp only [World.size_alloc] at b3
    have hB4 : Below w.heap.size w ((W1.alloc (.cells #[.int .i64 (f : Int)] 3)).alloc (.cells #[.slice bo LT.length bc] 36)) :=
      bafter hBW (((Below.refl _ W1).alloc (Nat.le_refl _) _).alloc (by simp) _) (Nat.le_refl _)
    refine range_knownB (gf := 54) (lb := #[.pointer (some ⟨W1.heap.size + 1, 0, none⟩)]) rfl (enters_of Tryd.func54 (by kernel_rfl) rfl)
      (letters_hands (W1.heap.size + 1) bo bc LT N n1 n2 (by omega) hcapL) (fun _ => rfl)
      (fun k W => ((Boxed W w.heap.size 3 (.int .i64 (a : Int)) ∧ Box2 W (w.heap.size + 1) 48 (.int .i64 0) (.int .i64 0) ∧ Boxed W W1.heap.size 3 (.int .i64 (f : Int)) ∧ Box2 W (w.heap.size + 1 + 1) 48 (.int .i64 (i : Int)) (.int .i64 ((unitsL LT k : Nat) : Int))) ∧ Boxed W (W1.heap.size + 1) 36 (.slice bo LT.length bc) ∧ (∀ j, j < k → f + posL LT (j + 1) ≤ a)) ∧ Below w.heap.size w W)
      (fun c k W => ((c = .exit 0 ∧ a < f + posL LT (k + 1) ∧ (∀ j, j < k → f + posL LT (j + 1) ≤ a)) ∧ Box2 W (w.heap.size + 1) 48 (.int .i64 0) (.int .i64 0) ∧ Box2 W (w.heap.size + 1 + 1) 48 (.int .i64 (i : Int)) (.int .i64 ((unitsL LT k : Nat) : Int))) ∧ Below w.heap.size w W)
      (OwnFrom.and (OwnFrom.and (OwnFrom.and (own_boxed _ _ _ _) (OwnFrom.and (own_box2 _ _ _ _ _) (OwnFrom.and (own_boxed _ _ _ _) (own_box2 _ _ _ _ _)))) (OwnFrom.and (own_boxed _ _ _ _) (ownFrom_pure _ _))) (ownFrom_below (Nat.le_refl _) (by simp; omega)))
      (fun c => OwnFrom.and (OwnFrom.and (ownFrom_pure _ _) (OwnFrom.and (own_box2 _ _ _ _ _) (own_box2 _ _ _ _ _))) (ownFrom_below (Nat.le_refl _) (by simp; omega)))
      ?know ?stable ⟨⟨⟨(bA.alloc _).alloc _, (bR.alloc _).alloc _, b1.alloc _, (bP.alloc _).alloc _⟩, b3, fun j hj => by omega⟩, hB4⟩
      (fun k => { tmps := #[.slice ao T.length cap, .slice (some ⟨b, off, none⟩) L.length lc, .int .i64 at', undef, undef, .pointer (some ⟨w.heap.size, 0, none⟩), .pointer (some ⟨w.heap.size + 1, 0, none⟩), .pointer (some ⟨w.heap.size + 1 + 1, 0, none⟩), .slice bo LT.length bc, .pointer (some ⟨W1.heap.size, 0, none⟩), .int .i64 ((posL LT k : Nat) : Int), .int .i32 (runeAt LT (posL LT k)), .slice (some ⟨b, off, none⟩) L.length lc, .int .i64 (L.length : Int), .bool false, undef, .slice ao T.length cap, .int .i64 at', .int .i64 (a : Int), .slice (some ⟨b, off, none⟩) L.length lc, .int .i64 (a : Int), .int .i64 (i : Int), .agg #[.int .i64 (i : Int), .int .i64 0], .tuple #[.slice bo LT.length bc, .int .i64 (f : Int)], .slice ao T.length cap, .slice (some ⟨b, off, none⟩) L.length lc, .pointer (some ⟨w.heap.size + 1 + 1, 0, none⟩), .int .i64 (i : Int), .pointer (some ⟨b, off + i, none⟩), .int .i64 z, .tuple #[.slice bo LT.length bc, .int .i64 (f : Int)], .slice bo LT.length bc, .int .i64 (f : Int), .slice bo LT.length bc, .func (.func 54) #[] #[.pointer (some ⟨W1.heap.size + 1, 0, none⟩)], .int .i64 ((posL LT k : Nat) : Int), .int .i32 (runeAt LT (posL LT k)), undef, undef, undef, undef, undef, undef, undef, undef, undef, undef, undef, undef, undef, undef, undef], defers := [] }) ?assign ?body ?done ?stop
    case know =>
      rintro k W ⟨⟨_, hb, _⟩, hB⟩
      exact ⟨hb.cell, (HBl.out W (H.out.below hB)).1, Utf8Tabs_below HK.out.tabs hB⟩
    case stable =>
      rintro k W W' ⟨⟨⟨g1, g2, g3, g4⟩, g5, g6⟩, hB⟩ hb
      exact ⟨⟨⟨boxed_below g1 hb, g2.below hb, boxed_below g3 hb, g4.below hb⟩, boxed_below g5 hb, g6⟩, bafter hB hb (Nat.le_refl _)⟩
    case assign =>
      intro l k W K hk hK
      gi_wp2
      exact hK
    case body =>
      rintro l k W hk ⟨⟨⟨g1, g2, g3, g4⟩, g5, g6⟩, hB⟩
      have G6 := hide g6
      have HBB := hide hB
      have ca := g1.cell
      have cf := g3.cell
      have c4 := g4.cell1
      have f4 := g4.frozen1
      have hle := unitsL_le LT k
      have hpk := n1 k hk
      have hlr := len_size hsm hpk
      have hps : posL LT (k + 1) = posL LT k + sizeAt LT (posL LT k) := rfl
      obtain ⟨s1, s2, s3⟩ := size_bounds hsm hpk
      have hun : unitOf (runeAt LT (posL LT k)) ≤ 2 := by unfold unitOf; split <;> omega
      have HU : Hid (unitsL LT (k + 1) = unitsL LT k + unitOf (runeAt LT (posL LT k))) := rfl
      generalize hrr : runeAt LT (posL LT k) = r at *
      generalize hsz : sizeAt LT (posL LT k) = sz at *
      generalize hpp : posL LT k = pk at *
      generalize hu : unitOf r = uu at *
      obtain ⟨U, hU⟩ : ∃ U, unitsL LT k + uu = U := ⟨_, rfl⟩
      have hUU : ((unitsL LT k : Nat) : Int) + (uu : Int) = (U : Int) := by omega
      have hUb : U ≤ 2000000002 := by omega
      have hwU : IntKind.i64.wrap (U : Int) = (U : Int) := by rw [IntKind.wrap_i64]; omega
      have HEQ : Hid (unitsL LT (k + 1) = U) := by show _ = _; rw [HU.out, hU]
      obtain ⟨fp, hfp⟩ : ∃ fp, f + pk = fp := ⟨_, rfl⟩
      have hfp' : (f : Int) + (pk : Int) = (fp : Int) := by omega
      have hfpb : fp ≤ 1000000000 := by omega
      obtain ⟨fq, hfq⟩ : ∃ fq, fp + sz = fq := ⟨_, rfl⟩
      have hfq' : (fp : Int) + (sz : Int) = (fq : Int) := by omega
      have hfqb : fq ≤ 1000000000 := by omega
      have hwp : IntKind.i64.wrap (fp : Int) = (fp : Int) := by rw [IntKind.wrap_i64]; omega
      have hwq : IntKind.i64.wrap (fq : Int) = (fq : Int) := by rw [IntKind.wrap_i64]; omega
      have HFQ : Hid (f + posL LT (k + 1) = fq) := by show _ = _; rw [hps]; omega
      have GG := hide (show (Boxed W w.heap.size 3 (.int .i64 (a : Int)) ∧ Box2 W (w.heap.size + 1) 48 (.int .i64 0) (.int .i64 0) ∧ Boxed W W1.heap.size 3 (.int .i64 (f : Int)) ∧ Box2 W (w.heap.size + 1 + 1) 48 (.int .i64 (i : Int)) (.int .i64 ((unitsL LT k : Nat) : Int))) ∧ Boxed W (W1.heap.size + 1) 36 (.slice bo LT.length bc) from ⟨⟨g1, g2, g3, g4⟩, g5⟩)
      have HS1 := hide hs1
      clear hU HU hle hun hfp hfq hpp hrr hsz hps s1 s2 s3 g1 g2 g3 g4 g5 g6 hB hs1 n1 n2 hN
      by_cases hgt : (fq : Int) > (a : Int)
      · have HG := hide (show a < fq by omega)
        gi_wp2
        refine round_any 1 l (by kernel_rfl) (no_defer (by simp)) (by rintro ⟨_, _, h⟩; exact h) (wpAny_of_held (S := fun X => X.cell? ⟨W1.heap.size, 0, none⟩ = some (.int .i64 (f : Int)) ∧ X.cell? ⟨w.heap.size, 0, none⟩ = some (.int .i64 (a : Int))) _ _ _ _ ?_)
        have hSS : (fun X : World => X.cell? ⟨W1.heap.size, 0, none⟩ = some (.int .i64 (f : Int)) ∧ X.cell? ⟨w.heap.size, 0, none⟩ = some (.int .i64 (a : Int))) W.drew := ⟨cf, ca⟩
        refine takeD (i := 0) (v := ?v1) (some 37) rfl (by kernel_rfl) (by kernel_rfl) (by kernel_rfl) (fun _ _ _ h => h) (Or.inl ⟨by rfl, ?hy1⟩) (by assumption) (by rfl) ?rest1
        case hy1 => first | (intro w hSw; (try dsimp only at hSw); go_simp; done) | (intro w hSw; (try dsimp only at hSw); go_simp; with_reducible rfl)
        try simp only [Act.put, List.setIfInBounds_toArray, List.set_cons_zero, List.set_cons_succ]
        refine takeD (i := 1) (v := ?v2) (some 38) rfl (by kernel_rfl) (by kernel_rfl) (by kernel_rfl) (fun _ _ _ h => h) (Or.inl ⟨by rfl, ?hy2⟩) (by assumption) (by rfl) ?rest2
        case hy2 => first | (intro w hSw; (try dsimp only at hSw); go_simp; done) | (intro w hSw; (try dsimp only at hSw); go_simp; with_reducible rfl)
        try simp only [Act.put, List.setIfInBounds_toArray, List.set_cons_zero, List.set_cons_succ]
        refine takeD (i := 2) (v := ?v3) (some 39) rfl (by kernel_rfl) (by kernel_rfl) (by kernel_rfl) (fun _ _ _ h => h) (Or.inl ⟨by rfl, ?hy3⟩) (by assumption) (by rfl) ?rest3
        case hy3 => first | (intro w hSw; (try dsimp only at hSw); go_simp; done) | (intro w hSw; (try dsimp only at hSw); go_simp; with_reducible rfl)
        try simp only [Act.put, List.setIfInBounds_toArray, List.set_cons_zero, List.set_cons_succ]
        refine takeD (i := 3) (v := ?v4) (some 40) rfl (by kernel_rfl) (by kernel_rfl) (by kernel_rfl) (fun _ _ _ h => h) (Or.inl ⟨by rfl, ?hy4⟩) (by assumption) (by rfl) ?rest4
        case hy4 => first | (intro w hSw; (try dsimp only at hSw); go_simp; done) | (intro w hSw; (try dsimp only at hSw); go_simp; with_reducible rfl)
        try simp only [Act.put, List.setIfInBounds_toArray, List.set_cons_zero, List.set_cons_succ]
        refine takeD (i := 6) (v := ?v5) (some 43) rfl (by kernel_rfl) (by kernel_rfl) (by kernel_rfl) (fun _ _ _ h => h) (Or.inl ⟨by rfl, ?hy5⟩) (by assumption) (by rfl) ?rest5
        case hy5 => first | (intro w hSw; (try dsimp only at hSw); go_simp; done) | (intro w hSw; (try dsimp only at hSw); go_simp; with_reducible rfl)
        try simp only [Act.put, List.setIfInBounds_toArray, List.set_cons_zero, List.set_cons_succ]
        refine wpAnyH_ready (rs := [4]) (by kernel_rfl) (by simp) ?_
        refine AllReadyH.cons rfl (fun K hK => ?_) AllReadyH.nil
        go_simp
        refine (length_calls _ _).mono ?_
        rintro e w1 ⟨rfl, hw⟩
        rw [hw, hlr]
        clear hw
        go_wp2_with fail
        refine hK.out _ _ hSS (fun _ => ?_)
        clear hK K
        try simp only [Act.put, List.setIfInBounds_toArray, List.set_cons_zero, List.set_cons_succ]
        refine takeD (i := 5) (v := ?v6) (some 42) rfl (by kernel_rfl) (by kernel_rfl) (by kernel_rfl) (fun _ _ _ h => h) (Or.inl ⟨by rfl, ?hy6⟩) (by assumption) (by rfl) ?rest6
        case hy6 => first | (intro w hSw; (try dsimp only at hSw); go_simp; done) | (intro w hSw; (try dsimp only at hSw); go_simp; with_reducible rfl)
        try simp only [Act.put, List.setIfInBounds_toArray, List.set_cons_zero, List.set_cons_succ]
        refine takeD (i := 7) (v := ?v7) (some 44) rfl (by kernel_rfl) (by kernel_rfl) (by kernel_rfl) (fun _ _ _ h => h) (Or.inl ⟨by rfl, ?hy7⟩) (by assumption) (by rfl) ?rest7
        case hy7 => first | (intro w hSw; (try dsimp only at hSw); go_simp; done) | (intro w hSw; (try dsimp only at hSw); go_simp; with_reducible rfl)
        try simp only [Act.put, List.setIfInBounds_toArray, List.set_cons_zero, List.set_cons_succ]
        refine wpAnyH_done (by kernel_rfl) ?_ _
        simp only [Exit.then]
        gi_wp2
        obtain ⟨⟨g1, g2, g3, g4⟩, g5⟩ := GG.out
        refine ⟨(KeepsOthers.drew _).from _, ⟨⟨rfl, by rw [HFQ.out]; exact HG.out, G6.out⟩, g2, g4⟩, HBB.out.drew⟩
      · have HG := hide (show fq ≤ a by omega)
        gi_wp2
        refine round_any 1 l (by kernel_rfl) (no_defer (by simp)) (by rintro ⟨_, _, h⟩; exact h) (wpAny_of_held (S := fun X => X.cell? ⟨W1.heap.size, 0, none⟩ = some (.int .i64 (f : Int)) ∧ X.cell? ⟨w.heap.size, 0, none⟩ = some (.int .i64 (a : Int))) _ _ _ _ ?_)
        have hSS : (fun X : World => X.cell? ⟨W1.heap.size, 0, none⟩ = some (.int .i64 (f : Int)) ∧ X.cell? ⟨w.heap.size, 0, none⟩ = some (.int .i64 (a : Int))) W.drew := ⟨cf, ca⟩
        refine takeD (i := 0) (v := ?v8) (some 37) rfl (by kernel_rfl) (by kernel_rfl) (by kernel_rfl) (fun _ _ _ h => h) (Or.inl ⟨by rfl, ?hy8⟩) (by assumption) (by rfl) ?rest8
        case hy8 => first | (intro w hSw; (try dsimp only at hSw); go_simp; done) | (intro w hSw; (try dsimp only at hSw); go_simp; with_reducible rfl)
        try simp only [Act.put, List.setIfInBounds_toArray, List.set_cons_zero, List.set_cons_succ]
        refine takeD (i := 1) (v := ?v9) (some 38) rfl (by kernel_rfl) (by kernel_rfl) (by kernel_rfl) (fun _ _ _ h => h) (Or.inl ⟨by rfl, ?hy9⟩) (by assumption) (by rfl) ?rest9
        case hy9 => first | (intro w hSw; (try dsimp only at hSw); go_simp; done) | (intro w hSw; (try dsimp only at hSw); go_simp; with_reducible rfl)
        try simp only [Act.put, List.setIfInBounds_toArray, List.set_cons_zero, List.set_cons_succ]
        refine takeD (i := 2) (v := ?v10) (some 39) rfl (by kernel_rfl) (by kernel_rfl) (by kernel_rfl) (fun _ _ _ h => h) (Or.inl ⟨by rfl, ?hy10⟩) (by assumption) (by rfl) ?rest10
        case hy10 => first | (intro w hSw; (try dsimp only at hSw); go_simp; done) | (intro w hSw; (try dsimp only at hSw); go_simp; with_reducible rfl)
        try simp only [Act.put, List.setIfInBounds_toArray, List.set_cons_zero, List.set_cons_succ]
        refine takeD (i := 3) (v := ?v11) (some 40) rfl (by kernel_rfl) (by kernel_rfl) (by kernel_rfl) (fun _ _ _ h => h) (Or.inl ⟨by rfl, ?hy11⟩) (by assumption) (by rfl) ?rest11
        case hy11 => first | (intro w hSw; (try dsimp only at hSw); go_simp; done) | (intro w hSw; (try dsimp only at hSw); go_simp; with_reducible rfl)
        try simp only [Act.put, List.setIfInBounds_toArray, List.set_cons_zero, List.set_cons_succ]
        refine takeD (i := 6) (v := ?v12) (some 43) rfl (by kernel_rfl) (by kernel_rfl) (by kernel_rfl) (fun _ _ _ h => h) (Or.inl ⟨by rfl, ?hy12⟩) (by assumption) (by rfl) ?rest12
        case hy12 => first | (intro w hSw; (try dsimp only at hSw); go_simp; done) | (intro w hSw; (try dsimp only at hSw); go_simp; with_reducible rfl)
        try simp only [Act.put, List.setIfInBounds_toArray, List.set_cons_zero, List.set_cons_succ]
        refine wpAnyH_ready (rs := [4]) (by kernel_rfl) (by simp) ?_
        refine AllReadyH.cons rfl (fun K hK => ?_) AllReadyH.nil
        go_simp
        refine (length_calls _ _).mono ?_
        rintro e w1 ⟨rfl, hw⟩
        rw [hw, hlr]
        clear hw
        go_wp2_with fail
        refine hK.out _ _ hSS (fun _ => ?_)
        clear hK K
        try simp only [Act.put, List.setIfInBounds_toArray, List.set_cons_zero, List.set_cons_succ]
        refine takeD (i := 5) (v := ?v13) (some 42) rfl (by kernel_rfl) (by kernel_rfl) (by kernel_rfl) (fun _ _ _ h => h) (Or.inl ⟨by rfl, ?hy13⟩) (by assumption) (by rfl) ?rest13
        case hy13 => first | (intro w hSw; (try dsimp only at hSw); go_simp; done) | (intro w hSw; (try dsimp only at hSw); go_simp; with_reducible rfl)
        try simp only [Act.put, List.setIfInBounds_toArray, List.set_cons_zero, List.set_cons_succ]
        refine takeD (i := 7) (v := ?v14) (some 44) rfl (by kernel_rfl) (by kernel_rfl) (by kernel_rfl) (fun _ _ _ h => h) (Or.inl ⟨by rfl, ?hy14⟩) (by assumption) (by rfl) ?rest14
        case hy14 => first | (intro w hSw; (try dsimp only at hSw); go_simp; done) | (intro w hSw; (try dsimp only at hSw); go_simp; with_reducible rfl)
        try simp only [Act.put, List.setIfInBounds_toArray, List.set_cons_zero, List.set_cons_succ]
        refine wpAnyH_done (by kernel_rfl) ?_ _
        simp only [Exit.then]
        gi_wp2
        refine round_any 1 l (by kernel_rfl) (no_defer (by simp)) (by rintro ⟨_, _, h⟩; exact h) ?_
        refine takeA (i := 0) (v := ?v15) (some 45) rfl (by kernel_rfl) (by kernel_rfl) (by kernel_rfl) (fun _ _ _ h => h) (Or.inl ⟨by rfl, ?hy15⟩) (by rfl) ?rest15
        case hy15 => first | (intro w; go_simp; done) | (intro w; go_simp; with_reducible rfl)
        try simp only [Act.put, List.setIfInBounds_toArray, List.set_cons_zero, List.set_cons_succ]
        refine takeA (i := 2) (v := ?v16) (some 47) rfl (by kernel_rfl) (by kernel_rfl) (by kernel_rfl) (fun _ _ _ h => h) (Or.inl ⟨by rfl, ?hy16⟩) (by rfl) ?rest16
        case hy16 => first | (intro w; go_simp; done) | (intro w; go_simp; with_reducible rfl)
        try simp only [Act.put, List.setIfInBounds_toArray, List.set_cons_zero, List.set_cons_succ]
        refine wpAny_ready (rs := [1, 3]) (by kernel_rfl) (by simp) ?_
        refine AllReady.cons rfl (fun K hK => ?_) (AllReady.cons rfl (fun K hK => ?_) AllReady.nil)
        · go_simp
          refine hK _ _ ?_
          clear hK K
          try simp only [Act.put, List.setIfInBounds_toArray, List.set_cons_zero, List.set_cons_succ]
          refine wpAny_ready (rs := [3]) (by kernel_rfl) (by simp) ?_
          refine AllReady.cons rfl (fun K hK => ?_) AllReady.nil
          go_simp
          refine (width_calls _ _).mono ?_
          rintro e w1 ⟨rfl, hw⟩
          rw [hw, hu]
          clear hw
          go_wp2_with fail
          try simp only [Act.put, List.setIfInBounds_toArray, List.set_cons_zero, List.set_cons_succ]
          refine takeA (i := 4) (v := ?v17) (some 49) rfl (by kernel_rfl) (by kernel_rfl) (by kernel_rfl) (fun _ _ _ h => h) (Or.inl ⟨by rfl, ?hy17⟩) (by rfl) ?rest17
          case hy17 => first | (intro w; go_simp; done) | (intro w; go_simp; with_reducible rfl)
          try simp only [Act.put, List.setIfInBounds_toArray, List.set_cons_zero, List.set_cons_succ]
          refine takeA (i := 5) (v := ?v18) (some 50) rfl (by kernel_rfl) (by kernel_rfl) (by kernel_rfl) (fun _ _ _ h => h) (Or.inl ⟨by rfl, ?hy18⟩) (by rfl) ?rest18
          case hy18 => first | (intro w; go_simp; done) | (intro w; go_simp; with_reducible rfl)
          try simp only [Act.put, List.setIfInBounds_toArray, List.set_cons_zero, List.set_cons_succ]
          refine wpAny_ready (rs := [6]) (by kernel_rfl) (by simp) ?_
          refine AllReady.cons rfl (fun K hK => ?_) AllReady.nil
          go_simp
          refine hK _ _ ?_
          clear hK K
          try simp only [Act.put, List.setIfInBounds_toArray, List.set_cons_zero, List.set_cons_succ]
          refine wpAny_done (by kernel_rfl) ?_ _
          gi_wp2
          obtain ⟨⟨g1, g2, g3, g4⟩, g5⟩ := GG.out
          have hs := HS1.out
          refine ⟨((KeepsOthers.setCell _ _ _).trans ((KeepsOthers.drew _).trans (KeepsOthers.drew _))).from _, ⟨⟨boxed_other1 g1 (by omega) _, g2.other1 (by omega) _, boxed_other1 g3 (by omega) _, ?_⟩, boxed_other1 g5 (by omega) _, fun j hj => ?_⟩, ((HBB.out.setCell (p := ⟨w.heap.size + 1 + 1, 1, none⟩) (by simp; omega) _).drew).drew⟩
          · rw [HEQ.out]
            exact g4.set1 _
          · rcases Nat.lt_succ_iff_lt_or_eq.1 hj with e | e
            · exact G6.out j e
            · rw [e, HFQ.out]; exact HG.out
        · go_simp
          refine (width_calls _ _).mono ?_
          rintro e w1 ⟨rfl, hw⟩
          rw [hw, hu]
          clear hw
          go_wp2_with fail
          try simp only [Act.put, List.setIfInBounds_toArray, List.set_cons_zero, List.set_cons_succ]
          refine wpAny_ready (rs := [1]) (by kernel_rfl) (by simp) ?_
          refine AllReady.cons rfl (fun K hK => ?_) AllReady.nil
          go_simp
          refine hK _ _ ?_
          clear hK K
          try simp only [Act.put, List.setIfInBounds_toArray, List.set_cons_zero, List.set_cons_succ]
          refine takeA (i := 4) (v := ?v19) (some 49) rfl (by kernel_rfl) (by kernel_rfl) (by kernel_rfl) (fun _ _ _ h => h) (Or.inl ⟨by rfl, ?hy19⟩) (by rfl) ?rest19
          case hy19 => first | (intro w; go_simp; done) | (intro w; go_simp; with_reducible rfl)
          try simp only [Act.put, List.setIfInBounds_toArray, List.set_cons_zero, List.set_cons_succ]
          refine takeA (i := 5) (v := ?v20) (some 50) rfl (by kernel_rfl) (by kernel_rfl) (by kernel_rfl) (fun _ _ _ h => h) (Or.inl ⟨by rfl, ?hy20⟩) (by rfl) ?rest20
          case hy20 => first | (intro w; go_simp; done) | (intro w; go_simp; with_reducible rfl)
          try simp only [Act.put, List.setIfInBounds_toArray, List.set_cons_zero, List.set_cons_succ]
          refine wpAny_ready (rs := [6]) (by kernel_rfl) (by simp) ?_
          refine AllReady.cons rfl (fun K hK => ?_) AllReady.nil
          go_simp
          refine hK _ _ ?_
          clear hK K
          try simp only [Act.put, List.setIfInBounds_toArray, List.set_cons_zero, List.set_cons_succ]
          refine wpAny_done (by kernel_rfl) ?_ _
          gi_wp2
          obtain ⟨⟨g1, g2, g3, g4⟩, g5⟩ := GG.out
          have hs := HS1.out
          refine ⟨((KeepsOthers.setCell _ _ _).trans ((KeepsOthers.drew _).trans (KeepsOthers.drew _))).from _, ⟨⟨boxed_other1 g1 (by omega) _, g2.other1 (by omega) _, boxed_other1 g3 (by omega) _, ?_⟩, boxed_other1 g5 (by omega) _, fun j hj => ?_⟩, ((HBB.out.setCell (p := ⟨w.heap.size + 1 + 1, 1, none⟩) (by simp; omega) _).drew).drew⟩
          · rw [HEQ.out]
            exact g4.set1 _
          · rcases Nat.lt_succ_iff_lt_or_eq.1 hj with e | e
            · exact G6.out j e
            · rw [e, HFQ.out]; exact HG.out
    case done =>
      rintro D W hD ⟨⟨⟨g1, g2, g3, g4⟩, g5, g6⟩, hB⟩ hK
      have G6 := hide g6
      have c40 := g4.cell0
      have c41 := g4.cell1
      have c20 := g2.cell0
      have c21 := g2.cell1
      have f20 := g2.frozen0
      have f21 := g2.frozen1
      have HBB := hide hB
      clear g6 hB
      gi_wp2
      have d1 := (g2.set0 (.int .i64 (i : Int))).set1 (.int .i64 ((unitsL LT N : Nat) : Int))
      have hK' := ((KeepsOthers.setCell W ⟨w.heap.size + 1, 0, none⟩ (.int .i64 (i : Int))).trans (KeepsOthers.setCell _ ⟨w.heap.size + 1, 1, none⟩ (.int .i64 ((unitsL LT N : Nat) : Int)))).same D _ hK rfl
      refine ⟨by simp, .inl ⟨_, _, rfl, run_takeDeferred hK', ?_⟩⟩
      have e0 := cell_kept d1.cell0 (grownBy_putObj' _ D (.deferred none)) (fun r e => by cases e; exact ⟨_, hK', rfl⟩)
      have e1 := cell_kept d1.cell1 (grownBy_putObj' _ D (.deferred none)) (fun r e => by cases e; exact ⟨_, hK', rfl⟩)
      refine ⟨.agg #[.int .i64 (i : Int), .int .i64 ((unitsL LT N : Nat) : Int)], ?_, ⟨_, _, rfl, .inr ⟨a, i, f, en, N, N, fun e => h0 (by rw [e]; rfl), HCA.out, HLO.out, rfl, by rw [HZ.out]; exact HCL.out, HE.out, by rw [HLT.out]; exact n1, by rw [HLT.out]; exact n2, Nat.le_refl _, by rw [HLT.out]; exact G6.out, fun g => by omega, by rw [HLT.out]⟩, ((HBB.out.setCell (p := ⟨w.heap.size + 1, 0, none⟩) (by simp) _).setCell (p := ⟨w.heap.size + 1, 1, none⟩) (by simp) _).trans (belowK_b (w := w) (Nat.le_refl _) _ D _ _ (by simp at hD; omega) hK' rfl rfl)⟩⟩
      simp [results, Tryd.f40, go_sem, e0, e1]
    case stop =>
      rintro D c k W hD hk ⟨⟨⟨rfl, g5, g6⟩, g2, g4⟩, hB⟩ hK
      have G6 := hide g6
      have c40 := g4.cell0
      have c41 := g4.cell1
      have c20 := g2.cell0
      have c21 := g2.cell1
      have f20 := g2.frozen0
      have f21 := g2.frozen1
      have HBB := hide hB
      clear g6 hB
      gi_wp2
      have d1 := (g2.set0 (.int .i64 (i : Int))).set1 (.int .i64 ((unitsL LT k : Nat) : Int))
      have hK' := ((KeepsOthers.setCell W ⟨w.heap.size + 1, 0, none⟩ (.int .i64 (i : Int))).trans (KeepsOthers.setCell _ ⟨w.heap.size + 1, 1, none⟩ (.int .i64 ((unitsL LT k : Nat) : Int)))).same D _ hK rfl
      refine ⟨by simp, .inl ⟨_, _, rfl, run_takeDeferred hK', ?_⟩⟩
      have e0 := cell_kept d1.cell0 (grownBy_putObj' _ D (.deferred none)) (fun r e => by cases e; exact ⟨_, hK', rfl⟩)
      have e1 := cell_kept d1.cell1 (grownBy_putObj' _ D (.deferred none)) (fun r e => by cases e; exact ⟨_, hK', rfl⟩)
      refine ⟨.agg #[.int .i64 (i : Int), .int .i64 ((unitsL LT k : Nat) : Int)], ?_, ⟨_, _, rfl, .inr ⟨a, i, f, en, N, k, fun e => h0 (by rw [e]; rfl), HCA.out, HLO.out, rfl, by rw [HZ.out]; exact HCL.out, HE.out, by rw [HLT.out]; exact n1, by rw [HLT.out]; exact n2, by omega, by rw [HLT.out]; exact G6.out, fun _ => by rw [HLT.out]; exact g5, by rw [HLT.out]⟩, ((HBB.out.setCell (p := ⟨w.heap.size + 1, 0, none⟩) (by simp) _).setCell (p := ⟨w.heap.size + 1, 1, none⟩) (by simp) _).trans (belowK_b (w := w) (Nat.le_refl _) _ D _ _ (by simp at hD; omega) hK' rfl rfl)⟩⟩
      simp [results, Tryd.f40, go_sem, e0, e1]

end Go.Proofs.YthhpfdjcggfhaaaDoor
