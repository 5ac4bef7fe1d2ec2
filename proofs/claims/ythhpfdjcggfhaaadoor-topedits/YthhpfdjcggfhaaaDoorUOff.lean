/- utf.Offset: the byte of a position. -/
import Derived.Test.YthhpfdjcggfhaaaDoorUOf
namespace Go.Proofs.YthhpfdjcggfhaaaDoor
set_option linter.unusedVariables false
set_option linter.unusedSimpArgs false
open Go Go.RowKit Go.Shelf Go.Lib

attribute [local go_sem] Oper.semAt_some

/-- A box of two cells. -/
def Box2 (W : World) (B : Nat) (t : TypeId) (u v : Value) : Prop := W.heap[B]? = some (.cells #[u, v] t (0, 0))
theorem Box2.new (W : World) (t : TypeId) (u v : Value) : Box2 (W.alloc (.cells #[u, v] t)) W.heap.size t u v := World.alloc_heap_new W _
theorem Box2.lt {W : World} {B : Nat} {t : TypeId} {u v : Value} (h : Box2 W B t u v) : B < W.heap.size := (Array.getElem?_eq_some_iff.1 h).1
theorem Box2.kept {W W' : World} {row : Option Nat} {B : Nat} {t : TypeId} {u v : Value} (h : Box2 W B t u v) (hg : W.grownBy W' row) (hne : some B ≠ row) : Box2 W' B t u v := (hg.block B h.lt hne).trans h
theorem Box2.alloc {W : World} {B : Nat} {t : TypeId} {u v : Value} (h : Box2 W B t u v) (o : Obj) : Box2 (W.alloc o) B t u v := h.kept (World.grownBy_alloc W o none) (by simp)
theorem Box2.below {W W' : World} {B : Nat} {t : TypeId} {u v : Value} (h : Box2 W B t u v) (hb : Below W.heap.size W W') : Box2 W' B t u v := (hb.block B h.lt).trans h
theorem Box2.cell0 {W : World} {B : Nat} {t : TypeId} {u v : Value} (h : Box2 W B t u v) : W.cell? ⟨B, 0, none⟩ = some u := by simp [World.cell?, show W.heap[B]? = _ from h]
theorem Box2.cell1 {W : World} {B : Nat} {t : TypeId} {u v : Value} (h : Box2 W B t u v) : W.cell? ⟨B, 1, none⟩ = some v := by simp [World.cell?, show W.heap[B]? = _ from h]
theorem Box2.frozen0 {W : World} {B : Nat} {t : TypeId} {u v : Value} (h : Box2 W B t u v) : W.frozen? ⟨B, 0, none⟩ = false := by simp [World.frozen?, show W.heap[B]? = _ from h]
theorem Box2.frozen1 {W : World} {B : Nat} {t : TypeId} {u v : Value} (h : Box2 W B t u v) : W.frozen? ⟨B, 1, none⟩ = false := by simp [World.frozen?, show W.heap[B]? = _ from h]
theorem Box2.other {W : World} {B C : Nat} {t : TypeId} {u v : Value} (h : Box2 W B t u v) (hne : B ≠ C) (x : Value) : Box2 (W.setCell ⟨C, 0, none⟩ x) B t u v := (heap_setCell_other W ⟨C, 0, none⟩ B x hne).trans h
theorem box2_own (B : Nat) (t : TypeId) (f g : Nat → Value) : Own (fun (k : Nat) W => Box2 W B t (f k) (g k)) := fun s X Y row (hs : Box2 X B t (f s) (g s)) hg hrow =>
  hs.kept hg (fun e' => by obtain ⟨o, ho, hc⟩ := hrow B e'.symm; rw [show X.heap[B]? = _ from hs] at ho; cases ho; cases hc)
theorem own_box2 (B : Nat) (t : TypeId) (f g : Nat → Value) (C : Nat) : OwnFrom C (fun (k : Nat) W => Box2 W B t (f k) (g k)) := Own.from (box2_own B t f g) C

/-- The byte of a position of a line with these letters. -/
def InLine (LT : List Nat) (N : Nat) (f : Nat) (u : Int) (r : Int) : Prop :=
  (∃ k, k < N ∧ u < ((unitsL LT (k + 1) : Nat) : Int) ∧ (∀ j, j < k → ((unitsL LT (j + 1) : Nat) : Int) ≤ u) ∧ r = (f : Int) + ((posL LT k : Nat) : Int)) ∨ ((∀ j, j < N → ((unitsL LT (j + 1) : Nat) : Int) ≤ u) ∧ r = (f : Int) + (LT.length : Int))

/-- The byte of a position. -/
def OffR (T : List Nat) (L : List Int) (ln u r : Int) : Prop :=
  (ln < 0 ∧ r = 0) ∨ (0 ≤ ln ∧ (L.length : Int) ≤ ln ∧ r = (T.length : Int)) ∨
  ∃ i f en N : Nat, ln = (i : Int) ∧ i < L.length ∧ clamp (nthI L i) (T.length : Int) = (f : Int) ∧ IsEnd T f en ∧ (∀ k, k < N → posL (lineL T f en) k < (lineL T f en).length) ∧ posL (lineL T f en) N = (lineL T f en).length ∧ InLine (lineL T f en) N f u r

set_option maxRecDepth 100000 in
set_option maxHeartbeats 4000000 in
theorem offset_calls (w : World) (ao : Option Addr) (cap : Nat) (T : List Nat) (v : Value) (L : List Int) (ln u : Int) (h : Byt w ao cap T) (hL : IntsIn w v L) (hK : Know w) (hlen : T.length ≤ 1000000000) :
    Calls Tryd.prog 47 #[.slice ao T.length cap, v, .agg #[.int .i64 ln, .int .i64 u]] w fun e w' => ∃ r : Int, e = .returned (.int .i64 r) ∧ OffR T L ln u r ∧ Below w.heap.size w w' := by
  obtain ⟨lo, lc, rfl, hc⟩ := id hL
  have HL := hide hL
  have HC := hide hc
  have H := hide h
  have HK := hide hK
  clear hL hc h hK
  refine (callsIn_wide (n := 3)).1 ?_
  refine callsIn_of_wp_marks Tryd.func47 rfl trivial ?_ rfl
  simp only [Tryd.ntmps47, List.size_toArray, List.length_cons, List.length_nil, Nat.reduceAdd, Nat.reduceSub, Array.replicate_succ, Array.replicate_zero, List.push_toArray, List.append_toArray, List.nil_append, List.cons_append]
  have bP := Box2.new w 48 (.int .i64 ln) (.int .i64 u)
  have bR := Boxed.new (w.alloc (.cells #[.int .i64 ln, .int .i64 u] 48)) 3 (.int .i64 0)
  have hB2 : Below w.heap.size w ((w.alloc (.cells #[.int .i64 ln, .int .i64 u] 48)).alloc (.cells #[.int .i64 0] 3)) := ((Below.refl _ w).alloc (Nat.le_refl _) _).alloc (by simp) _
  simp only [World.size_alloc] at bR
  by_cases h0 : ln < 0
  · have BR := hide bR
    have HB2 := hide hB2
    clear bP bR hB2
    gi_wp2
    refine ⟨.int .i64 0, ?_, ⟨0, rfl, .inl ⟨h0, rfl⟩, HB2.out⟩⟩
    have e1 := BR.out.cell
    simp [results, Tryd.f47, go_sem, e1]
  · by_cases h1 : ln ≥ (L.length : Int)
    · have HB2 := hide hB2
      clear bP bR hB2
      gi_wp2
      refine ⟨.int .i64 (T.length : Int), ?_, ⟨_, rfl, .inr (.inl ⟨by omega, h1, rfl⟩), ((Below.refl _ w).alloc (Nat.le_refl _) _).alloc (by simp) _⟩⟩
      simp [results, Tryd.f47, go_sem]
    · obtain ⟨i, rfl⟩ : ∃ i : Nat, ln = (i : Int) := ⟨ln.toNat, by omega⟩
      have hi : i < L.length := by omega
      obtain ⟨b, off, rfl, c0⟩ := HC.out i hi
      have hb0 : b < w.heap.size := block_lt c0
      have hb1 : b < w.heap.size + 1 := by omega
      have di : (i : Int) < (L.length : Int) := by omega
      have di0 : (0 : Int) ≤ (i : Int) := by omega
      have HB2 := hide hB2
      have BP := hide (bP.alloc (.cells #[.int .i64 0] 3))
      have BR := hide bR
      have Hc := hide (lettersOf_calls _ ao cap T (nthI L i) (H.out.below hB2) (HK.out.below hB2) hlen)
      generalize hZ : nthI L i = z at *
      have HZ := hide hZ
      clear bP bR hB2 hZ
      gi_wp2_with fail
      refine ⟨trivial, ?_⟩
      refine (callsIn_wide.2 Hc.out).mono ?_
      rintro e W1 ⟨f, en, bo, bc, rfl, hcl, hE, hBl, hbW⟩
      have hs1 : w.heap.size + 2 ≤ W1.heap.size := by have := hbW.size; simpa using this
      have bP := BP.out.below hbW
      have bR := boxed_below BR.out hbW
      have hBW : Below w.heap.size w W1 := bafter HB2.out hbW (Nat.le_refl _)
      clear BP BR Hc
      have HE := hide hE
      have HCL := hide hcl
      have HBl := hide (hBl W1 (H.out.below hBW))
      have HbW := hide hbW
      have hll : (lineL T f en).length = en - f := lineL_length hE.1 hE.2.1
      have hsm := lineL_small H.out.1.small f en
      clear hE hcl hBl hbW
      generalize hLT : lineL T f en = LT at *
      rw [← hll]
      obtain ⟨N, n1, n2⟩ := letters_count hsm
      have hN : N ≤ LT.length := by have := posL_ge hsm n1 N (Nat.le_refl _); omega
      have hLl : LT.length ≤ 1000000000 := by have := HE.out.2.1; omega
      have hfl : f + LT.length ≤ 1000000000 := by have h1 := HE.out.1; have h2 := HE.out.2.1; omega
      have HM := hide hll
      have HLT := hide hLT
      clear hll hLT
      have hcapL : LT.length ≤ bc := HBl.out.2.1
      gi_wp2_with (refine ⟨trivial, ?_⟩; gi_at_call 43; refine (callsIn_wide.2 (letters_calls _ _ _ _)).mono ?_; rintro e w' ⟨rfl, rfl⟩)
      have b1 := Boxed.new W1 3 (.int .i64 (f : Int))
      have b2 := Boxed.new (W1.alloc (.cells #[.int .i64 (f : Int)] 3)) 3 (.int .i64 0)
      have b3 := Boxed.new ((W1.alloc (.cells #[.int .i64 (f : Int)] 3)).alloc (.cells #[.int .i64 0] 3)) 36 (.slice bo LT.length bc)
      simp only [World.size_alloc] at b2 b3
      have hB4 : Below W1.heap.size W1 (((W1.alloc (.cells #[.int .i64 (f : Int)] 3)).alloc (.cells #[.int .i64 0] 3)).alloc (.cells #[.slice bo LT.length bc] 36)) :=
        (((Below.refl _ W1).alloc (Nat.le_refl _) _).alloc (by simp) _).alloc (by simp; omega) _
      refine range_knownB (gf := 54) (lb := #[.pointer (some ⟨W1.heap.size + 1 + 1, 0, none⟩)]) rfl (enters_of Tryd.func54 (by kernel_rfl) rfl)
        (letters_hands (W1.heap.size + 1 + 1) bo bc LT N n1 n2 (by omega) hcapL) (fun _ => rfl)
        (fun k W => ((Box2 W w.heap.size 48 (.int .i64 (i : Int)) (.int .i64 u) ∧ Boxed W (w.heap.size + 1) 3 (.int .i64 0) ∧ Boxed W W1.heap.size 3 (.int .i64 (f : Int)) ∧ Boxed W (W1.heap.size + 1) 3 (.int .i64 ((unitsL LT k : Nat) : Int))) ∧ Boxed W (W1.heap.size + 1 + 1) 36 (.slice bo LT.length bc) ∧ (∀ j, j < k → ((unitsL LT (j + 1) : Nat) : Int) ≤ u)) ∧ Below W1.heap.size W1 W)
        (fun c k W => ((c = .ret ∧ u < ((unitsL LT (k + 1) : Nat) : Int) ∧ (∀ j, j < k → ((unitsL LT (j + 1) : Nat) : Int) ≤ u)) ∧ Boxed W (w.heap.size + 1) 3 (.int .i64 ((f : Int) + ((posL LT k : Nat) : Int)))) ∧ Below w.heap.size w W)
        (OwnFrom.and (OwnFrom.and (OwnFrom.and (own_box2 _ _ _ _ _) (OwnFrom.and (own_boxed _ _ _ _) (OwnFrom.and (own_boxed _ _ _ _) (own_boxedk _ _ _ _)))) (OwnFrom.and (own_boxed _ _ _ _) (ownFrom_pure _ _))) (ownFrom_below (Nat.le_refl _) (by simp; omega)))
        (fun c => OwnFrom.and (OwnFrom.and (ownFrom_pure _ _) (own_boxedk _ _ _ _)) (ownFrom_below (Nat.le_refl _) (by simp; omega)))
        ?know ?stable ⟨⟨⟨((bP.alloc _).alloc _).alloc _, ((bR.alloc _).alloc _).alloc _, (b1.alloc _).alloc _, b2.alloc _⟩, b3, fun j hj => by omega⟩, hB4⟩
        (fun k => { tmps := #[.slice ao T.length cap, .slice (some ⟨b, off, none⟩) L.length lc, .agg #[.int .i64 (i : Int), .int .i64 u], undef, undef, .pointer (some ⟨w.heap.size, 0, none⟩), .pointer (some ⟨w.heap.size + 1, 0, none⟩), .slice bo LT.length bc, .pointer (some ⟨W1.heap.size, 0, none⟩), .pointer (some ⟨W1.heap.size + 1, 0, none⟩), .int .i64 ((posL LT k : Nat) : Int), .int .i32 (runeAt LT (posL LT k)), .pointer (some ⟨w.heap.size, 0, none⟩), .int .i64 (i : Int), .bool false, .pointer (some ⟨w.heap.size, 0, none⟩), .int .i64 (i : Int), .slice (some ⟨b, off, none⟩) L.length lc, .int .i64 (L.length : Int), .bool false, undef, undef, .tuple #[.slice bo LT.length bc, .int .i64 (f : Int)], .slice ao T.length cap, .slice (some ⟨b, off, none⟩) L.length lc, .pointer (some ⟨w.heap.size, 0, none⟩), .int .i64 (i : Int), .pointer (some ⟨b, off + i, none⟩), .int .i64 z, .tuple #[.slice bo LT.length bc, .int .i64 (f : Int)], .slice bo LT.length bc, .int .i64 (f : Int), .slice bo LT.length bc, .func (.func 54) #[] #[.pointer (some ⟨W1.heap.size + 1 + 1, 0, none⟩)], .int .i64 ((posL LT k : Nat) : Int), .int .i32 (runeAt LT (posL LT k)), undef, undef, undef, undef, undef, undef, undef, undef, undef, undef, undef, undef, undef, undef, undef], defers := [] }) ?assign ?body ?done ?stop
      case know =>
        rintro k W ⟨⟨_, hb, _⟩, hB⟩
        exact ⟨hb.cell, HBl.out.1.below hB, Utf8Tabs_below (Utf8Tabs_below HK.out.tabs hBW) hB⟩
      case stable =>
        rintro k W W' ⟨⟨⟨g1, g2, g3, g4⟩, g5, g6⟩, hB⟩ hb
        exact ⟨⟨⟨g1.below hb, boxed_below g2 hb, boxed_below g3 hb, boxed_below g4 hb⟩, boxed_below g5 hb, g6⟩, bafter hB hb (Nat.le_refl _)⟩
      case assign =>
        intro l k W K hk hK
        gi_wp2
        exact hK
      case body =>
        rintro l k W hk ⟨⟨⟨g1, g2, g3, g4⟩, g5, g6⟩, hB⟩
        have G6 := hide g6
        have HBB := hide hB
        have cu := g1.cell1
        have cf := g3.cell
        have c4 := g4.cell
        have f4 := g4.frozen
        have f2 := g2.frozen
        have c2 := g2.cell
        have hle := unitsL_le LT k
        have hpk := n1 k hk
        have hun : unitOf (runeAt LT (posL LT k)) ≤ 2 := by unfold unitOf; split <;> omega
        have HU : Hid (unitsL LT (k + 1) = unitsL LT k + unitOf (runeAt LT (posL LT k))) := rfl
        generalize hrr : runeAt LT (posL LT k) = r at *
        generalize hpp : posL LT k = pk at *
        have HPP := hide hpp
        generalize hu : unitOf r = uu at *
        obtain ⟨U, hU⟩ : ∃ U, unitsL LT k + uu = U := ⟨_, rfl⟩
        have hUU : ((unitsL LT k : Nat) : Int) + (uu : Int) = (U : Int) := by omega
        have hUb : U ≤ 2000000002 := by omega
        have hwU : IntKind.i64.wrap (U : Int) = (U : Int) := by rw [IntKind.wrap_i64]; omega
        have HEQ : Hid (unitsL LT (k + 1) = U) := by show _ = _; rw [HU.out, hU]
        obtain ⟨fp, hfp⟩ : ∃ fp, f + pk = fp := ⟨_, rfl⟩
        have hfp' : (f : Int) + (pk : Int) = (fp : Int) := by omega
        have hfpb : fp ≤ 1000000000 := by omega
        have HFP := hide hfp
        have GG := hide (show (Box2 W w.heap.size 48 (.int .i64 (i : Int)) (.int .i64 u) ∧ Boxed W (w.heap.size + 1) 3 (.int .i64 0) ∧ Boxed W W1.heap.size 3 (.int .i64 (f : Int)) ∧ Boxed W (W1.heap.size + 1) 3 (.int .i64 ((unitsL LT k : Nat) : Int))) ∧ Boxed W (W1.heap.size + 1 + 1) 36 (.slice bo LT.length bc) from ⟨⟨g1, g2, g3, g4⟩, g5⟩)
        have ne1 : ¬ W1.heap.size + 1 = w.heap.size := by omega
        have ne2 : ¬ w.heap.size = W1.heap.size + 1 := by omega
        have ne3 : ¬ W1.heap.size = W1.heap.size + 1 := by omega
        have ne4 : ¬ w.heap.size + 1 = W1.heap.size + 1 := by omega
        have ne5 : ¬ W1.heap.size + 1 = w.heap.size + 1 := by omega
        have HS1 := hide hs1
        clear hU HU hle hun hfp hpp hrr g1 g2 g3 g4 g5 g6 hB hs1
        by_cases hgt : (U : Int) > u
        · gi_wp2
          refine round_any 1 l (by kernel_rfl) (no_defer (by simp)) (by rintro ⟨_, _, h⟩; exact h) ?_
          refine takeA (i := 1) (v := ?v3) (some 37) rfl (by kernel_rfl) (by kernel_rfl) (by kernel_rfl) (fun _ _ _ h => h) (Or.inl ⟨by rfl, ?hy3⟩) (by rfl) ?rest3
          case hy3 => first | (intro w; go_simp; done) | (intro w; go_simp; with_reducible rfl)
          try simp only [Act.put, List.setIfInBounds_toArray, List.set_cons_zero, List.set_cons_succ]
          refine wpAny_ready (rs := [0, 2]) (by kernel_rfl) (by simp) ?_
          refine AllReady.cons rfl (fun K hK => ?_) (AllReady.cons rfl (fun K hK => ?_) AllReady.nil)
          · go_simp
            refine hK _ _ ?_
            clear hK K
            try simp only [Act.put, List.setIfInBounds_toArray, List.set_cons_zero, List.set_cons_succ]
            refine wpAny_ready (rs := [2]) (by kernel_rfl) (by simp) ?_
            refine AllReady.cons rfl (fun K hK => ?_) AllReady.nil
            go_simp
            refine (width_calls _ _).mono ?_
            rintro e w1 ⟨rfl, hw⟩
            rw [hw, hu]
            clear hw
            go_wp2_with fail
            try simp only [Act.put, List.setIfInBounds_toArray, List.set_cons_zero, List.set_cons_succ]
            refine takeA (i := 3) (v := ?v1) (some 39) rfl (by kernel_rfl) (by kernel_rfl) (by kernel_rfl) (fun _ _ _ h => h) (Or.inl ⟨by rfl, ?hy1⟩) (by rfl) ?rest1
            case hy1 => first | (intro w; go_simp; done) | (intro w; go_simp; with_reducible rfl)
            try simp only [Act.put, List.setIfInBounds_toArray, List.set_cons_zero, List.set_cons_succ]
            refine wpAny_ready (rs := [4]) (by kernel_rfl) (by simp) ?_
            refine AllReady.cons rfl (fun K hK => ?_) AllReady.nil
            go_simp
            refine hK _ _ ?_
            clear hK K
            try simp only [Act.put, List.setIfInBounds_toArray, List.set_cons_zero, List.set_cons_succ]
            refine wpAny_done (by kernel_rfl) ?_ _
            simp only [Exit.then]
            gi_wp2
            obtain ⟨⟨g1, g2, g3, g4⟩, g5⟩ := GG.out
            have hs := HS1.out
            refine ⟨((KeepsOthers.setCell _ _ _).trans ((KeepsOthers.setCell _ _ _).trans (KeepsOthers.drew _))).from _, ⟨⟨rfl, by rw [HEQ.out]; exact hgt, G6.out⟩, ?_⟩, ?_⟩
            · rw [HPP.out, hfp']
              exact (boxed_other g2 (by omega) _).set _
            · exact ((((bafter hBW HBB.out (Nat.le_refl _)).setCell (p := ⟨W1.heap.size + 1, 0, none⟩) (by simp; omega) _).setCell (p := ⟨w.heap.size + 1, 0, none⟩) (by simp) _).drew)
          · go_simp
            refine (width_calls _ _).mono ?_
            rintro e w1 ⟨rfl, hw⟩
            rw [hw, hu]
            clear hw
            go_wp2_with fail
            try simp only [Act.put, List.setIfInBounds_toArray, List.set_cons_zero, List.set_cons_succ]
            refine wpAny_ready (rs := [0]) (by kernel_rfl) (by simp) ?_
            refine AllReady.cons rfl (fun K hK => ?_) AllReady.nil
            go_simp
            refine hK _ _ ?_
            clear hK K
            try simp only [Act.put, List.setIfInBounds_toArray, List.set_cons_zero, List.set_cons_succ]
            refine takeA (i := 3) (v := ?v2) (some 39) rfl (by kernel_rfl) (by kernel_rfl) (by kernel_rfl) (fun _ _ _ h => h) (Or.inl ⟨by rfl, ?hy2⟩) (by rfl) ?rest2
            case hy2 => first | (intro w; go_simp; done) | (intro w; go_simp; with_reducible rfl)
            try simp only [Act.put, List.setIfInBounds_toArray, List.set_cons_zero, List.set_cons_succ]
            refine wpAny_ready (rs := [4]) (by kernel_rfl) (by simp) ?_
            refine AllReady.cons rfl (fun K hK => ?_) AllReady.nil
            go_simp
            refine hK _ _ ?_
            clear hK K
            try simp only [Act.put, List.setIfInBounds_toArray, List.set_cons_zero, List.set_cons_succ]
            refine wpAny_done (by kernel_rfl) ?_ _
            simp only [Exit.then]
            gi_wp2
            obtain ⟨⟨g1, g2, g3, g4⟩, g5⟩ := GG.out
            have hs := HS1.out
            refine ⟨((KeepsOthers.setCell _ _ _).trans ((KeepsOthers.setCell _ _ _).trans (KeepsOthers.drew _))).from _, ⟨⟨rfl, by rw [HEQ.out]; exact hgt, G6.out⟩, ?_⟩, ?_⟩
            · rw [HPP.out, hfp']
              exact (boxed_other g2 (by omega) _).set _
            · exact ((((bafter hBW HBB.out (Nat.le_refl _)).setCell (p := ⟨W1.heap.size + 1, 0, none⟩) (by simp; omega) _).setCell (p := ⟨w.heap.size + 1, 0, none⟩) (by simp) _).drew)
        · have hgt' : (U : Int) ≤ u := by omega
          gi_wp2
          refine round_any 1 l (by kernel_rfl) (no_defer (by simp)) (by rintro ⟨_, _, h⟩; exact h) ?_
          refine takeA (i := 1) (v := ?v6) (some 37) rfl (by kernel_rfl) (by kernel_rfl) (by kernel_rfl) (fun _ _ _ h => h) (Or.inl ⟨by rfl, ?hy6⟩) (by rfl) ?rest6
          case hy6 => first | (intro w; go_simp; done) | (intro w; go_simp; with_reducible rfl)
          try simp only [Act.put, List.setIfInBounds_toArray, List.set_cons_zero, List.set_cons_succ]
          refine wpAny_ready (rs := [0, 2]) (by kernel_rfl) (by simp) ?_
          refine AllReady.cons rfl (fun K hK => ?_) (AllReady.cons rfl (fun K hK => ?_) AllReady.nil)
          · go_simp
            refine hK _ _ ?_
            clear hK K
            try simp only [Act.put, List.setIfInBounds_toArray, List.set_cons_zero, List.set_cons_succ]
            refine wpAny_ready (rs := [2]) (by kernel_rfl) (by simp) ?_
            refine AllReady.cons rfl (fun K hK => ?_) AllReady.nil
            go_simp
            refine (width_calls _ _).mono ?_
            rintro e w1 ⟨rfl, hw⟩
            rw [hw, hu]
            clear hw
            go_wp2_with fail
            try simp only [Act.put, List.setIfInBounds_toArray, List.set_cons_zero, List.set_cons_succ]
            refine takeA (i := 3) (v := ?v4) (some 39) rfl (by kernel_rfl) (by kernel_rfl) (by kernel_rfl) (fun _ _ _ h => h) (Or.inl ⟨by rfl, ?hy4⟩) (by rfl) ?rest4
            case hy4 => first | (intro w; go_simp; done) | (intro w; go_simp; with_reducible rfl)
            try simp only [Act.put, List.setIfInBounds_toArray, List.set_cons_zero, List.set_cons_succ]
            refine wpAny_ready (rs := [4]) (by kernel_rfl) (by simp) ?_
            refine AllReady.cons rfl (fun K hK => ?_) AllReady.nil
            go_simp
            refine hK _ _ ?_
            clear hK K
            try simp only [Act.put, List.setIfInBounds_toArray, List.set_cons_zero, List.set_cons_succ]
            refine wpAny_done (by kernel_rfl) ?_ _
            simp only [Exit.then]
            gi_wp2
            obtain ⟨⟨g1, g2, g3, g4⟩, g5⟩ := GG.out
            have hs := HS1.out
            refine ⟨((KeepsOthers.setCell _ _ _).trans (KeepsOthers.drew _)).from _, ⟨⟨g1.other (by omega) _, boxed_other g2 (by omega) _, boxed_other g3 (by omega) _, ?_⟩, boxed_other g5 (by omega) _, fun j hj => ?_⟩, (HBB.out.setCell (p := ⟨W1.heap.size + 1, 0, none⟩) (by simp) _).drew⟩
            · rw [HEQ.out]
              exact g4.set _
            · rcases Nat.lt_succ_iff_lt_or_eq.1 hj with e | e
              · exact G6.out j e
              · rw [e, HEQ.out]; exact hgt'
          · go_simp
            refine (width_calls _ _).mono ?_
            rintro e w1 ⟨rfl, hw⟩
            rw [hw, hu]
            clear hw
            go_wp2_with fail
            try simp only [Act.put, List.setIfInBounds_toArray, List.set_cons_zero, List.set_cons_succ]
            refine wpAny_ready (rs := [0]) (by kernel_rfl) (by simp) ?_
            refine AllReady.cons rfl (fun K hK => ?_) AllReady.nil
            go_simp
            refine hK _ _ ?_
            clear hK K
            try simp only [Act.put, List.setIfInBounds_toArray, List.set_cons_zero, List.set_cons_succ]
            refine takeA (i := 3) (v := ?v5) (some 39) rfl (by kernel_rfl) (by kernel_rfl) (by kernel_rfl) (fun _ _ _ h => h) (Or.inl ⟨by rfl, ?hy5⟩) (by rfl) ?rest5
            case hy5 => first | (intro w; go_simp; done) | (intro w; go_simp; with_reducible rfl)
            try simp only [Act.put, List.setIfInBounds_toArray, List.set_cons_zero, List.set_cons_succ]
            refine wpAny_ready (rs := [4]) (by kernel_rfl) (by simp) ?_
            refine AllReady.cons rfl (fun K hK => ?_) AllReady.nil
            go_simp
            refine hK _ _ ?_
            clear hK K
            try simp only [Act.put, List.setIfInBounds_toArray, List.set_cons_zero, List.set_cons_succ]
            refine wpAny_done (by kernel_rfl) ?_ _
            simp only [Exit.then]
            gi_wp2
            obtain ⟨⟨g1, g2, g3, g4⟩, g5⟩ := GG.out
            have hs := HS1.out
            refine ⟨((KeepsOthers.setCell _ _ _).trans (KeepsOthers.drew _)).from _, ⟨⟨g1.other (by omega) _, boxed_other g2 (by omega) _, boxed_other g3 (by omega) _, ?_⟩, boxed_other g5 (by omega) _, fun j hj => ?_⟩, (HBB.out.setCell (p := ⟨W1.heap.size + 1, 0, none⟩) (by simp) _).drew⟩
            · rw [HEQ.out]
              exact g4.set _
            · rcases Nat.lt_succ_iff_lt_or_eq.1 hj with e | e
              · exact G6.out j e
              · rw [e, HEQ.out]; exact hgt'
      case done =>
        rintro D W hD ⟨⟨⟨g1, g2, g3, g4⟩, g5, g6⟩, hB⟩ hK
        have G6 := hide g6
        have cf := g3.cell
        have c2 := g2.cell
        have f2 := g2.frozen
        obtain ⟨fp, hfp⟩ : ∃ fp, f + LT.length = fp := ⟨_, rfl⟩
        have hfp' : (f : Int) + (LT.length : Int) = (fp : Int) := by omega
        have hfpb : fp ≤ 1000000000 := by omega
        have HBB := hide hB
        clear g6 hfp hB
        gi_wp2
        have d1 := g2.set (.int .i64 (fp : Int))
        have hK' := (KeepsOthers.setCell W ⟨w.heap.size + 1, 0, none⟩ (.int .i64 (fp : Int))).same D _ hK rfl
        refine ⟨by simp, .inl ⟨_, _, rfl, run_takeDeferred hK', ?_⟩⟩
        have e1 := cell_kept d1.cell (grownBy_putObj' _ D (.deferred none)) (fun r e => by cases e; exact ⟨_, hK', rfl⟩)
        refine ⟨.int .i64 (fp : Int), ?_, ⟨_, rfl, .inr (.inr ⟨i, f, en, N, rfl, hi, by rw [HZ.out]; exact HCL.out, HE.out, by rw [HLT.out]; exact n1, by rw [HLT.out]; exact n2, by rw [HLT.out]; exact .inr ⟨G6.out, by rw [hfp']⟩⟩), ((bafter hBW HBB.out (Nat.le_refl _)).setCell (p := ⟨w.heap.size + 1, 0, none⟩) (by simp) _).trans (belowK_b (w := w) (Nat.le_refl _) _ D _ _ (by simp at hD; omega) hK' rfl rfl)⟩⟩
        simp [results, Tryd.f47, go_sem, e1]
      case stop =>
        rintro D c k W hD hk ⟨⟨⟨rfl, g4, g5⟩, g1⟩, hB⟩ hK
        gi_wp2
        refine ⟨by simp, .inl ⟨_, _, rfl, run_takeDeferred hK, ?_⟩⟩
        have e1 := cell_kept g1.cell (grownBy_putObj' _ D (.deferred none)) (fun r e => by cases e; exact ⟨_, hK, rfl⟩)
        refine ⟨.int .i64 ((f : Int) + ((posL LT k : Nat) : Int)), ?_, ⟨_, rfl, .inr (.inr ⟨i, f, en, N, rfl, hi, by rw [HZ.out]; exact HCL.out, HE.out, by rw [HLT.out]; exact n1, by rw [HLT.out]; exact n2, by rw [HLT.out]; exact .inl ⟨k, hk, g4, g5, rfl⟩⟩), hB.trans (belowK_b (w := w) (Nat.le_refl _) W D _ _ (by simp at hD; omega) hK rfl rfl)⟩⟩
        simp [results, Tryd.f47, go_sem, e1]

end Go.Proofs.YthhpfdjcggfhaaaDoor
