/- The law UtfOffsets, walked. -/
import Derived.Test.YtchpnbcagbjnnaaDoorULaw1
import Derived.Test.YtchpnbcagbjnnaaDoorUROff
namespace Go.Proofs.YtchpnbcagbjnnaaDoor
set_option linter.unusedVariables false
set_option linter.unusedSimpArgs false
set_option maxRecDepth 100000
open Go Go.RowKit Go.Shelf Go.Lib

theorem end_one {T : List Nat} {f e e' : Nat} (h : IsEnd T f e) (h' : IsEnd T f e') : e = e' := by
  obtain ⟨a1, a2, a3, a4⟩ := h
  obtain ⟨b1, b2, b3, b4⟩ := h'
  rcases Nat.lt_trichotomy e e' with g | g | g
  · have h1 := a4 (by omega)
    have h2 := b3 e a1 g
    omega
  · exact g
  · have h1 := b4 (by omega)
    have h2 := a3 e' b1 g
    omega
theorem count_one {T : List Nat} {N N' : Nat} (h1 : ∀ k, k < N → posL T k < T.length) (h2 : posL T N = T.length) (g1 : ∀ k, k < N' → posL T k < T.length) (g2 : posL T N' = T.length) : N = N' := by
  rcases Nat.lt_trichotomy N N' with g | g | g
  · have := g1 N g; omega
  · exact g
  · have := h1 N' g; omega
theorem inline_one {LT : List Nat} {N f : Nat} {u r r' : Int} (h : InLine LT N f u r) (h' : InLine LT N f u r') : r = r' := by
  rcases h with ⟨k, hk, a1, a2, rfl⟩ | ⟨a1, rfl⟩ <;> rcases h' with ⟨k', hk', b1, b2, rfl⟩ | ⟨b1, rfl⟩
  · have : k = k' := by
      rcases Nat.lt_trichotomy k k' with g | g | g
      · have := b2 k g; omega
      · exact g
      · have := a2 k' g; omega
    rw [this]
  · have := b1 k hk; omega
  · have := a1 k' hk'; omega
  · rfl
theorem off_one {T : List Nat} {L : List Int} {ln u r r' : Int} (h : OffR T L ln u r) (h' : OffR T L ln u r') : r = r' := by
  rcases h with ⟨a, rfl⟩ | ⟨a0, a, rfl⟩ | ⟨i, f, en, N, rfl, hi, hc, hE, n1, n2, hI⟩ <;> rcases h' with ⟨b, rfl⟩ | ⟨b0, b, rfl⟩ | ⟨i', f', en', N', he, hi', hc', hE', n1', n2', hI'⟩
  all_goals first | rfl | omega | skip
  obtain rfl : i = i' := by omega
  obtain rfl : f = f' := by omega
  obtain rfl := end_one hE hE'
  obtain rfl := count_one n1 n2 n1' n2'
  exact inline_one hI hI'

/-- A box of five cells. -/
def Box5 (W : World) (B : Nat) (t : TypeId) (a b c d e : Value) : Prop := W.heap[B]? = some (.cells #[a, b, c, d, e] t (0, 0))
theorem Box5.new (W : World) (t : TypeId) (a b c d e : Value) : Box5 (W.alloc (.cells #[a, b, c, d, e] t)) W.heap.size t a b c d e := World.alloc_heap_new W _

set_option maxHeartbeats 8000000 in
theorem utfoffsets_calls (w : World) (ao : Option Addr) (cap : Nat) (T : List Nat) (h : Byt w ao cap T) (lo : Option Addr) (lc : Nat) (L : List Int) (hL : IntsIn w (.slice lo L.length lc) L) (own : Bool) (ln u : Int) (hu : u ≤ 9223372036854775807) (hK : Know w) :
    Calls Tryd.prog 7 #[.agg #[.slice ao T.length cap, .slice lo L.length lc, .bool own, .int .i64 ln, .int .i64 u]] w fun e w' => e = .returned (.bool true) ∧ Below w.heap.size w w' := by
  have H := hide h
  have HL := hide hL
  have HK := hide hK
  clear h hL hK
  have bP := Box2.new (w.alloc (.cells #[.slice ao T.length cap, .slice lo L.length lc, .bool own, .int .i64 ln, .int .i64 u] 51)) 49 (.int .i64 ln) (.int .i64 u)
  simp only [World.size_alloc] at bP
  have hB0 : Below w.heap.size w ((w.alloc (.cells #[.slice ao T.length cap, .slice lo L.length lc, .bool own, .int .i64 ln, .int .i64 u] 51)).alloc (.cells #[.int .i64 ln, .int .i64 u] 49)).drew := (((Below.refl _ w).alloc (Nat.le_refl _) _).alloc (by simp) _).drew
  have bP' : Box2 ((w.alloc (.cells #[.slice ao T.length cap, .slice lo L.length lc, .bool own, .int .i64 ln, .int .i64 u] 51)).alloc (.cells #[.int .i64 ln, .int .i64 u] 49)).drew (w.heap.size + 1) 49 (.int .i64 ln) (.int .i64 u) := bP
  go_enter Tryd.func7, Tryd.ntmps7
  go_wp2
  go_region
  simp only [Exit.then]
  have BP := hide bP'
  have KB := hide hB0
  clear bP bP' hB0
  generalize hW0 : ((w.alloc (.cells #[.slice ao T.length cap, .slice lo L.length lc, .bool own, .int .i64 ln, .int .i64 u] 51)).alloc (.cells #[.int .i64 ln, .int .i64 u] 49)).drew = W0 at *
  clear hW0
  by_cases hl : T.length ≤ 400
  · have hl' : ¬ (T.length : Int) > 400 := by omega
    by_cases hll : L.length ≤ 50
    · have hll' : ¬ (L.length : Int) > 50 := by omega
      cases own with
      | true =>
        go_wp2_with fail
        refine (rlines_calls _ _ _ T (H.out.below KB.out).1 (by omega)).mono ?_
        rintro e WL ⟨lv, rfl, hO, hb⟩
        obtain ⟨LL, hLL⟩ : ∃ LL, linesL T = LL := ⟨_, rfl⟩
        rw [hLL] at hO
        have HLL := hide hO.ints
        have KBL := hide (bafter KB.out hb (Nat.le_refl _))
        have BX := hide (BP.out.below hb)
        have HTL := hide (H.out.below KBL.out)
        have HKL := hide (HK.out.below KBL.out)
        obtain ⟨la, lcc, rfl, _⟩ := hO.ints
        clear hO hb hLL BP KB
        go_wp2
        refine wp_region_held_drew (S := fun X : World => X.cell? ⟨w.heap.size + 1, 0, none⟩ = some (.int .i64 ln) ∧ X.cell? ⟨w.heap.size + 1, 1, none⟩ = some (.int .i64 u) ∧ Below WL.heap.size WL X) (by kernel_rfl) ⟨BX.out.cell0, BX.out.cell1, (Below.refl _ _).drew⟩ (fun hS0 => ?_)
        try simp only [Act.put, List.setIfInBounds_toArray, List.set_cons_zero, List.set_cons_succ]
        refine wpAnyH_ready (rs := [0]) (by kernel_rfl) (by simp) ?_
        refine AllReadyH.cons rfl (fun K hK => ?_) AllReadyH.nil
        go_simp
        refine (lettered_calls _ (HKL.out.below hS0.2.2)).mono ?_
        rintro e X1 ⟨rfl, hx1⟩
        have hS1 : (fun X : World => X.cell? ⟨w.heap.size + 1, 0, none⟩ = some (.int .i64 ln) ∧ X.cell? ⟨w.heap.size + 1, 1, none⟩ = some (.int .i64 u) ∧ Below WL.heap.size WL X) X1 := ⟨(BX.out.below (bafter hS0.2.2 hx1 (Nat.le_refl _))).cell0, (BX.out.below (bafter hS0.2.2 hx1 (Nat.le_refl _))).cell1, bafter hS0.2.2 hx1 (Nat.le_refl _)⟩
        clear hx1 hS0
        go_wp2_with fail
        refine hK.out _ _ hS1 (fun _ => ?_)
        clear hK K
        try simp only [Act.put, List.setIfInBounds_toArray, List.set_cons_zero, List.set_cons_succ]
        refine takeD (i := 1) (v := ?v1) (some 28) rfl (by kernel_rfl) (by kernel_rfl) (by kernel_rfl) (fun _ _ _ h => h) (Or.inl ⟨by rfl, ?hy1⟩) (by assumption) (by rfl) ?rest1
        case hy1 => first | (intro w hSw; (try dsimp only at hSw); go_simp; done) | (intro w hSw; (try dsimp only at hSw); go_simp; with_reducible rfl)
        try simp only [Act.put, List.setIfInBounds_toArray, List.set_cons_zero, List.set_cons_succ]
        refine takeD (i := 2) (v := ?v2) (some 29) rfl (by kernel_rfl) (by kernel_rfl) (by kernel_rfl) (fun _ _ _ h => h) (Or.inl ⟨by rfl, ?hy2⟩) (by assumption) (by rfl) ?rest2
        case hy2 => first | (intro w hSw; (try dsimp only at hSw); go_simp; done) | (intro w hSw; (try dsimp only at hSw); go_simp; with_reducible rfl)
        try simp only [Act.put, List.setIfInBounds_toArray, List.set_cons_zero, List.set_cons_succ]
        refine takeD (i := 3) (v := ?v3) (some 30) rfl (by kernel_rfl) (by kernel_rfl) (by kernel_rfl) (fun _ _ _ h => h) (Or.inl ⟨by rfl, ?hy3⟩) (by assumption) (by rfl) ?rest3
        case hy3 => first | (intro w hSw; (try dsimp only at hSw); go_simp; done) | (intro w hSw; (try dsimp only at hSw); go_simp; with_reducible rfl)
        try simp only [Act.put, List.setIfInBounds_toArray, List.set_cons_zero, List.set_cons_succ]
        refine takeD (i := 4) (v := ?v4) (some 31) rfl (by kernel_rfl) (by kernel_rfl) (by kernel_rfl) (fun _ _ _ h => h) (Or.inl ⟨by rfl, ?hy4⟩) (by assumption) (by rfl) ?rest4
        case hy4 => first | (intro w hSw; (try dsimp only at hSw); go_simp; done) | (intro w hSw; (try dsimp only at hSw); go_simp; with_reducible rfl)
        try simp only [Act.put, List.setIfInBounds_toArray, List.set_cons_zero, List.set_cons_succ]
        refine takeD (i := 6) (v := ?v5) (some 33) rfl (by kernel_rfl) (by kernel_rfl) (by kernel_rfl) (fun _ _ _ h => h) (Or.inl ⟨by rfl, ?hy5⟩) (by assumption) (by rfl) ?rest5
        case hy5 => first | (intro w hSw; (try dsimp only at hSw); go_simp; done) | (intro w hSw; (try dsimp only at hSw); go_simp; with_reducible rfl)
        try simp only [Act.put, List.setIfInBounds_toArray, List.set_cons_zero, List.set_cons_succ]
        refine takeD (i := 7) (v := ?v6) (some 34) rfl (by kernel_rfl) (by kernel_rfl) (by kernel_rfl) (fun _ _ _ h => h) (Or.inl ⟨by rfl, ?hy6⟩) (by assumption) (by rfl) ?rest6
        case hy6 => first | (intro w hSw; (try dsimp only at hSw); go_simp; done) | (intro w hSw; (try dsimp only at hSw); go_simp; with_reducible rfl)
        try simp only [Act.put, List.setIfInBounds_toArray, List.set_cons_zero, List.set_cons_succ]
        refine takeD (i := 8) (v := ?v7) (some 35) rfl (by kernel_rfl) (by kernel_rfl) (by kernel_rfl) (fun _ _ _ h => h) (Or.inl ⟨by rfl, ?hy7⟩) (by assumption) (by rfl) ?rest7
        case hy7 => first | (intro w hSw; (try dsimp only at hSw); go_simp; done) | (intro w hSw; (try dsimp only at hSw); go_simp; with_reducible rfl)
        try simp only [Act.put, List.setIfInBounds_toArray, List.set_cons_zero, List.set_cons_succ]
        refine wpAnyH_ready (rs := [5]) (by kernel_rfl) (by simp) ?_
        refine AllReadyH.cons rfl (fun K hK => ?_) AllReadyH.nil
        · go_simp
          refine (offset_calls _ ao cap T _ LL ln u (HTL.out.below hS1.2.2) (HLL.out.below hS1.2.2) (HKL.out.below hS1.2.2) (by omega)).mono ?_
          rintro e X2 ⟨ra, rfl, ha, hxa⟩
          have hSa : (fun X : World => X.cell? ⟨w.heap.size + 1, 0, none⟩ = some (.int .i64 ln) ∧ X.cell? ⟨w.heap.size + 1, 1, none⟩ = some (.int .i64 u) ∧ Below WL.heap.size WL X) X2 := ⟨(BX.out.below (bafter hS1.2.2 hxa (Nat.le_refl _))).cell0, (BX.out.below (bafter hS1.2.2 hxa (Nat.le_refl _))).cell1, bafter hS1.2.2 hxa (Nat.le_refl _)⟩
          have Ha := hide ha
          clear hxa ha hS1
          go_wp2_with fail
          refine hK.out _ _ hSa (fun _ => ?_)
          clear hK K
          try simp only [Act.put, List.setIfInBounds_toArray, List.set_cons_zero, List.set_cons_succ]
          refine wpAnyH_ready (rs := [9]) (by kernel_rfl) (by simp) ?_
          refine AllReadyH.cons rfl (fun K hK => ?_) AllReadyH.nil
          go_simp
          refine (roffset_calls _ ao cap T _ LL ln u (HTL.out.below hSa.2.2) (HLL.out.below hSa.2.2) (by omega) hu).mono ?_
          rintro e X3 ⟨rb, rfl, hb, hxb⟩
          have hSb : (fun X : World => X.cell? ⟨w.heap.size + 1, 0, none⟩ = some (.int .i64 ln) ∧ X.cell? ⟨w.heap.size + 1, 1, none⟩ = some (.int .i64 u) ∧ Below WL.heap.size WL X) X3 := ⟨(BX.out.below (bafter hSa.2.2 hxb (Nat.le_refl _))).cell0, (BX.out.below (bafter hSa.2.2 hxb (Nat.le_refl _))).cell1, bafter hSa.2.2 hxb (Nat.le_refl _)⟩
          have Hb := hide hb
          clear hxb hb hSa
          go_wp2_with fail
          refine hK.out _ _ hSb (fun _ => ?_)
          clear hK K
          try simp only [Act.put, List.setIfInBounds_toArray, List.set_cons_zero, List.set_cons_succ]
          obtain rfl := off_one Ha.out Hb.out
          have hee : (ra == ra) = true := by simp
          clear Ha Hb
          refine takeD (i := 10) (v := ?v8) (some 37) rfl (by kernel_rfl) (by kernel_rfl) (by kernel_rfl) (fun _ _ _ h => h) (Or.inl ⟨by rfl, ?hy8⟩) (by assumption) (by rfl) ?rest8
          case hy8 => first | (intro w hSw; (try dsimp only at hSw); go_simp; done) | (intro w hSw; (try dsimp only at hSw); go_simp; with_reducible rfl)
          try simp only [Act.put, List.setIfInBounds_toArray, List.set_cons_zero, List.set_cons_succ]
          refine takeD (i := 11) (v := ?v9) (some 38) rfl (by kernel_rfl) (by kernel_rfl) (by kernel_rfl) (fun _ _ _ h => h) (Or.inl ⟨by rfl, ?hy9⟩) (by assumption) (by rfl) ?rest9
          case hy9 => first | (intro w hSw; (try dsimp only at hSw); go_simp; done) | (intro w hSw; (try dsimp only at hSw); go_simp; with_reducible rfl)
          try simp only [Act.put, List.setIfInBounds_toArray, List.set_cons_zero, List.set_cons_succ]
          refine takeD (i := 12) (v := ?v10) (some 2) rfl (by kernel_rfl) (by kernel_rfl) (by kernel_rfl) (fun _ _ _ h => h) (Or.inl ⟨by rfl, ?hy10⟩) (by assumption) (by rfl) ?rest10
          case hy10 => first | (intro w hSw; (try dsimp only at hSw); go_simp; done) | (intro w hSw; (try dsimp only at hSw); go_simp; with_reducible rfl)
          try simp only [Act.put, List.setIfInBounds_toArray, List.set_cons_zero, List.set_cons_succ]
          refine wpAnyH_done (by kernel_rfl) ?_ _
          have KX := hide (bafter KBL.out hSb.2.2 (Nat.le_refl _))
          clear hSb
          go_wp2
          go_ret
          exact ⟨rfl, KX.out⟩
      | false =>
        obtain ⟨WL, hWL⟩ : ∃ WL, WL = W0 := ⟨_, rfl⟩
        rw [← hWL] at BP KB ⊢
        clear hWL
        have KBL := KB
        have BX := BP
        have HLL := hide (HL.out.below KB.out)
        have HTL := hide (H.out.below KBL.out)
        have HKL := hide (HK.out.below KBL.out)
        clear BP KB
        go_wp2
        refine wp_region_held_drew (S := fun X : World => X.cell? ⟨w.heap.size + 1, 0, none⟩ = some (.int .i64 ln) ∧ X.cell? ⟨w.heap.size + 1, 1, none⟩ = some (.int .i64 u) ∧ Below WL.heap.size WL X) (by kernel_rfl) ⟨BX.out.cell0, BX.out.cell1, (Below.refl _ _).drew⟩ (fun hS0 => ?_)
        try simp only [Act.put, List.setIfInBounds_toArray, List.set_cons_zero, List.set_cons_succ]
        refine wpAnyH_ready (rs := [0]) (by kernel_rfl) (by simp) ?_
        refine AllReadyH.cons rfl (fun K hK => ?_) AllReadyH.nil
        go_simp
        refine (lettered_calls _ (HKL.out.below hS0.2.2)).mono ?_
        rintro e X1 ⟨rfl, hx1⟩
        have hS1 : (fun X : World => X.cell? ⟨w.heap.size + 1, 0, none⟩ = some (.int .i64 ln) ∧ X.cell? ⟨w.heap.size + 1, 1, none⟩ = some (.int .i64 u) ∧ Below WL.heap.size WL X) X1 := ⟨(BX.out.below (bafter hS0.2.2 hx1 (Nat.le_refl _))).cell0, (BX.out.below (bafter hS0.2.2 hx1 (Nat.le_refl _))).cell1, bafter hS0.2.2 hx1 (Nat.le_refl _)⟩
        clear hx1 hS0
        go_wp2_with fail
        refine hK.out _ _ hS1 (fun _ => ?_)
        clear hK K
        try simp only [Act.put, List.setIfInBounds_toArray, List.set_cons_zero, List.set_cons_succ]
        refine takeD (i := 1) (v := ?v11) (some 28) rfl (by kernel_rfl) (by kernel_rfl) (by kernel_rfl) (fun _ _ _ h => h) (Or.inl ⟨by rfl, ?hy11⟩) (by assumption) (by rfl) ?rest11
        case hy11 => first | (intro w hSw; (try dsimp only at hSw); go_simp; done) | (intro w hSw; (try dsimp only at hSw); go_simp; with_reducible rfl)
        try simp only [Act.put, List.setIfInBounds_toArray, List.set_cons_zero, List.set_cons_succ]
        refine takeD (i := 2) (v := ?v12) (some 29) rfl (by kernel_rfl) (by kernel_rfl) (by kernel_rfl) (fun _ _ _ h => h) (Or.inl ⟨by rfl, ?hy12⟩) (by assumption) (by rfl) ?rest12
        case hy12 => first | (intro w hSw; (try dsimp only at hSw); go_simp; done) | (intro w hSw; (try dsimp only at hSw); go_simp; with_reducible rfl)
        try simp only [Act.put, List.setIfInBounds_toArray, List.set_cons_zero, List.set_cons_succ]
        refine takeD (i := 3) (v := ?v13) (some 30) rfl (by kernel_rfl) (by kernel_rfl) (by kernel_rfl) (fun _ _ _ h => h) (Or.inl ⟨by rfl, ?hy13⟩) (by assumption) (by rfl) ?rest13
        case hy13 => first | (intro w hSw; (try dsimp only at hSw); go_simp; done) | (intro w hSw; (try dsimp only at hSw); go_simp; with_reducible rfl)
        try simp only [Act.put, List.setIfInBounds_toArray, List.set_cons_zero, List.set_cons_succ]
        refine takeD (i := 4) (v := ?v14) (some 31) rfl (by kernel_rfl) (by kernel_rfl) (by kernel_rfl) (fun _ _ _ h => h) (Or.inl ⟨by rfl, ?hy14⟩) (by assumption) (by rfl) ?rest14
        case hy14 => first | (intro w hSw; (try dsimp only at hSw); go_simp; done) | (intro w hSw; (try dsimp only at hSw); go_simp; with_reducible rfl)
        try simp only [Act.put, List.setIfInBounds_toArray, List.set_cons_zero, List.set_cons_succ]
        refine takeD (i := 6) (v := ?v15) (some 33) rfl (by kernel_rfl) (by kernel_rfl) (by kernel_rfl) (fun _ _ _ h => h) (Or.inl ⟨by rfl, ?hy15⟩) (by assumption) (by rfl) ?rest15
        case hy15 => first | (intro w hSw; (try dsimp only at hSw); go_simp; done) | (intro w hSw; (try dsimp only at hSw); go_simp; with_reducible rfl)
        try simp only [Act.put, List.setIfInBounds_toArray, List.set_cons_zero, List.set_cons_succ]
        refine takeD (i := 7) (v := ?v16) (some 34) rfl (by kernel_rfl) (by kernel_rfl) (by kernel_rfl) (fun _ _ _ h => h) (Or.inl ⟨by rfl, ?hy16⟩) (by assumption) (by rfl) ?rest16
        case hy16 => first | (intro w hSw; (try dsimp only at hSw); go_simp; done) | (intro w hSw; (try dsimp only at hSw); go_simp; with_reducible rfl)
        try simp only [Act.put, List.setIfInBounds_toArray, List.set_cons_zero, List.set_cons_succ]
        refine takeD (i := 8) (v := ?v17) (some 35) rfl (by kernel_rfl) (by kernel_rfl) (by kernel_rfl) (fun _ _ _ h => h) (Or.inl ⟨by rfl, ?hy17⟩) (by assumption) (by rfl) ?rest17
        case hy17 => first | (intro w hSw; (try dsimp only at hSw); go_simp; done) | (intro w hSw; (try dsimp only at hSw); go_simp; with_reducible rfl)
        try simp only [Act.put, List.setIfInBounds_toArray, List.set_cons_zero, List.set_cons_succ]
        refine wpAnyH_ready (rs := [5]) (by kernel_rfl) (by simp) ?_
        refine AllReadyH.cons rfl (fun K hK => ?_) AllReadyH.nil
        · go_simp
          refine (offset_calls _ ao cap T _ L ln u (HTL.out.below hS1.2.2) (HLL.out.below hS1.2.2) (HKL.out.below hS1.2.2) (by omega)).mono ?_
          rintro e X2 ⟨ra, rfl, ha, hxa⟩
          have hSa : (fun X : World => X.cell? ⟨w.heap.size + 1, 0, none⟩ = some (.int .i64 ln) ∧ X.cell? ⟨w.heap.size + 1, 1, none⟩ = some (.int .i64 u) ∧ Below WL.heap.size WL X) X2 := ⟨(BX.out.below (bafter hS1.2.2 hxa (Nat.le_refl _))).cell0, (BX.out.below (bafter hS1.2.2 hxa (Nat.le_refl _))).cell1, bafter hS1.2.2 hxa (Nat.le_refl _)⟩
          have Ha := hide ha
          clear hxa ha hS1
          go_wp2_with fail
          refine hK.out _ _ hSa (fun _ => ?_)
          clear hK K
          try simp only [Act.put, List.setIfInBounds_toArray, List.set_cons_zero, List.set_cons_succ]
          refine wpAnyH_ready (rs := [9]) (by kernel_rfl) (by simp) ?_
          refine AllReadyH.cons rfl (fun K hK => ?_) AllReadyH.nil
          go_simp
          refine (roffset_calls _ ao cap T _ L ln u (HTL.out.below hSa.2.2) (HLL.out.below hSa.2.2) (by omega) hu).mono ?_
          rintro e X3 ⟨rb, rfl, hb, hxb⟩
          have hSb : (fun X : World => X.cell? ⟨w.heap.size + 1, 0, none⟩ = some (.int .i64 ln) ∧ X.cell? ⟨w.heap.size + 1, 1, none⟩ = some (.int .i64 u) ∧ Below WL.heap.size WL X) X3 := ⟨(BX.out.below (bafter hSa.2.2 hxb (Nat.le_refl _))).cell0, (BX.out.below (bafter hSa.2.2 hxb (Nat.le_refl _))).cell1, bafter hSa.2.2 hxb (Nat.le_refl _)⟩
          have Hb := hide hb
          clear hxb hb hSa
          go_wp2_with fail
          refine hK.out _ _ hSb (fun _ => ?_)
          clear hK K
          try simp only [Act.put, List.setIfInBounds_toArray, List.set_cons_zero, List.set_cons_succ]
          obtain rfl := off_one Ha.out Hb.out
          have hee : (ra == ra) = true := by simp
          clear Ha Hb
          refine takeD (i := 10) (v := ?v18) (some 37) rfl (by kernel_rfl) (by kernel_rfl) (by kernel_rfl) (fun _ _ _ h => h) (Or.inl ⟨by rfl, ?hy18⟩) (by assumption) (by rfl) ?rest18
          case hy18 => first | (intro w hSw; (try dsimp only at hSw); go_simp; done) | (intro w hSw; (try dsimp only at hSw); go_simp; with_reducible rfl)
          try simp only [Act.put, List.setIfInBounds_toArray, List.set_cons_zero, List.set_cons_succ]
          refine takeD (i := 11) (v := ?v19) (some 38) rfl (by kernel_rfl) (by kernel_rfl) (by kernel_rfl) (fun _ _ _ h => h) (Or.inl ⟨by rfl, ?hy19⟩) (by assumption) (by rfl) ?rest19
          case hy19 => first | (intro w hSw; (try dsimp only at hSw); go_simp; done) | (intro w hSw; (try dsimp only at hSw); go_simp; with_reducible rfl)
          try simp only [Act.put, List.setIfInBounds_toArray, List.set_cons_zero, List.set_cons_succ]
          refine takeD (i := 12) (v := ?v20) (some 2) rfl (by kernel_rfl) (by kernel_rfl) (by kernel_rfl) (fun _ _ _ h => h) (Or.inl ⟨by rfl, ?hy20⟩) (by assumption) (by rfl) ?rest20
          case hy20 => first | (intro w hSw; (try dsimp only at hSw); go_simp; done) | (intro w hSw; (try dsimp only at hSw); go_simp; with_reducible rfl)
          try simp only [Act.put, List.setIfInBounds_toArray, List.set_cons_zero, List.set_cons_succ]
          refine wpAnyH_done (by kernel_rfl) ?_ _
          have KX := hide (bafter KBL.out hSb.2.2 (Nat.le_refl _))
          clear hSb
          go_wp2
          go_ret
          exact ⟨rfl, KX.out⟩
    · have hll' : (L.length : Int) > 50 := by omega
      go_wp2_with fail
      refine (lettered_calls _ (HK.out.below KB.out)).mono ?_
      rintro e W1 ⟨rfl, hb1⟩
      have KB1 := hide (bafter KB.out hb1 (Nat.le_refl _))
      clear hb1
      go_wp2
      go_ret
      exact ⟨rfl, KB1.out⟩
  · have hl' : (T.length : Int) > 400 := by omega
    go_wp2_with fail
    refine (lettered_calls _ (HK.out.below KB.out)).mono ?_
    rintro e W1 ⟨rfl, hb1⟩
    have KB1 := hide (bafter KB.out hb1 (Nat.le_refl _))
    clear hb1
    go_wp2
    go_ret
    exact ⟨rfl, KB1.out⟩

end Go.Proofs.YtchpnbcagbjnnaaDoor
