/- Positions of a document's bytes: as the program tells them, and as the reference does. -/
import Derived.Test.YtjkfnplmnoghlaaDoorTRPlace
import Derived.Test.YtjkfnplmnoghlaaDoorTOpen
namespace Go.Proofs.YtjkfnplmnoghlaaDoor
set_option linter.unusedVariables false
set_option linter.unusedSimpArgs false
set_option maxRecDepth 100000
open Go Go.RowKit Go.Shelf Go.Lib

theorem rline_line {T : List Nat} {a : Int} {i i' : Nat} (h : RLine (linesL T) a i) (h' : LineOf (linesL T) a i') (ha : 0 ≤ a) : i = i' := by
  obtain ⟨h1, h2, h3⟩ := h
  obtain ⟨g1, g2, g3⟩ := h'
  have hr := (linesTo_spec T T.length).1
  have hr' : ∀ i j, i < j → j < (linesL T).length → nthI (linesL T) i < nthI (linesL T) j := hr
  rcases Nat.lt_trichotomy i i' with g | g | g
  · exfalso
    have hi' : i' < (linesL T).length := by rcases g1 with q | q <;> omega
    have k1 := h3 (by omega)
    have k2 := g2 (by omega)
    rcases Nat.eq_or_lt_of_le (show i + 1 ≤ i' by omega) with q | q
    · rw [q] at k1; omega
    · have := hr' (i + 1) i' q hi'; omega
  · exact g
  · exfalso
    have k1 := g3 i g h1
    have k2 := h2 (by omega)
    omega

/-- The two are the same. -/
theorem place_same {T : List Nat} {N : Nat} (hT : ∀ x ∈ T, x < 256) (h1 : ∀ k, k < N → posL T k < T.length) (h2 : posL T N = T.length) (hv : AllLet T N) {at' ln un ln' un' : Int}
    (h : PlaceR T (linesL T) at' ln un) (h' : RPlaceR T (linesL T) at' ln' un') : ln = ln' ∧ un = un' := by
  rcases h with ⟨h, _⟩ | ⟨a, i, f, en, M, k, _, ha, hl, rfl, hc, hE, n1, n2, hk, k1, k2, rfl⟩
  · have := (linesTo_pos T T.length).1
    unfold linesL at h
    rw [h] at this
    simp at this
  obtain ⟨a', i', f', en', M', k', ha', hl', rfl, hc', hf', hE', m1, m2, hk', q1, q2, rfl⟩ := h'
  obtain rfl : a = a' := by omega
  obtain rfl : i' = i := rline_line hl' hl (by omega)
  obtain rfl : f = f' := by omega
  obtain rfl := isEnd_one hE hE'
  have haT : a ≤ T.length := by obtain ⟨a2, e, hle⟩ := clamp_nat at' T.length; omega
  obtain ⟨f0, ef, hi, hfa, hfl, hf0, hno⟩ := line_at hl haT
  rw [ef, clamp_in hfl] at hc
  obtain rfl : f0 = f := by omega
  obtain ⟨j0, hj0, ej0⟩ : ∃ j0, j0 ≤ N ∧ posL T j0 = f0 := by
    rcases hf0 with g | g
    · exact ⟨0, Nat.zero_le _, g.symm⟩
    · by_cases g0 : f0 = 0
      · exact ⟨0, Nat.zero_le _, g0.symm⟩
      · obtain ⟨q, hq, _, e⟩ := end_letter hT h1 h2 (p := f0 - 1) (by omega) (brk_byte g)
        exact ⟨q + 1, by omega, by omega⟩
  obtain ⟨je, hje, eje⟩ : ∃ je, je ≤ N ∧ posL T je = en := by
    by_cases g : en < T.length
    · obtain ⟨q, hq, e, _⟩ := end_letter hT h1 h2 g (hE.2.2.2 g)
      exact ⟨q, by omega, e⟩
    · exact ⟨N, Nat.le_refl _, by have := hE.2.1; omega⟩
  subst ej0 eje
  have h0e : j0 ≤ je := pos_le_iff hT h1 hj0 hje hE.1
  have hlet := line_letters hT h1 h2 hv h0e hje
  have hlet2 := line_letters hT h1 h2 hv hj0 (Nat.le_refl N)
  have hdr : lineL T (posL T j0) (posL T N) = T.drop (posL T j0) := by
    unfold lineL
    rw [h2]
    exact List.take_of_length_le (by simp)
  rw [hdr] at hlet2
  have hll := lineL_length hE.1 hE.2.1
  have hM : M = je - j0 := by
    have e := (hlet (je - j0) (by omega)).1
    rw [show j0 + (je - j0) = je by omega] at e
    rcases Nat.lt_trichotomy M (je - j0) with g | g | g
    · have e2 := (hlet M (by omega)).1
      have := pos_mono hT h1 (show j0 + M < je by omega) hje
      omega
    · exact g
    · have := n1 (je - j0) g
      omega
  have hM' : M' = N - j0 := by
    have hdl : (T.drop (posL T j0)).length = T.length - posL T j0 := by simp
    have e := (hlet2 (N - j0) (by omega)).1
    rw [show j0 + (N - j0) = N by omega] at e
    rcases Nat.lt_trichotomy M' (N - j0) with g | g | g
    · have e2 := (hlet2 M' (by omega)).1
      have := h1 (j0 + M') (by omega)
      omega
    · exact g
    · have := m1 (N - j0) g
      omega
  have hmle : ∀ {x y : Nat}, x ≤ y → y ≤ N → posL T x ≤ posL T y := fun {x y} hxy hy => by
    rcases Nat.eq_or_lt_of_le hxy with g | g
    · rw [g]; exact Nat.le_refl _
    · exact Nat.le_of_lt (pos_mono hT h1 g hy)
  have hkk : k = k' := by
    rcases Nat.lt_trichotomy k k' with g | g | g
    · exfalso
      have hq := q1 k g
      rw [← (hlet2 (k + 1) (by omega)).1] at hq
      have hke : k < M := by
        refine Nat.lt_of_not_le fun hge => ?_
        have : je < j0 + (k + 1) := by omega
        have := pos_mono hT h1 this (by omega)
        omega
      have hq2 := k2 hke
      rw [← (hlet (k + 1) (by omega)).1] at hq2
      omega
    · exact g
    · exfalso
      have hq := k1 k' g
      rw [← (hlet (k' + 1) (by omega)).1] at hq
      have hq2 := q2 (by omega)
      rw [← (hlet2 (k' + 1) (by omega)).1] at hq2
      have := hmle (show j0 + (k' + 1) ≤ je by omega) hje
      omega
  subst hkk
  refine ⟨rfl, ?_⟩
  have e1 := (hlet k (by omega)).2
  have e2 := (hlet2 k (by omega)).2
  omega

set_option maxHeartbeats 8000000 in
theorem doffset_calls (w : World) (D : Nat) (ver : Int) (T : List Nat) (E : List Ed) (p u : Int) (h : DocIs w D ver T E) (hK : Know w) (hlen : T.length ≤ 1000000000) :
    Calls Tryd.prog 19 #[.pointer (some ⟨D, 0, none⟩), .agg #[.int .i64 p, .int .i64 u]] w fun e w' => ∃ r : Int, e = .returned (.int .i64 r) ∧ OffR T (linesL T) p u r ∧ Below w.heap.size w w' := by
  obtain ⟨ao, c, lo, ln, lc, eo, ec, h1, h2, h3, h4, h5, h6, h7, h8⟩ := h
  have H1 := hide h1
  have H2 := hide h2
  have HK := hide hK
  have lD : D < w.heap.size := BoxC.lt h1
  clear h1 h2 h3 h4 h5 h6 h7 h8 hK
  obtain ⟨W1, hW1⟩ : ∃ W1, w.alloc (.cells #[.int .i64 p, .int .i64 u] 49) = W1 := ⟨_, rfl⟩
  have k1 : Below w.heap.size w W1 := by rw [← hW1]; exact bel _ _
  have x1 : BoxC W1 w.heap.size 49 #[.int .i64 p, .int .i64 u] := by rw [← hW1]; exact BoxC.new _ _ _
  have HW1 := hide hW1
  have K1 := hide k1
  have X1 := hide x1
  have G1 := hide (BoxC.below H1.out k1)
  have HSS : Hid (∀ Y : World, BoxC Y D 43 #[.int .i64 ver, .slice ao T.length c, .slice lo ln lc, .slice eo E.length ec] → BoxC Y w.heap.size 49 #[.int .i64 p, .int .i64 u] → (fun X' : World => X'.cell? ⟨D, 1, none⟩ = some (.slice ao T.length c) ∧ X'.cell? ⟨D, 2, none⟩ = some (.slice lo ln lc) ∧ X'.cell? ⟨w.heap.size, 0, none⟩ = some (.int .i64 p) ∧ X'.cell? ⟨w.heap.size, 1, none⟩ = some (.int .i64 u)) Y) := fun Y k1 k2 => ⟨k1.cell 1, k1.cell 2, k2.cell 0, k2.cell 1⟩
  clear hW1 k1 x1
  go_enter Tryd.func19, Tryd.ntmps19
  go_upto_region 3 with fail
  rw [HW1.out]
  clear HW1
  refine wp_region_held_drew (S := fun X' : World => X'.cell? ⟨D, 1, none⟩ = some (.slice ao T.length c) ∧ X'.cell? ⟨D, 2, none⟩ = some (.slice lo ln lc) ∧ X'.cell? ⟨w.heap.size, 0, none⟩ = some (.int .i64 p) ∧ X'.cell? ⟨w.heap.size, 1, none⟩ = some (.int .i64 u)) (by kernel_rfl) (HSS.out _ G1.out X1.out) (fun hHeld => ?_)
  refine takeD (i := 0) (v := ?v1) (some 7) rfl (by kernel_rfl) (by kernel_rfl) (by kernel_rfl) (fun _ _ _ h => h) (Or.inl ⟨by rfl, ?hy1⟩) (by assumption) (by rfl) ?rest1
  case hy1 => first | (intro w hSw; (try dsimp only at hSw); obtain ⟨q0, q1, q2, q3⟩ := hSw; go_simp; done) | (intro w hSw; (try dsimp only at hSw); obtain ⟨q0, q1, q2, q3⟩ := hSw; go_simp; with_reducible rfl)
  try simp only [Act.put, List.setIfInBounds_toArray, List.set_cons_zero, List.set_cons_succ]
  refine takeD (i := 1) (v := ?v2) (some 8) rfl (by kernel_rfl) (by kernel_rfl) (by kernel_rfl) (fun _ _ _ h => h) (Or.inl ⟨by rfl, ?hy2⟩) (by assumption) (by rfl) ?rest2
  case hy2 => first | (intro w hSw; (try dsimp only at hSw); obtain ⟨q0, q1, q2, q3⟩ := hSw; go_simp; done) | (intro w hSw; (try dsimp only at hSw); obtain ⟨q0, q1, q2, q3⟩ := hSw; go_simp; with_reducible rfl)
  try simp only [Act.put, List.setIfInBounds_toArray, List.set_cons_zero, List.set_cons_succ]
  refine takeD (i := 2) (v := ?v3) (some 9) rfl (by kernel_rfl) (by kernel_rfl) (by kernel_rfl) (fun _ _ _ h => h) (Or.inl ⟨by rfl, ?hy3⟩) (by assumption) (by rfl) ?rest3
  case hy3 => first | (intro w hSw; (try dsimp only at hSw); obtain ⟨q0, q1, q2, q3⟩ := hSw; go_simp; done) | (intro w hSw; (try dsimp only at hSw); obtain ⟨q0, q1, q2, q3⟩ := hSw; go_simp; with_reducible rfl)
  try simp only [Act.put, List.setIfInBounds_toArray, List.set_cons_zero, List.set_cons_succ]
  refine takeD (i := 3) (v := ?v4) (some 10) rfl (by kernel_rfl) (by kernel_rfl) (by kernel_rfl) (fun _ _ _ h => h) (Or.inl ⟨by rfl, ?hy4⟩) (by assumption) (by rfl) ?rest4
  case hy4 => first | (intro w hSw; (try dsimp only at hSw); obtain ⟨q0, q1, q2, q3⟩ := hSw; go_simp; done) | (intro w hSw; (try dsimp only at hSw); obtain ⟨q0, q1, q2, q3⟩ := hSw; go_simp; with_reducible rfl)
  try simp only [Act.put, List.setIfInBounds_toArray, List.set_cons_zero, List.set_cons_succ]
  refine takeD (i := 4) (v := ?v5) (some 11) rfl (by kernel_rfl) (by kernel_rfl) (by kernel_rfl) (fun _ _ _ h => h) (Or.inl ⟨by rfl, ?hy5⟩) (by assumption) (by rfl) ?rest5
  case hy5 => first | (intro w hSw; (try dsimp only at hSw); obtain ⟨q0, q1, q2, q3⟩ := hSw; go_simp; done) | (intro w hSw; (try dsimp only at hSw); obtain ⟨q0, q1, q2, q3⟩ := hSw; go_simp; with_reducible rfl)
  try simp only [Act.put, List.setIfInBounds_toArray, List.set_cons_zero, List.set_cons_succ]
  refine wpAnyH_ready (rs := [5]) (by kernel_rfl) (by simp) ?_
  refine AllReadyH.cons rfl (fun K hK => ?_) AllReadyH.nil
  go_simp
  refine (boffset_calls _ ao c lo ln lc T p u (H2.out.below K1.out.drew) (HK.out.below K1.out.drew) hlen).mono ?_
  rintro e w2 ⟨r, rfl, hr, hb2⟩
  have HR := hide hr
  have HB2 := hide (show Below w.heap.size w w2 from bafter K1.out.drew hb2 (Nat.le_refl _))
  have hq := HSS.out w2 (BoxC.below (W := W1.drew) G1.out hb2) (BoxC.below (W := W1.drew) X1.out hb2)
  clear hr hb2
  go_wp2_with fail
  refine hK.out _ _ hq (fun _ => ?_)
  clear hK K
  try simp only [Act.put, List.setIfInBounds_toArray, List.set_cons_zero, List.set_cons_succ]
  refine wpAnyH_ready (rs := [6]) (by kernel_rfl) (by simp) ?_
  refine AllReadyH.cons rfl (fun K hK => ?_) AllReadyH.nil
  go_simp
  refine hK.out _ _ hq (fun _ => ?_)
  clear hK K
  try simp only [Act.put, List.setIfInBounds_toArray, List.set_cons_zero, List.set_cons_succ]
  refine wpAnyH_done (by kernel_rfl) ?_ _
  go_wp2
  go_ret
  exact ⟨r, rfl, HR.out, HB2.out⟩

set_option maxHeartbeats 8000000 in
theorem dplace_calls (w : World) (D : Nat) (ver : Int) (T : List Nat) (E : List Ed) (at' : Int) (h : DocIs w D ver T E) (hK : Know w) (hlen : T.length ≤ 1000000) :
    Calls Tryd.prog 20 #[.pointer (some ⟨D, 0, none⟩), .int .i64 at'] w fun e w' => ∃ p u : Int, e = .returned (.agg #[.int .i64 p, .int .i64 u]) ∧ PlaceR T (linesL T) at' p u ∧ Below w.heap.size w w' := by
  obtain ⟨ao, c, lo, ln, lc, eo, ec, h1, h2, h3, h4, h5, h6, h7, h8⟩ := h
  have H1 := hide h1
  have H2 := hide h2
  have HK := hide hK
  have lD : D < w.heap.size := BoxC.lt h1
  clear h1 h2 h3 h4 h5 h6 h7 h8 hK
  obtain ⟨W1, hW1⟩ : ∃ W1, w.alloc (.cells #[.int .i64 0, .int .i64 0] 49) = W1 := ⟨_, rfl⟩
  have k1 : Below w.heap.size w W1 := by rw [← hW1]; exact bel _ _
  have x1 : BoxC W1 w.heap.size 49 #[.int .i64 0, .int .i64 0] := by rw [← hW1]; exact BoxC.new _ _ _
  have HW1 := hide hW1
  have K1 := hide k1
  have X1 := hide x1
  have G1 := hide (BoxC.below H1.out k1)
  have HSS : Hid (∀ Y : World, BoxC Y D 43 #[.int .i64 ver, .slice ao T.length c, .slice lo ln lc, .slice eo E.length ec] → (fun X' : World => X'.cell? ⟨D, 1, none⟩ = some (.slice ao T.length c) ∧ X'.cell? ⟨D, 2, none⟩ = some (.slice lo ln lc)) Y) := fun Y k1 => ⟨k1.cell 1, k1.cell 2⟩
  have HLL := hide (show (linesL T).length ≤ 1000000001 from Nat.le_trans (linesTo_length T T.length) (by omega))
  clear hW1 k1 x1
  go_enter Tryd.func20, Tryd.ntmps20
  go_upto_region 3 with fail
  rw [HW1.out]
  clear HW1
  refine wp_region_held_drew (S := fun X' : World => X'.cell? ⟨D, 1, none⟩ = some (.slice ao T.length c) ∧ X'.cell? ⟨D, 2, none⟩ = some (.slice lo ln lc)) (by kernel_rfl) (HSS.out _ G1.out) (fun hHeld => ?_)
  refine takeD (i := 0) (v := ?v6) (some 8) rfl (by kernel_rfl) (by kernel_rfl) (by kernel_rfl) (fun _ _ _ h => h) (Or.inl ⟨by rfl, ?hy6⟩) (by assumption) (by rfl) ?rest6
  case hy6 => first | (intro w hSw; (try dsimp only at hSw); obtain ⟨q0, q1⟩ := hSw; go_simp; done) | (intro w hSw; (try dsimp only at hSw); obtain ⟨q0, q1⟩ := hSw; go_simp; with_reducible rfl)
  try simp only [Act.put, List.setIfInBounds_toArray, List.set_cons_zero, List.set_cons_succ]
  refine takeD (i := 1) (v := ?v7) (some 9) rfl (by kernel_rfl) (by kernel_rfl) (by kernel_rfl) (fun _ _ _ h => h) (Or.inl ⟨by rfl, ?hy7⟩) (by assumption) (by rfl) ?rest7
  case hy7 => first | (intro w hSw; (try dsimp only at hSw); obtain ⟨q0, q1⟩ := hSw; go_simp; done) | (intro w hSw; (try dsimp only at hSw); obtain ⟨q0, q1⟩ := hSw; go_simp; with_reducible rfl)
  try simp only [Act.put, List.setIfInBounds_toArray, List.set_cons_zero, List.set_cons_succ]
  refine takeD (i := 2) (v := ?v8) (some 10) rfl (by kernel_rfl) (by kernel_rfl) (by kernel_rfl) (fun _ _ _ h => h) (Or.inl ⟨by rfl, ?hy8⟩) (by assumption) (by rfl) ?rest8
  case hy8 => first | (intro w hSw; (try dsimp only at hSw); obtain ⟨q0, q1⟩ := hSw; go_simp; done) | (intro w hSw; (try dsimp only at hSw); obtain ⟨q0, q1⟩ := hSw; go_simp; with_reducible rfl)
  try simp only [Act.put, List.setIfInBounds_toArray, List.set_cons_zero, List.set_cons_succ]
  refine takeD (i := 3) (v := ?v9) (some 11) rfl (by kernel_rfl) (by kernel_rfl) (by kernel_rfl) (fun _ _ _ h => h) (Or.inl ⟨by rfl, ?hy9⟩) (by assumption) (by rfl) ?rest9
  case hy9 => first | (intro w hSw; (try dsimp only at hSw); obtain ⟨q0, q1⟩ := hSw; go_simp; done) | (intro w hSw; (try dsimp only at hSw); obtain ⟨q0, q1⟩ := hSw; go_simp; with_reducible rfl)
  try simp only [Act.put, List.setIfInBounds_toArray, List.set_cons_zero, List.set_cons_succ]
  refine takeD (i := 4) (v := ?v10) (some 12) rfl (by kernel_rfl) (by kernel_rfl) (by kernel_rfl) (fun _ _ _ h => h) (Or.inl ⟨by rfl, ?hy10⟩) (by assumption) (by rfl) ?rest10
  case hy10 => first | (intro w hSw; (try dsimp only at hSw); obtain ⟨q0, q1⟩ := hSw; go_simp; done) | (intro w hSw; (try dsimp only at hSw); obtain ⟨q0, q1⟩ := hSw; go_simp; with_reducible rfl)
  try simp only [Act.put, List.setIfInBounds_toArray, List.set_cons_zero, List.set_cons_succ]
  refine takeD (i := 5) (v := ?v11) (some 13) rfl (by kernel_rfl) (by kernel_rfl) (by kernel_rfl) (fun _ _ _ h => h) (Or.inl ⟨by rfl, ?hy11⟩) (by assumption) (by rfl) ?rest11
  case hy11 => first | (intro w hSw; (try dsimp only at hSw); obtain ⟨q0, q1⟩ := hSw; go_simp; done) | (intro w hSw; (try dsimp only at hSw); obtain ⟨q0, q1⟩ := hSw; go_simp; with_reducible rfl)
  try simp only [Act.put, List.setIfInBounds_toArray, List.set_cons_zero, List.set_cons_succ]
  refine takeD (i := 6) (v := ?v12) (some 14) rfl (by kernel_rfl) (by kernel_rfl) (by kernel_rfl) (fun _ _ _ h => h) (Or.inl ⟨by rfl, ?hy12⟩) (by assumption) (by rfl) ?rest12
  case hy12 => first | (intro w hSw; (try dsimp only at hSw); obtain ⟨q0, q1⟩ := hSw; go_simp; done) | (intro w hSw; (try dsimp only at hSw); obtain ⟨q0, q1⟩ := hSw; go_simp; with_reducible rfl)
  try simp only [Act.put, List.setIfInBounds_toArray, List.set_cons_zero, List.set_cons_succ]
  refine takeD (i := 7) (v := ?v13) (some 15) rfl (by kernel_rfl) (by kernel_rfl) (by kernel_rfl) (fun _ _ _ h => h) (Or.inl ⟨by rfl, ?hy13⟩) (by assumption) (by rfl) ?rest13
  case hy13 => first | (intro w hSw; (try dsimp only at hSw); obtain ⟨q0, q1⟩ := hSw; go_simp; done) | (intro w hSw; (try dsimp only at hSw); obtain ⟨q0, q1⟩ := hSw; go_simp; with_reducible rfl)
  try simp only [Act.put, List.setIfInBounds_toArray, List.set_cons_zero, List.set_cons_succ]
  refine takeD (i := 8) (v := ?v14) (some 16) rfl (by kernel_rfl) (by kernel_rfl) (by kernel_rfl) (fun _ _ _ h => h) (Or.inl ⟨by rfl, ?hy14⟩) (by assumption) (by rfl) ?rest14
  case hy14 => first | (intro w hSw; (try dsimp only at hSw); obtain ⟨q0, q1⟩ := hSw; go_simp; done) | (intro w hSw; (try dsimp only at hSw); obtain ⟨q0, q1⟩ := hSw; go_simp; with_reducible rfl)
  try simp only [Act.put, List.setIfInBounds_toArray, List.set_cons_zero, List.set_cons_succ]
  refine takeD (i := 9) (v := ?v15) (some 17) rfl (by kernel_rfl) (by kernel_rfl) (by kernel_rfl) (fun _ _ _ h => h) (Or.inl ⟨by rfl, ?hy15⟩) (by assumption) (by rfl) ?rest15
  case hy15 => first | (intro w hSw; (try dsimp only at hSw); obtain ⟨q0, q1⟩ := hSw; go_simp; done) | (intro w hSw; (try dsimp only at hSw); obtain ⟨q0, q1⟩ := hSw; go_simp; with_reducible rfl)
  try simp only [Act.put, List.setIfInBounds_toArray, List.set_cons_zero, List.set_cons_succ]
  refine takeD (i := 10) (v := ?v16) (some 18) rfl (by kernel_rfl) (by kernel_rfl) (by kernel_rfl) (fun _ _ _ h => h) (Or.inl ⟨by rfl, ?hy16⟩) (by assumption) (by rfl) ?rest16
  case hy16 => first | (intro w hSw; (try dsimp only at hSw); obtain ⟨q0, q1⟩ := hSw; go_simp; done) | (intro w hSw; (try dsimp only at hSw); obtain ⟨q0, q1⟩ := hSw; go_simp; with_reducible rfl)
  try simp only [Act.put, List.setIfInBounds_toArray, List.set_cons_zero, List.set_cons_succ]
  refine wpAnyH_ready (rs := [11]) (by kernel_rfl) (by simp) ?_
  refine AllReadyH.cons rfl (fun K hK => ?_) AllReadyH.nil
  go_simp
  refine (place_calls _ ao c T _ (linesL T) at' (H2.out.below K1.out.drew).1 (H2.out.below K1.out.drew).2 (HK.out.below K1.out.drew) (by omega) HLL.out).mono ?_
  rintro e w2 ⟨p, u, rfl, hr, hb2⟩
  have HR := hide hr
  have HB2 := hide (show Below w.heap.size w w2 from bafter K1.out.drew hb2 (Nat.le_refl _))
  have G2 := hide (BoxC.below (W := W1.drew) G1.out hb2)
  have X2 := hide (BoxC.below (W := W1.drew) X1.out hb2)
  clear hr hb2
  go_wp2_with fail
  refine hK.out _ _ (HSS.out _ G2.out) (fun _ => ?_)
  clear hK K
  try simp only [Act.put, List.setIfInBounds_toArray, List.set_cons_zero, List.set_cons_succ]
  refine wpAnyH_ready (rs := [12]) (by kernel_rfl) (by simp) ?_
  refine AllReadyH.cons rfl (fun K hK => ?_) AllReadyH.nil
  have t0 : w2.cell? ⟨w.heap.size, 0, none⟩ = some (.int .i64 0) := X2.out.cell 0
  have t1 : w2.cell? ⟨w.heap.size, 1, none⟩ = some (.int .i64 0) := X2.out.cell 1
  have t2 := X2.out.frozen 0
  have t3 := X2.out.frozen 1
  have t4 := X2.out.lt
  go_simp
  have ne0 : D ≠ w.heap.size := by omega
  refine hK.out _ _ (HSS.out _ ((G2.out.other ne0 0 _).other ne0 1 _)) (fun _ => ?_)
  clear hK K
  try simp only [Act.put, List.setIfInBounds_toArray, List.set_cons_zero, List.set_cons_succ]
  refine wpAnyH_done (by kernel_rfl) ?_ _
  clear t0 t1 t2 t3 t4
  go_wp2
  refine bodyPost_ret (results_pos2 rfl rfl ((X2.out.set 0 _).set 1 _)) rfl ?_
  exact ⟨p, u, rfl, HR.out, (HB2.out.setCell (p := ⟨w.heap.size, 0, none⟩) (Nat.le_refl _) _).setCell (p := ⟨w.heap.size, 1, none⟩) (Nat.le_refl _) _⟩

end Go.Proofs.YtjkfnplmnoghlaaDoor
