/- Json: JsonEquals, over trees that lie in memory. -/
import Derived.Test.YtkobgfibkoamjaaDoorJRefl
namespace Go.Proofs.YtkobgfibkoamjaaDoor
set_option linter.unusedVariables false
set_option linter.unusedSimpArgs false
set_option maxRecDepth 100000
open Go Go.RowKit Go.Shelf Go.Lib

set_option maxHeartbeats 16000000 in
theorem jequals_any {w : World} {S S' : Nat → Prop} {x y : JC} {T T' : JT} (hU : Utf8Tabs 2 3 w) (hx : TIn w S x T) (hy : TIn w S' y T') : Calls Tryd.prog 7 #[vagg x, vagg y] w fun e w' => e = .returned (.bool true) ∧ Below w.heap.size w w' := by
  obtain ⟨hs2, hs3⟩ := hx.sl
  obtain ⟨hs4, hs5⟩ := hy.sl
  obtain ⟨k, s, kv, lv⟩ := x
  obtain ⟨k', s', kv', lv'⟩ := y
  obtain ⟨ka, kn, kc, rfl⟩ := hs2
  obtain ⟨la, ln, lc, rfl⟩ := hs3
  obtain ⟨ka', kn', kc', rfl⟩ := hs4
  obtain ⟨la', ln', lc', rfl⟩ := hs5
  have hb : Below w.heap.size w ((w.alloc (.cells #[.int .i64 k, .string s, .slice ka kn kc, .slice la ln lc] 27)).alloc (.cells #[.int .i64 k', .string s', .slice ka' kn' kc', .slice la' ln' lc'] 27)) := (bel w _).alloc (by simp) _
  have hp := (BoxC.new w 27 #[.int .i64 k, .string s, .slice ka kn kc, .slice la ln lc]).alloc (.cells #[.int .i64 k', .string s', .slice ka' kn' kc', .slice la' ln' lc'] 27)
  have hq := BoxC.new (w.alloc (.cells #[.int .i64 k, .string s, .slice ka kn kc, .slice la ln lc] 27)) 27 #[.int .i64 k', .string s', .slice ka' kn' kc', .slice la' ln' lc']
  rw [World.size_alloc] at hq
  generalize hw0 : (w.alloc (.cells #[.int .i64 k, .string s, .slice ka kn kc, .slice la ln lc] 27)).alloc (.cells #[.int .i64 k', .string s', .slice ka' kn' kc', .slice la' ln' lc'] 27) = w0 at *
  have HW0 := hide hw0
  have HX := hide (hx.bel hb)
  have HY := hide (hy.bel hb)
  have HB1 := hide hb
  have HS : Hid (∀ X0 : World, Below w0.heap.size w0 X0 → (X0.cell? ⟨w.heap.size, 0, none⟩ = some (.int .i64 k) ∧ X0.cell? ⟨w.heap.size, 1, none⟩ = some (.string s) ∧ X0.cell? ⟨w.heap.size, 2, none⟩ = some (.slice ka kn kc) ∧ X0.cell? ⟨w.heap.size, 3, none⟩ = some (.slice la ln lc) ∧ X0.cell? ⟨w.heap.size + 1, 0, none⟩ = some (.int .i64 k') ∧ X0.cell? ⟨w.heap.size + 1, 1, none⟩ = some (.string s') ∧ X0.cell? ⟨w.heap.size + 1, 2, none⟩ = some (.slice ka' kn' kc') ∧ X0.cell? ⟨w.heap.size + 1, 3, none⟩ = some (.slice la' ln' lc'))) := fun X0 h => ⟨(hp.below h).cell 0, (hp.below h).cell 1, (hp.below h).cell 2, (hp.below h).cell 3, (hq.below h).cell 0, (hq.below h).cell 1, (hq.below h).cell 2, (hq.below h).cell 3⟩
  have HWR := hide (fun w2 (h2 : Below w0.heap.size w0 w2) => written_calls w2 (Utf8Tabs_below hU (hb.trans (h2.mono hb.size))))
  have HFX := hide (fun w2 (h2 : Below w0.heap.size w0 w2) => few_any HX.out w2 h2)
  have HFY := hide (fun w2 (h2 : Below w0.heap.size w0 w2) => few_any HY.out w2 h2)
  unfold vagg at HFX HFY ⊢
  simp only at HFX HFY ⊢
  obtain ⟨v0, v1, v2, v3, u0, u1, u2, u3⟩ := HS.out _ (Below.refl _ _)
  clear hw0 hp hq hb hx hy hU
  go_enter Tryd.func7, Tryd.ntmps7
  go_upto_region 1 with fail
  rw [HW0.out]
  clear HW0
  go_wp2_with fail
  refine (HFX.out w0 (Below.refl _ _)).mono ?_
  rintro e w1 ⟨b, rfl, hlt, hb1⟩
  have HB := hide hb1
  have HLT := hide hlt
  clear hb1 hlt HFX v0 v1 v2 v3 u0 u1 u2 u3
  obtain ⟨v0, v1, v2, v3, u0, u1, u2, u3⟩ := HS.out _ HB.out
  cases b
  · go_wp2_with fail
    refine (HWR.out w1 HB.out).mono ?_
    rintro e w9 ⟨rfl, hb9⟩
    have HB9 := hide (HB.out.trans (hb9.mono HB.out.size))
    clear hb9 v0 v1 v2 v3 u0 u1 u2 u3
    go_wp2
    go_ret
    exact ⟨rfl, HB1.out.trans (HB9.out.mono HB1.out.size)⟩
  have HLA := hide (HLT.out rfl)
  clear HLT
  go_wp2_with fail
  refine (HFY.out w1 HB.out).mono ?_
  rintro e w2 ⟨b, rfl, hlt, hb9⟩
  have HB9 := hide (HB.out.trans (hb9.mono HB.out.size))
  have HLU := hide hlt
  clear hlt HFY v0 v1 v2 v3 u0 u1 u2 u3 HB hb9
  rename Hid (Below _ _ w2) => HB
  obtain ⟨v0, v1, v2, v3, u0, u1, u2, u3⟩ := HS.out _ HB.out
  cases b
  · go_wp2_with fail
    refine (HWR.out w2 HB.out).mono ?_
    rintro e w9 ⟨rfl, hb9⟩
    have HB9 := hide (HB.out.trans (hb9.mono HB.out.size))
    clear hb9 v0 v1 v2 v3 u0 u1 u2 u3
    go_wp2
    go_ret
    exact ⟨rfl, HB1.out.trans (HB9.out.mono HB1.out.size)⟩
  have HLB := hide (HLU.out rfl)
  clear HLU
  go_upto_region 3 with fail
  clear v0 v1 v2 v3 u0 u1 u2 u3
  refine wp_region_held_drew (S := fun X0 : World => X0.cell? ⟨w.heap.size, 0, none⟩ = some (.int .i64 k) ∧ X0.cell? ⟨w.heap.size, 1, none⟩ = some (.string s) ∧ X0.cell? ⟨w.heap.size, 2, none⟩ = some (.slice ka kn kc) ∧ X0.cell? ⟨w.heap.size, 3, none⟩ = some (.slice la ln lc) ∧ X0.cell? ⟨w.heap.size + 1, 0, none⟩ = some (.int .i64 k') ∧ X0.cell? ⟨w.heap.size + 1, 1, none⟩ = some (.string s') ∧ X0.cell? ⟨w.heap.size + 1, 2, none⟩ = some (.slice ka' kn' kc') ∧ X0.cell? ⟨w.heap.size + 1, 3, none⟩ = some (.slice la' ln' lc')) (by kernel_rfl) (HS.out _ HB.out.drew) (fun hHeld => ?_)
  have HBD : Hid (Below w0.heap.size w0 w2.drew) := HB.out.drew
  generalize w2.drew = wd at *
  clear HB
  rename Hid (Below _ _ wd) => HB
  refine wpAnyH_ready (rs := [0]) (by kernel_rfl) (by simp) ?_
  refine AllReadyH.cons rfl (fun K9 hK => ?_) AllReadyH.nil
  go_simp
  have hcall := HWR.out wd HB.out
  try unfold vagg at hcall
  try simp only at hcall
  refine hcall.mono ?_
  rintro e w3 ⟨rfl, hb9⟩
  have HB9 := hide (HB.out.trans (hb9.mono HB.out.size))
  clear hcall
  refine hK.out _ _ (HS.out _ HB9.out) (fun _ => ?_)
  clear hK K9 hb9 HB
  rename Hid (Below _ _ w3) => HB
  try simp only [Act.put, List.setIfInBounds_toArray, List.set_cons_zero, List.set_cons_succ, vagg]
  refine takeD (i := 1) (v := ?v1) (some 15) rfl (by kernel_rfl) (by kernel_rfl) (by kernel_rfl) (fun _ _ _ h => h) (Or.inl ⟨by rfl, ?hy1⟩) (HS.out _ HB.out) (by rfl) ?rest1
  case hy1 => first | (intro w hSw; (try dsimp only at hSw); obtain ⟨s0, s1, s2, s3, s4, s5, s6, s7⟩ := hSw; go_simp; done) | (intro w hSw; (try dsimp only at hSw); obtain ⟨s0, s1, s2, s3, s4, s5, s6, s7⟩ := hSw; go_simp; with_reducible rfl)
  try simp only [Act.put, List.setIfInBounds_toArray, List.set_cons_zero, List.set_cons_succ, vagg]
  refine takeD (i := 2) (v := ?v2) (some 16) rfl (by kernel_rfl) (by kernel_rfl) (by kernel_rfl) (fun _ _ _ h => h) (Or.inl ⟨by rfl, ?hy2⟩) (HS.out _ HB.out) (by rfl) ?rest2
  case hy2 => first | (intro w hSw; (try dsimp only at hSw); obtain ⟨s0, s1, s2, s3, s4, s5, s6, s7⟩ := hSw; go_simp; done) | (intro w hSw; (try dsimp only at hSw); obtain ⟨s0, s1, s2, s3, s4, s5, s6, s7⟩ := hSw; go_simp; with_reducible rfl)
  try simp only [Act.put, List.setIfInBounds_toArray, List.set_cons_zero, List.set_cons_succ, vagg]
  refine takeD (i := 3) (v := ?v3) (some 17) rfl (by kernel_rfl) (by kernel_rfl) (by kernel_rfl) (fun _ _ _ h => h) (Or.inl ⟨by rfl, ?hy3⟩) (HS.out _ HB.out) (by rfl) ?rest3
  case hy3 => first | (intro w hSw; (try dsimp only at hSw); obtain ⟨s0, s1, s2, s3, s4, s5, s6, s7⟩ := hSw; go_simp; done) | (intro w hSw; (try dsimp only at hSw); obtain ⟨s0, s1, s2, s3, s4, s5, s6, s7⟩ := hSw; go_simp; with_reducible rfl)
  try simp only [Act.put, List.setIfInBounds_toArray, List.set_cons_zero, List.set_cons_succ, vagg]
  refine takeD (i := 5) (v := ?v4) (some 19) rfl (by kernel_rfl) (by kernel_rfl) (by kernel_rfl) (fun _ _ _ h => h) (Or.inl ⟨by rfl, ?hy4⟩) (HS.out _ HB.out) (by rfl) ?rest4
  case hy4 => first | (intro w hSw; (try dsimp only at hSw); obtain ⟨s0, s1, s2, s3, s4, s5, s6, s7⟩ := hSw; go_simp; done) | (intro w hSw; (try dsimp only at hSw); obtain ⟨s0, s1, s2, s3, s4, s5, s6, s7⟩ := hSw; go_simp; with_reducible rfl)
  try simp only [Act.put, List.setIfInBounds_toArray, List.set_cons_zero, List.set_cons_succ, vagg]
  refine takeD (i := 7) (v := ?v5) (some 21) rfl (by kernel_rfl) (by kernel_rfl) (by kernel_rfl) (fun _ _ _ h => h) (Or.inl ⟨by rfl, ?hy5⟩) (HS.out _ HB.out) (by rfl) ?rest5
  case hy5 => first | (intro w hSw; (try dsimp only at hSw); obtain ⟨s0, s1, s2, s3, s4, s5, s6, s7⟩ := hSw; go_simp; done) | (intro w hSw; (try dsimp only at hSw); obtain ⟨s0, s1, s2, s3, s4, s5, s6, s7⟩ := hSw; go_simp; with_reducible rfl)
  try simp only [Act.put, List.setIfInBounds_toArray, List.set_cons_zero, List.set_cons_succ, vagg]
  refine wpAnyH_ready (rs := [4]) (by kernel_rfl) (by simp) ?_
  refine AllReadyH.cons rfl (fun K9 hK => ?_) AllReadyH.nil
  go_simp
  have hcall := equal_any HX.out HLA.out HY.out HLB.out w3 HB.out
  try unfold vagg at hcall
  try simp only at hcall
  refine hcall.mono ?_
  rintro e w4 ⟨rfl, hb9⟩
  have HB9 := hide (HB.out.trans (hb9.mono HB.out.size))
  clear hcall
  refine hK.out _ _ (HS.out _ HB9.out) (fun _ => ?_)
  clear hK K9 hb9 HB
  rename Hid (Below _ _ w4) => HB
  try simp only [Act.put, List.setIfInBounds_toArray, List.set_cons_zero, List.set_cons_succ, vagg]
  refine wpAnyH_ready (rs := [6]) (by kernel_rfl) (by simp) ?_
  refine AllReadyH.cons rfl (fun K9 hK => ?_) AllReadyH.nil
  go_simp
  have hcall := of_any HX.out HLA.out w4 HB.out
  try unfold vagg at hcall
  try simp only at hcall
  refine hcall.mono ?_
  rintro e w5 ⟨⟨o1k, o1s, o1K, o1L⟩, rfl, hb9, hT1, ⟨o1a, o1n, o1c, h4⟩, ⟨o1d, o1e, o1f, h5⟩⟩
  have HB9 := hide (HB.out.trans (hb9.mono HB.out.size))
  simp only at h4 h5
  subst h4 h5
  have HT1 := hide hT1
  clear hT1
  clear hcall
  refine hK.out _ _ (HS.out _ HB9.out) (fun _ => ?_)
  clear hK K9 hb9 HB
  rename Hid (Below _ _ w5) => HB
  try simp only [Act.put, List.setIfInBounds_toArray, List.set_cons_zero, List.set_cons_succ, vagg]
  refine wpAnyH_ready (rs := [8]) (by kernel_rfl) (by simp) ?_
  refine AllReadyH.cons rfl (fun K9 hK => ?_) AllReadyH.nil
  go_simp
  have hcall := of_any HY.out HLB.out w5 HB.out
  try unfold vagg at hcall
  try simp only at hcall
  refine hcall.mono ?_
  rintro e w6 ⟨⟨o2k, o2s, o2K, o2L⟩, rfl, hb9, hT2, ⟨o2a, o2n, o2c, h4⟩, ⟨o2d, o2e, o2f, h5⟩⟩
  have HBO := hide hb9
  have HB9 := hide (HB.out.trans (hb9.mono HB.out.size))
  simp only at h4 h5
  subst h4 h5
  have HT2 := hide hT2
  clear hT2
  clear hcall
  refine hK.out _ _ (HS.out _ HB9.out) (fun _ => ?_)
  clear hK K9 hb9 HB
  have HT1 := hide (HT1.out.bel (show Below w5.heap.size w5 w6 from HBO.out))
  rename Hid (Below w0.heap.size _ w6) => HB
  try simp only [Act.put, List.setIfInBounds_toArray, List.set_cons_zero, List.set_cons_succ, vagg]
  refine wpAnyH_ready (rs := [9]) (by kernel_rfl) (by simp) ?_
  refine AllReadyH.cons rfl (fun K9 hK => ?_) AllReadyH.nil
  go_simp
  have hcall := requal_any HT1.out HLA.out HT2.out HLB.out w6 (Below.refl _ _)
  try unfold vagg at hcall
  try simp only at hcall
  refine hcall.mono ?_
  rintro e w7 ⟨rfl, hb9⟩
  have HB9 := hide (HB.out.trans (hb9.mono HB.out.size))
  clear hcall
  refine hK.out _ _ (HS.out _ HB9.out) (fun _ => ?_)
  clear hK K9 hb9 HB
  rename Hid (Below _ _ w7) => HB
  try simp only [Act.put, List.setIfInBounds_toArray, List.set_cons_zero, List.set_cons_succ, vagg]
  refine takeD (i := 10) (v := ?v6) (some 24) rfl (by kernel_rfl) (by kernel_rfl) (by kernel_rfl) (fun _ _ _ h => h) (Or.inl ⟨by rfl, ?hy6⟩) (HS.out _ HB.out) (by rfl) ?rest6
  case hy6 => first | (intro w hSw; (try dsimp only at hSw); obtain ⟨s0, s1, s2, s3, s4, s5, s6, s7⟩ := hSw; go_simp; done) | (intro w hSw; (try dsimp only at hSw); obtain ⟨s0, s1, s2, s3, s4, s5, s6, s7⟩ := hSw; go_simp; with_reducible rfl)
  try simp only [Act.put, List.setIfInBounds_toArray, List.set_cons_zero, List.set_cons_succ, vagg]
  refine takeD (i := 11) (v := ?v7) (some 25) rfl (by kernel_rfl) (by kernel_rfl) (by kernel_rfl) (fun _ _ _ h => h) (Or.inl ⟨by rfl, ?hy7⟩) (HS.out _ HB.out) (by rfl) ?rest7
  case hy7 => first | (intro w hSw; (try dsimp only at hSw); obtain ⟨s0, s1, s2, s3, s4, s5, s6, s7⟩ := hSw; go_simp; done) | (intro w hSw; (try dsimp only at hSw); obtain ⟨s0, s1, s2, s3, s4, s5, s6, s7⟩ := hSw; go_simp; with_reducible rfl)
  try simp only [Act.put, List.setIfInBounds_toArray, List.set_cons_zero, List.set_cons_succ, vagg]
  refine takeD (i := 12) (v := ?v8) (some 26) rfl (by kernel_rfl) (by kernel_rfl) (by kernel_rfl) (fun _ _ _ h => h) (Or.inl ⟨by rfl, ?hy8⟩) (HS.out _ HB.out) (by rfl) ?rest8
  case hy8 => first | (intro w hSw; (try dsimp only at hSw); obtain ⟨s0, s1, s2, s3, s4, s5, s6, s7⟩ := hSw; go_simp; done) | (intro w hSw; (try dsimp only at hSw); obtain ⟨s0, s1, s2, s3, s4, s5, s6, s7⟩ := hSw; go_simp; with_reducible rfl)
  try simp only [Act.put, List.setIfInBounds_toArray, List.set_cons_zero, List.set_cons_succ, vagg]
  refine takeD (i := 13) (v := ?v9) (some 27) rfl (by kernel_rfl) (by kernel_rfl) (by kernel_rfl) (fun _ _ _ h => h) (Or.inl ⟨by rfl, ?hy9⟩) (HS.out _ HB.out) (by rfl) ?rest9
  case hy9 => first | (intro w hSw; (try dsimp only at hSw); obtain ⟨s0, s1, s2, s3, s4, s5, s6, s7⟩ := hSw; go_simp; done) | (intro w hSw; (try dsimp only at hSw); obtain ⟨s0, s1, s2, s3, s4, s5, s6, s7⟩ := hSw; go_simp; with_reducible rfl)
  try simp only [Act.put, List.setIfInBounds_toArray, List.set_cons_zero, List.set_cons_succ, vagg]
  refine takeD (i := 14) (v := ?v10) (some 28) rfl (by kernel_rfl) (by kernel_rfl) (by kernel_rfl) (fun _ _ _ h => h) (Or.inl ⟨by rfl, ?hy10⟩) (HS.out _ HB.out) (by rfl) ?rest10
  case hy10 => first | (intro w hSw; (try dsimp only at hSw); obtain ⟨s0, s1, s2, s3, s4, s5, s6, s7⟩ := hSw; go_simp; done) | (intro w hSw; (try dsimp only at hSw); obtain ⟨s0, s1, s2, s3, s4, s5, s6, s7⟩ := hSw; go_simp; with_reducible rfl)
  try simp only [Act.put, List.setIfInBounds_toArray, List.set_cons_zero, List.set_cons_succ, vagg]
  refine wpAnyH_ready (rs := [15]) (by kernel_rfl) (by simp) ?_
  refine AllReadyH.cons rfl (fun K9 hK => ?_) AllReadyH.nil
  go_simp
  have hcall := of_any HX.out HLA.out w7 HB.out
  try unfold vagg at hcall
  try simp only at hcall
  refine hcall.mono ?_
  rintro e w8 ⟨⟨o3k, o3s, o3K, o3L⟩, rfl, hb9, hT3, ⟨o3a, o3n, o3c, h4⟩, ⟨o3d, o3e, o3f, h5⟩⟩
  have HB9 := hide (HB.out.trans (hb9.mono HB.out.size))
  simp only at h4 h5
  subst h4 h5
  have HT3 := hide hT3
  clear hT3
  clear hcall
  refine hK.out _ _ (HS.out _ HB9.out) (fun _ => ?_)
  clear hK K9 hb9 HB
  rename Hid (Below _ _ w8) => HB
  try simp only [Act.put, List.setIfInBounds_toArray, List.set_cons_zero, List.set_cons_succ, vagg]
  refine wpAnyH_ready (rs := [16]) (by kernel_rfl) (by simp) ?_
  refine AllReadyH.cons rfl (fun K9 hK => ?_) AllReadyH.nil
  go_simp
  have hcall := to_any HT3.out HLA.out w8 (Below.refl _ _)
  try unfold vagg at hcall
  try simp only at hcall
  refine hcall.mono ?_
  rintro e wa ⟨⟨o4k, o4s, o4K, o4L⟩, rfl, hb9, hT4, ⟨o4a, o4n, o4c, h4⟩, ⟨o4d, o4e, o4f, h5⟩⟩
  have HB9 := hide (HB.out.trans (hb9.mono HB.out.size))
  simp only at h4 h5
  subst h4 h5
  have HT4 := hide hT4
  clear hT4
  clear hcall
  refine hK.out _ _ (HS.out _ HB9.out) (fun _ => ?_)
  clear hK K9 hb9 HB
  rename Hid (Below _ _ wa) => HB
  try simp only [Act.put, List.setIfInBounds_toArray, List.set_cons_zero, List.set_cons_succ, vagg]
  refine wpAnyH_ready (rs := [17]) (by kernel_rfl) (by simp) ?_
  refine AllReadyH.cons rfl (fun K9 hK => ?_) AllReadyH.nil
  go_simp
  have hcall := equal_any (HX.out.bel HB.out) HLA.out HT4.out HLA.out wa (Below.refl _ _)
  try unfold vagg at hcall
  try simp only at hcall
  refine hcall.mono ?_
  rintro e wb ⟨rfl, hb9⟩
  have HB9 := hide (HB.out.trans (hb9.mono HB.out.size))
  clear hcall
  refine hK.out _ _ (HS.out _ HB9.out) (fun _ => ?_)
  clear hK K9 hb9 HB
  rename Hid (Below _ _ wb) => HB
  try simp only [Act.put, List.setIfInBounds_toArray, List.set_cons_zero, List.set_cons_succ, vagg]
  rw [eqJ_refl]
  refine takeD (i := 18) (v := ?v11) (some 32) rfl (by kernel_rfl) (by kernel_rfl) (by kernel_rfl) (fun _ _ _ h => h) (Or.inl ⟨by rfl, ?hy11⟩) (HS.out _ HB.out) (by rfl) ?rest11
  case hy11 => first | (intro w hSw; (try dsimp only at hSw); obtain ⟨s0, s1, s2, s3, s4, s5, s6, s7⟩ := hSw; go_simp; done) | (intro w hSw; (try dsimp only at hSw); obtain ⟨s0, s1, s2, s3, s4, s5, s6, s7⟩ := hSw; go_simp; with_reducible rfl)
  try simp only [Act.put, List.setIfInBounds_toArray, List.set_cons_zero, List.set_cons_succ, vagg]
  refine takeD (i := 19) (v := ?v12) (some 4) rfl (by kernel_rfl) (by kernel_rfl) (by kernel_rfl) (fun _ _ _ h => h) (Or.inl ⟨by rfl, ?hy12⟩) (HS.out _ HB.out) (by rfl) ?rest12
  case hy12 => first | (intro w hSw; (try dsimp only at hSw); obtain ⟨s0, s1, s2, s3, s4, s5, s6, s7⟩ := hSw; go_simp; done) | (intro w hSw; (try dsimp only at hSw); obtain ⟨s0, s1, s2, s3, s4, s5, s6, s7⟩ := hSw; go_simp; with_reducible rfl)
  try simp only [Act.put, List.setIfInBounds_toArray, List.set_cons_zero, List.set_cons_succ, vagg]
  refine wpAnyH_done (by kernel_rfl) ?_ _
  go_wp2
  go_ret
  refine ⟨?_, HB1.out.trans (HB.out.mono HB1.out.size)⟩
  simp

end Go.Proofs.YtkobgfibkoamjaaDoor
