/- Json: JsonGets, over a tree that lies in memory. -/
import Derived.Test.YtcedcbonphgecaaDoorJGets
namespace Go.Proofs.YtcedcbonphgecaaDoor
set_option linter.unusedVariables false
set_option linter.unusedSimpArgs false
set_option maxRecDepth 100000
open Go Go.RowKit Go.Shelf Go.Lib

theorem getJ_lt {T : JT} (h : LtT T) (s : ByteArray) : LtT ((getJ T s).getD zeroT) := by
  have hz : LtT zeroT := .mk 0 ⟨#[]⟩ [] [] (by simp) (by simp) (by decide) (fun i hi => by simp at hi)
  obtain ⟨k, s0, K, L⟩ := T
  obtain ⟨_, _, _, _, hK, hL, hs, ht⟩ := h
  show LtT ((if k = 6 ∧ K.length = L.length then (fndK K s).bind (fun j => L[j]?) else none).getD zeroT)
  by_cases hc : k = 6 ∧ K.length = L.length
  · rw [if_pos hc]
    cases fndK K s with
    | none => exact hz
    | some j =>
      show LtT ((L[j]?).getD zeroT)
      rcases Nat.lt_or_ge j L.length with h | h
      · rw [List.getElem?_eq_getElem h]
        exact ht j h
      · rw [List.getElem?_eq_none h]
        exact hz
  · rw [if_neg hc]
    exact hz
theorem getJ_clone (o : Option JT) : eqJ ((o.map clJ).getD zeroT) (o.getD zeroT) = true := by
  cases o with
  | none => exact eqJ_refl zeroT
  | some t => exact eqJ_clone t
theorem getJ_clt {o : Option JT} (h : LtT (o.getD zeroT)) : LtT ((o.map clJ).getD zeroT) := by
  cases o with
  | none => exact h
  | some t => exact LtT.clone h

set_option maxHeartbeats 16000000 in
theorem jgets_any {w : World} {S : Nat → Prop} {x : JC} {T : JT} (hU : Utf8Tabs 2 3 w) (hE : ErrS w) (hP : Pow w) (hx : TIn w S x T) (key : ByteArray) (n : Int) : Calls Tryd.prog 6 #[vagg x, .string key, .int .i64 n] w fun e w' => e = .returned (.bool true) ∧ Below w.heap.size w w' := by
  obtain ⟨hs2, hs3⟩ := hx.sl
  cases hx with
  | mk k s kv la lc K L xs hK hc hsl ht =>
  have hx : TIn w S (k, s, kv, .slice la L.length lc) (.mk k s K L) := .mk k s kv la lc K L xs hK hc hsl ht
  simp only at hs2 hs3
  obtain ⟨ka, kn, kc, rfl⟩ := hs2
  clear hs3 hK hc hsl ht
  obtain ⟨ln, hln⟩ : ∃ ln, L.length = ln := ⟨_, rfl⟩
  rw [hln] at hx ⊢
  clear hln
  obtain ⟨t, ht, htl, hts⟩ := str_bytes s
  have hb : Below w.heap.size w (w.alloc (.cells #[.int .i64 k, .string s, .slice ka kn kc, .slice la ln lc] 27)) := bel w _
  have hp := BoxC.new w 27 #[.int .i64 k, .string s, .slice ka kn kc, .slice la ln lc]
  generalize hw0 : w.alloc (.cells #[.int .i64 k, .string s, .slice ka kn kc, .slice la ln lc] 27) = w0 at *
  have HW0 := hide hw0
  have HX := hide (hx.bel hb)
  have HB1 := hide hb
  have HS : Hid (∀ X0 : World, Below w0.heap.size w0 X0 → (X0.cell? ⟨w.heap.size, 0, none⟩ = some (.int .i64 k) ∧ X0.cell? ⟨w.heap.size, 1, none⟩ = some (.string s) ∧ X0.cell? ⟨w.heap.size, 2, none⟩ = some (.slice ka kn kc) ∧ X0.cell? ⟨w.heap.size, 3, none⟩ = some (.slice la ln lc))) := fun X0 h => ⟨(hp.below h).cell 0, (hp.below h).cell 1, (hp.below h).cell 2, (hp.below h).cell 3⟩
  have HWR := hide (fun w2 (h2 : Below w0.heap.size w0 w2) => written_calls w2 (Utf8Tabs_below hU (hb.trans (h2.mono hb.size))))
  have HFX := hide (fun w2 (h2 : Below w0.heap.size w0 w2) => few_any HX.out w2 h2)
  have HGE := hide (fun w2 (h2 : Below w0.heap.size w0 w2) (hl : LtT (.mk k s K L)) => get_any key w2 (HX.out.bel h2) hl)
  have HES := hide (hE.below hb)
  have HPW := hide (hP.below hb)
  have HIN : Hid (∀ w2, Below w0.heap.size w0 w2 → LtT (.mk k s K L) → Calls Tryd.prog 20 #[vagg (k, s, .slice ka kn kc, .slice la ln lc)] w2 (IntR k t w2)) := fun w2 h2 hl => by
    have h := jint_any w2 k t ht (by cases hl; omega) ka la kn kc ln lc (HES.out.below h2)
    rw [← hts] at h
    exact h
  have HRI : Hid (∀ (S' : Nat → Prop) (y : JC) w2, TIn w2 S' y (.mk k s K L) → LtT (.mk k s K L) → Calls Tryd.prog 21 #[vagg y] w2 (RIntR (intJ k t) w2)) := fun S' y w2 hy hl => by
    obtain ⟨g2, g3⟩ := hy.sl
    cases hy with
    | mk _ _ kv' la' lc' _ _ xs' hK' hc' hsl' ht' =>
      simp only at g2 g3
      obtain ⟨ka', kn', kc', rfl⟩ := g2
      have h := rint_any w2 k t ht (by cases hl; omega) ka' la' kn' kc' L.length lc'
      rw [← hts] at h
      exact h
  unfold vagg IntR at HIN
  unfold RIntR at HRI
  generalize intJ k t = oi at *
  obtain ⟨ci, cb, hoi⟩ : ∃ ci cb, optV oi = .tuple #[.int .i64 ci, .bool cb] := ⟨_, _, rfl⟩
  rw [hoi] at HIN HRI
  unfold vagg at HFX ⊢
  simp only at HFX HIN ⊢
  clear hoi
  obtain ⟨v0, v1, v2, v3⟩ := HS.out _ (Below.refl _ _)
  clear hw0 hp hb hx hU hE hP ht htl hts
  go_enter Tryd.func6, Tryd.ntmps6
  go_upto_region 1 with fail
  rw [HW0.out]
  clear HW0
  go_wp2_with fail
  refine (HFX.out w0 (Below.refl _ _)).mono ?_
  rintro e w1 ⟨b, rfl, hlt, hb9⟩
  have HB := hide hb9
  have HLT := hide hlt
  clear hb9 hlt HFX v0 v1 v2 v3
  obtain ⟨v0, v1, v2, v3⟩ := HS.out _ HB.out
  cases b
  · go_wp2_with fail
    refine (HWR.out w1 HB.out).mono ?_
    rintro e w9 ⟨rfl, hb9⟩
    have HB9 := hide (HB.out.trans (hb9.mono HB.out.size))
    clear hb9 v0 v1 v2 v3
    go_wp2
    go_ret
    exact ⟨rfl, HB1.out.trans (HB9.out.mono HB1.out.size)⟩
  have HLA := hide (HLT.out rfl)
  clear HLT
  have HLG := hide (getJ_lt HLA.out key)
  go_wp2_with fail
  obtain ⟨o, ho⟩ : ∃ o, getJ (.mk k s K L) key = o := ⟨_, rfl⟩
  rw [ho] at HLG
  have HGC := hide (HGE.out w1 HB.out HLA.out)
  rw [ho] at HGC
  unfold vagg at HGC
  simp only at HGC
  refine HGC.out.mono ?_
  rintro e w2 ⟨⟨ak, a0, aK, aL⟩, rfl, hb9, hTa⟩
  obtain ⟨h4, h5⟩ := hTa.sl
  simp only at h4 h5
  obtain ⟨aa, an, ac, rfl⟩ := h4
  obtain ⟨ad, ae, af, rfl⟩ := h5
  simp only [vagg]
  have HTA := hide hTa
  have HHO := hide ho
  clear v0 v1 v2 v3 hTa ho HGC HGE
  have HB9 := hide (HB.out.trans (hb9.mono HB.out.size))
  clear hb9 HB
  rename Hid (Below w0.heap.size w0 _) => HB
  have hb9 := bel w2 (.cells #[.int .i64 ak, .string a0, .slice aa an ac, .slice ad ae af] 27)
  have HPA := hide (BoxC.new w2 27 #[.int .i64 ak, .string a0, .slice aa an ac, .slice ad ae af])
  have HB9 := hide (HB.out.trans (hb9.mono HB.out.size))
  have HTA9 := hide (HTA.out.bel hb9)
  clear hb9 HB HTA
  rename Hid (Below w0.heap.size w0 _) => HB
  have HTA := HTA9
  clear HTA9
  go_upto_region 4 with fail
  generalize w2.heap.size = PA at *
  generalize w2.alloc (.cells #[.int .i64 ak, .string a0, .slice aa an ac, .slice ad ae af] 27) = w3 at *
  obtain ⟨v0, v1, v2, v3⟩ := HS.out _ HB.out
  go_wp2_with fail
  have hcall := of_any HX.out HLA.out w3 HB.out
  try unfold vagg at hcall
  try simp only at hcall
  refine hcall.mono ?_
  rintro e w4 ⟨⟨ok, o0, oK, oL⟩, rfl, hb9, hTo, _, _⟩
  clear hcall v0 v1 v2 v3
  obtain ⟨h4, h5⟩ := hTo.sl
  simp only at h4 h5
  obtain ⟨oa, on, oc, rfl⟩ := h4
  obtain ⟨od, oe, of, rfl⟩ := h5
  simp only [vagg]
  have HTO := hide hTo
  clear hTo
  have HB9 := hide (HB.out.trans (hb9.mono HB.out.size))
  have HTA9 := hide (HTA.out.bel hb9)
  have HPA9 := hide (HPA.out.below hb9)
  clear hb9 HB HTA HPA
  rename Hid (Below w0.heap.size w0 _) => HB
  have HTA := HTA9
  clear HTA9
  have HPA := HPA9
  clear HPA9
  obtain ⟨v0, v1, v2, v3⟩ := HS.out _ HB.out
  go_wp2_with fail
  have hcall := rget_any key w4 HTO.out HLA.out
  try unfold vagg at hcall
  try simp only at hcall
  refine hcall.mono ?_
  rintro e w5 ⟨⟨bk, b0, bK, bL⟩, rfl, hb9, hTb⟩
  clear hcall v0 v1 v2 v3
  obtain ⟨h4, h5⟩ := hTb.sl
  simp only at h4 h5
  obtain ⟨ba, bn, bc, rfl⟩ := h4
  obtain ⟨bd, be, bf, rfl⟩ := h5
  simp only [vagg]
  rw [HHO.out] at hTb ⊢
  have HTB := hide hTb
  clear hTb HTO
  have HB9 := hide (HB.out.trans (hb9.mono HB.out.size))
  have HTA9 := hide (HTA.out.bel hb9)
  have HPA9 := hide (HPA.out.below hb9)
  clear hb9 HB HTA HPA
  rename Hid (Below w0.heap.size w0 _) => HB
  have HTA := HTA9
  clear HTA9
  have HPA := HPA9
  clear HPA9
  obtain ⟨v0, v1, v2, v3⟩ := HS.out _ HB.out
  have hb9 := bel w5 (.cells #[.int .i64 bk, .string b0, .slice ba bn bc, .slice bd be bf] 33)
  have HPB := hide (BoxC.new w5 33 #[.int .i64 bk, .string b0, .slice ba bn bc, .slice bd be bf])
  have HB9 := hide (HB.out.trans (hb9.mono HB.out.size))
  have HTA9 := hide (HTA.out.bel hb9)
  have HPA9 := hide (HPA.out.below hb9)
  have HTB9 := hide (HTB.out.bel hb9)
  clear hb9 HB HTA HPA HTB
  rename Hid (Below w0.heap.size w0 _) => HB
  have HTA := HTA9
  clear HTA9
  have HPA := HPA9
  clear HPA9
  have HTB := HTB9
  clear HTB9
  go_upto_region 5 with fail
  generalize w5.heap.size = PB at *
  generalize w5.alloc (.cells #[.int .i64 bk, .string b0, .slice ba bn bc, .slice bd be bf] 33) = w6 at *
  obtain ⟨v0, v1, v2, v3⟩ := HS.out _ HB.out
  go_wp2_with fail
  have hcall := HIN.out w6 HB.out HLA.out
  try unfold vagg at hcall
  try simp only at hcall
  refine hcall.mono ?_
  rintro e w7 ⟨rfl, hb9⟩
  clear hcall v0 v1 v2 v3
  have HB9 := hide (HB.out.trans (hb9.mono HB.out.size))
  have HTA9 := hide (HTA.out.bel hb9)
  have HPA9 := hide (HPA.out.below hb9)
  have HTB9 := hide (HTB.out.bel hb9)
  have HPB9 := hide (HPB.out.below hb9)
  clear hb9 HB HTA HPA HTB HPB
  rename Hid (Below w0.heap.size w0 _) => HB
  have HTA := HTA9
  clear HTA9
  have HPA := HPA9
  clear HPA9
  have HTB := HTB9
  clear HTB9
  have HPB := HPB9
  clear HPB9
  obtain ⟨v0, v1, v2, v3⟩ := HS.out _ HB.out
  go_wp2_with fail
  have hcall := of_any HX.out HLA.out w7 HB.out
  try unfold vagg at hcall
  try simp only at hcall
  refine hcall.mono ?_
  rintro e w8 ⟨⟨pk, p0, pK, pL⟩, rfl, hb9, hTp, _, _⟩
  clear hcall v0 v1 v2 v3
  obtain ⟨h4, h5⟩ := hTp.sl
  simp only at h4 h5
  obtain ⟨pa, pn, pc, rfl⟩ := h4
  obtain ⟨pd, pe, pf, rfl⟩ := h5
  simp only [vagg]
  have HTP := hide hTp
  clear hTp
  have HB9 := hide (HB.out.trans (hb9.mono HB.out.size))
  have HTA9 := hide (HTA.out.bel hb9)
  have HPA9 := hide (HPA.out.below hb9)
  have HTB9 := hide (HTB.out.bel hb9)
  have HPB9 := hide (HPB.out.below hb9)
  clear hb9 HB HTA HPA HTB HPB
  rename Hid (Below w0.heap.size w0 _) => HB
  have HTA := HTA9
  clear HTA9
  have HPA := HPA9
  clear HPA9
  have HTB := HTB9
  clear HTB9
  have HPB := HPB9
  clear HPB9
  obtain ⟨v0, v1, v2, v3⟩ := HS.out _ HB.out
  go_wp2_with fail
  have hcall := HRI.out _ _ w8 HTP.out HLA.out
  try unfold vagg at hcall
  try simp only at hcall
  refine hcall.mono ?_
  rintro e w9 ⟨rfl, hb9⟩
  clear hcall v0 v1 v2 v3
  clear HTP
  have HB9 := hide (HB.out.trans (hb9.mono HB.out.size))
  have HTA9 := hide (HTA.out.bel hb9)
  have HPA9 := hide (HPA.out.below hb9)
  have HTB9 := hide (HTB.out.bel hb9)
  have HPB9 := hide (HPB.out.below hb9)
  clear hb9 HB HTA HPA HTB HPB
  rename Hid (Below w0.heap.size w0 _) => HB
  have HTA := HTA9
  clear HTA9
  have HPA := HPA9
  clear HPA9
  have HTB := HTB9
  clear HTB9
  have HPB := HPB9
  clear HPB9
  obtain ⟨v0, v1, v2, v3⟩ := HS.out _ HB.out
  go_upto_region 7 with fail
  clear v0 v1 v2 v3
  have dgb : (o.isSome != o.isSome) = false := by simp
  have dci : (ci != ci) = false := by simp
  have dcb : (cb != cb) = false := by simp
  have HS2 : Hid (∀ X0 : World, Below w9.heap.size w9 X0 → (X0.cell? ⟨PA, 0, none⟩ = some (.int .i64 ak) ∧ X0.cell? ⟨PA, 1, none⟩ = some (.string a0) ∧ X0.cell? ⟨PA, 2, none⟩ = some (.slice aa an ac) ∧ X0.cell? ⟨PA, 3, none⟩ = some (.slice ad ae af) ∧ X0.cell? ⟨PB, 0, none⟩ = some (.int .i64 bk) ∧ X0.cell? ⟨PB, 1, none⟩ = some (.string b0) ∧ X0.cell? ⟨PB, 2, none⟩ = some (.slice ba bn bc) ∧ X0.cell? ⟨PB, 3, none⟩ = some (.slice bd be bf))) := fun X0 h => ⟨(HPA.out.below h).cell 0, (HPA.out.below h).cell 1, (HPA.out.below h).cell 2, (HPA.out.below h).cell 3, (HPB.out.below h).cell 0, (HPB.out.below h).cell 1, (HPB.out.below h).cell 2, (HPB.out.below h).cell 3⟩
  refine wp_region_held_drew (S := fun X0 : World => X0.cell? ⟨PA, 0, none⟩ = some (.int .i64 ak) ∧ X0.cell? ⟨PA, 1, none⟩ = some (.string a0) ∧ X0.cell? ⟨PA, 2, none⟩ = some (.slice aa an ac) ∧ X0.cell? ⟨PA, 3, none⟩ = some (.slice ad ae af) ∧ X0.cell? ⟨PB, 0, none⟩ = some (.int .i64 bk) ∧ X0.cell? ⟨PB, 1, none⟩ = some (.string b0) ∧ X0.cell? ⟨PB, 2, none⟩ = some (.slice ba bn bc) ∧ X0.cell? ⟨PB, 3, none⟩ = some (.slice bd be bf)) (by kernel_rfl) (HS2.out _ (Below.refl _ _).drew) (fun hHeld => ?_)
  have HC : Hid (Below w9.heap.size w9 w9.drew) := (Below.refl _ _).drew
  generalize w9.drew = wd at *
  refine wpAnyH_ready (rs := [0]) (by kernel_rfl) (by simp) ?_
  refine AllReadyH.cons rfl (fun K9 hK => ?_) AllReadyH.nil
  go_simp
  have hcall := HWR.out wd (HB.out.trans (HC.out.mono HB.out.size))
  try unfold vagg at hcall
  try simp only at hcall
  refine hcall.mono ?_
  rintro e wA ⟨rfl, hb9⟩
  have HC9 := hide (HC.out.trans (hb9.mono HC.out.size))
  clear hcall
  refine hK.out _ _ (HS2.out _ HC9.out) (fun _ => ?_)
  clear hK K9 hb9 HC
  rename Hid (Below w9.heap.size w9 _) => HC
  try simp only [Act.put, List.setIfInBounds_toArray, List.set_cons_zero, List.set_cons_succ, vagg]
  refine takeD (i := 1) (v := ?v1) (some 46) rfl (by kernel_rfl) (by kernel_rfl) (by kernel_rfl) (fun _ _ _ h => h) (Or.inl ⟨by rfl, ?hy1⟩) (HS2.out _ HC.out) (by rfl) ?rest1
  case hy1 => first | (intro w hSw; (try dsimp only at hSw); obtain ⟨s0, s1, s2, s3, s4, s5, s6, s7⟩ := hSw; go_simp; done) | (intro w hSw; (try dsimp only at hSw); obtain ⟨s0, s1, s2, s3, s4, s5, s6, s7⟩ := hSw; go_simp; with_reducible rfl)
  try simp only [Act.put, List.setIfInBounds_toArray, List.set_cons_zero, List.set_cons_succ, vagg]
  refine takeD (i := 2) (v := ?v2) (some 47) rfl (by kernel_rfl) (by kernel_rfl) (by kernel_rfl) (fun _ _ _ h => h) (Or.inl ⟨by rfl, ?hy2⟩) (HS2.out _ HC.out) (by rfl) ?rest2
  case hy2 => first | (intro w hSw; (try dsimp only at hSw); obtain ⟨s0, s1, s2, s3, s4, s5, s6, s7⟩ := hSw; go_simp; done) | (intro w hSw; (try dsimp only at hSw); obtain ⟨s0, s1, s2, s3, s4, s5, s6, s7⟩ := hSw; go_simp; with_reducible rfl)
  try simp only [Act.put, List.setIfInBounds_toArray, List.set_cons_zero, List.set_cons_succ, vagg]
  refine takeD (i := 3) (v := ?v3) (some 48) rfl (by kernel_rfl) (by kernel_rfl) (by kernel_rfl) (fun _ _ _ h => h) (Or.inl ⟨by rfl, ?hy3⟩) (HS2.out _ HC.out) (by rfl) ?rest3
  case hy3 => first | (intro w hSw; (try dsimp only at hSw); obtain ⟨s0, s1, s2, s3, s4, s5, s6, s7⟩ := hSw; go_simp; done) | (intro w hSw; (try dsimp only at hSw); obtain ⟨s0, s1, s2, s3, s4, s5, s6, s7⟩ := hSw; go_simp; with_reducible rfl)
  try simp only [Act.put, List.setIfInBounds_toArray, List.set_cons_zero, List.set_cons_succ, vagg]
  refine takeD (i := 4) (v := ?v4) (some 49) rfl (by kernel_rfl) (by kernel_rfl) (by kernel_rfl) (fun _ _ _ h => h) (Or.inl ⟨by rfl, ?hy4⟩) (HS2.out _ HC.out) (by rfl) ?rest4
  case hy4 => first | (intro w hSw; (try dsimp only at hSw); obtain ⟨s0, s1, s2, s3, s4, s5, s6, s7⟩ := hSw; go_simp; done) | (intro w hSw; (try dsimp only at hSw); obtain ⟨s0, s1, s2, s3, s4, s5, s6, s7⟩ := hSw; go_simp; with_reducible rfl)
  try simp only [Act.put, List.setIfInBounds_toArray, List.set_cons_zero, List.set_cons_succ, vagg]
  refine takeD (i := 5) (v := ?v5) (some 50) rfl (by kernel_rfl) (by kernel_rfl) (by kernel_rfl) (fun _ _ _ h => h) (Or.inl ⟨by rfl, ?hy5⟩) (HS2.out _ HC.out) (by rfl) ?rest5
  case hy5 => first | (intro w hSw; (try dsimp only at hSw); obtain ⟨s0, s1, s2, s3, s4, s5, s6, s7⟩ := hSw; go_simp; done) | (intro w hSw; (try dsimp only at hSw); obtain ⟨s0, s1, s2, s3, s4, s5, s6, s7⟩ := hSw; go_simp; with_reducible rfl)
  try simp only [Act.put, List.setIfInBounds_toArray, List.set_cons_zero, List.set_cons_succ, vagg]
  refine takeD (i := 6) (v := ?v6) (some 51) rfl (by kernel_rfl) (by kernel_rfl) (by kernel_rfl) (fun _ _ _ h => h) (Or.inl ⟨by rfl, ?hy6⟩) (HS2.out _ HC.out) (by rfl) ?rest6
  case hy6 => first | (intro w hSw; (try dsimp only at hSw); obtain ⟨s0, s1, s2, s3, s4, s5, s6, s7⟩ := hSw; go_simp; done) | (intro w hSw; (try dsimp only at hSw); obtain ⟨s0, s1, s2, s3, s4, s5, s6, s7⟩ := hSw; go_simp; with_reducible rfl)
  try simp only [Act.put, List.setIfInBounds_toArray, List.set_cons_zero, List.set_cons_succ, vagg]
  refine takeD (i := 7) (v := ?v7) (some 52) rfl (by kernel_rfl) (by kernel_rfl) (by kernel_rfl) (fun _ _ _ h => h) (Or.inl ⟨by rfl, ?hy7⟩) (HS2.out _ HC.out) (by rfl) ?rest7
  case hy7 => first | (intro w hSw; (try dsimp only at hSw); obtain ⟨s0, s1, s2, s3, s4, s5, s6, s7⟩ := hSw; go_simp; done) | (intro w hSw; (try dsimp only at hSw); obtain ⟨s0, s1, s2, s3, s4, s5, s6, s7⟩ := hSw; go_simp; with_reducible rfl)
  try simp only [Act.put, List.setIfInBounds_toArray, List.set_cons_zero, List.set_cons_succ, vagg]
  refine takeD (i := 8) (v := ?v8) (some 53) rfl (by kernel_rfl) (by kernel_rfl) (by kernel_rfl) (fun _ _ _ h => h) (Or.inl ⟨by rfl, ?hy8⟩) (HS2.out _ HC.out) (by rfl) ?rest8
  case hy8 => first | (intro w hSw; (try dsimp only at hSw); obtain ⟨s0, s1, s2, s3, s4, s5, s6, s7⟩ := hSw; go_simp; done) | (intro w hSw; (try dsimp only at hSw); obtain ⟨s0, s1, s2, s3, s4, s5, s6, s7⟩ := hSw; go_simp; with_reducible rfl)
  try simp only [Act.put, List.setIfInBounds_toArray, List.set_cons_zero, List.set_cons_succ, vagg]
  refine takeD (i := 10) (v := ?v9) (some 55) rfl (by kernel_rfl) (by kernel_rfl) (by kernel_rfl) (fun _ _ _ h => h) (Or.inl ⟨by rfl, ?hy9⟩) (HS2.out _ HC.out) (by rfl) ?rest9
  case hy9 => first | (intro w hSw; (try dsimp only at hSw); obtain ⟨s0, s1, s2, s3, s4, s5, s6, s7⟩ := hSw; go_simp; done) | (intro w hSw; (try dsimp only at hSw); obtain ⟨s0, s1, s2, s3, s4, s5, s6, s7⟩ := hSw; go_simp; with_reducible rfl)
  try simp only [Act.put, List.setIfInBounds_toArray, List.set_cons_zero, List.set_cons_succ, vagg]
  refine wpAnyH_ready (rs := [9]) (by kernel_rfl) (by simp) ?_
  refine AllReadyH.cons rfl (fun K9 hK => ?_) AllReadyH.nil
  go_simp
  have hcall := of_any HTA.out (getJ_clt HLG.out) wA HC.out
  try unfold vagg at hcall
  try simp only at hcall
  refine hcall.mono ?_
  rintro e wB ⟨⟨qk, q0, qK, qL⟩, rfl, hb9, hTq, _, _⟩
  have HC9 := hide (HC.out.trans (hb9.mono HC.out.size))
  obtain ⟨h4, h5⟩ := hTq.sl
  simp only at h4 h5
  obtain ⟨qa, qn, qc, rfl⟩ := h4
  obtain ⟨qd, qe, qf, rfl⟩ := h5
  simp only [vagg]
  have HTQ := hide hTq
  clear hTq
  clear hcall
  refine hK.out _ _ (HS2.out _ HC9.out) (fun _ => ?_)
  clear hK K9 hb9 HC
  rename Hid (Below w9.heap.size w9 _) => HC
  try simp only [Act.put, List.setIfInBounds_toArray, List.set_cons_zero, List.set_cons_succ, vagg]
  refine wpAnyH_ready (rs := [11]) (by kernel_rfl) (by simp) ?_
  refine AllReadyH.cons rfl (fun K9 hK => ?_) AllReadyH.nil
  go_simp
  have hcall := requal_any HTQ.out (getJ_clt HLG.out) (HTB.out.bel HC.out) HLG.out wB (Below.refl _ _)
  try unfold vagg at hcall
  try simp only at hcall
  refine hcall.mono ?_
  rintro e wC ⟨rfl, hb9⟩
  have HC9 := hide (HC.out.trans (hb9.mono HC.out.size))
  clear hcall
  refine hK.out _ _ (HS2.out _ HC9.out) (fun _ => ?_)
  clear hK K9 hb9 HC
  rename Hid (Below w9.heap.size w9 _) => HC
  try simp only [Act.put, List.setIfInBounds_toArray, List.set_cons_zero, List.set_cons_succ, vagg]
  rw [getJ_clone]
  refine takeD (i := 12) (v := ?v10) (some 57) rfl (by kernel_rfl) (by kernel_rfl) (by kernel_rfl) (fun _ _ _ h => h) (Or.inl ⟨by rfl, ?hy10⟩) (HS2.out _ HC.out) (by rfl) ?rest10
  case hy10 => first | (intro w hSw; (try dsimp only at hSw); obtain ⟨s0, s1, s2, s3, s4, s5, s6, s7⟩ := hSw; go_simp; done) | (intro w hSw; (try dsimp only at hSw); obtain ⟨s0, s1, s2, s3, s4, s5, s6, s7⟩ := hSw; go_simp; with_reducible rfl)
  try simp only [Act.put, List.setIfInBounds_toArray, List.set_cons_zero, List.set_cons_succ, vagg]
  refine takeD (i := 13) (v := ?v11) (some 58) rfl (by kernel_rfl) (by kernel_rfl) (by kernel_rfl) (fun _ _ _ h => h) (Or.inl ⟨by rfl, ?hy11⟩) (HS2.out _ HC.out) (by rfl) ?rest11
  case hy11 => first | (intro w hSw; (try dsimp only at hSw); obtain ⟨s0, s1, s2, s3, s4, s5, s6, s7⟩ := hSw; go_simp; done) | (intro w hSw; (try dsimp only at hSw); obtain ⟨s0, s1, s2, s3, s4, s5, s6, s7⟩ := hSw; go_simp; with_reducible rfl)
  try simp only [Act.put, List.setIfInBounds_toArray, List.set_cons_zero, List.set_cons_succ, vagg]
  refine takeD (i := 14) (v := ?v12) (some 59) rfl (by kernel_rfl) (by kernel_rfl) (by kernel_rfl) (fun _ _ _ h => h) (Or.inl ⟨by rfl, ?hy12⟩) (HS2.out _ HC.out) (by rfl) ?rest12
  case hy12 => first | (intro w hSw; (try dsimp only at hSw); obtain ⟨s0, s1, s2, s3, s4, s5, s6, s7⟩ := hSw; go_simp; done) | (intro w hSw; (try dsimp only at hSw); obtain ⟨s0, s1, s2, s3, s4, s5, s6, s7⟩ := hSw; go_simp; with_reducible rfl)
  try simp only [Act.put, List.setIfInBounds_toArray, List.set_cons_zero, List.set_cons_succ, vagg]
  refine takeD (i := 15) (v := ?v13) (some 60) rfl (by kernel_rfl) (by kernel_rfl) (by kernel_rfl) (fun _ _ _ h => h) (Or.inl ⟨by rfl, ?hy13⟩) (HS2.out _ HC.out) (by rfl) ?rest13
  case hy13 => first | (intro w hSw; (try dsimp only at hSw); obtain ⟨s0, s1, s2, s3, s4, s5, s6, s7⟩ := hSw; go_simp; done) | (intro w hSw; (try dsimp only at hSw); obtain ⟨s0, s1, s2, s3, s4, s5, s6, s7⟩ := hSw; go_simp; with_reducible rfl)
  try simp only [Act.put, List.setIfInBounds_toArray, List.set_cons_zero, List.set_cons_succ, vagg]
  refine takeD (i := 16) (v := ?v14) (some 61) rfl (by kernel_rfl) (by kernel_rfl) (by kernel_rfl) (fun _ _ _ h => h) (Or.inl ⟨by rfl, ?hy14⟩) (HS2.out _ HC.out) (by rfl) ?rest14
  case hy14 => first | (intro w hSw; (try dsimp only at hSw); obtain ⟨s0, s1, s2, s3, s4, s5, s6, s7⟩ := hSw; go_simp; done) | (intro w hSw; (try dsimp only at hSw); obtain ⟨s0, s1, s2, s3, s4, s5, s6, s7⟩ := hSw; go_simp; with_reducible rfl)
  try simp only [Act.put, List.setIfInBounds_toArray, List.set_cons_zero, List.set_cons_succ, vagg]
  refine takeD (i := 17) (v := ?v15) (some 62) rfl (by kernel_rfl) (by kernel_rfl) (by kernel_rfl) (fun _ _ _ h => h) (Or.inl ⟨by rfl, ?hy15⟩) (HS2.out _ HC.out) (by rfl) ?rest15
  case hy15 => first | (intro w hSw; (try dsimp only at hSw); obtain ⟨s0, s1, s2, s3, s4, s5, s6, s7⟩ := hSw; go_simp; done) | (intro w hSw; (try dsimp only at hSw); obtain ⟨s0, s1, s2, s3, s4, s5, s6, s7⟩ := hSw; go_simp; with_reducible rfl)
  try simp only [Act.put, List.setIfInBounds_toArray, List.set_cons_zero, List.set_cons_succ, vagg]
  refine takeD (i := 18) (v := ?v16) (some 63) rfl (by kernel_rfl) (by kernel_rfl) (by kernel_rfl) (fun _ _ _ h => h) (Or.inl ⟨by rfl, ?hy16⟩) (HS2.out _ HC.out) (by rfl) ?rest16
  case hy16 => first | (intro w hSw; (try dsimp only at hSw); obtain ⟨s0, s1, s2, s3, s4, s5, s6, s7⟩ := hSw; go_simp; done) | (intro w hSw; (try dsimp only at hSw); obtain ⟨s0, s1, s2, s3, s4, s5, s6, s7⟩ := hSw; go_simp; with_reducible rfl)
  try simp only [Act.put, List.setIfInBounds_toArray, List.set_cons_zero, List.set_cons_succ, vagg]
  refine takeD (i := 19) (v := ?v17) (some 64) rfl (by kernel_rfl) (by kernel_rfl) (by kernel_rfl) (fun _ _ _ h => h) (Or.inl ⟨by rfl, ?hy17⟩) (HS2.out _ HC.out) (by rfl) ?rest17
  case hy17 => first | (intro w hSw; (try dsimp only at hSw); obtain ⟨s0, s1, s2, s3, s4, s5, s6, s7⟩ := hSw; go_simp; done) | (intro w hSw; (try dsimp only at hSw); obtain ⟨s0, s1, s2, s3, s4, s5, s6, s7⟩ := hSw; go_simp; with_reducible rfl)
  try simp only [Act.put, List.setIfInBounds_toArray, List.set_cons_zero, List.set_cons_succ, vagg]
  refine takeD (i := 20) (v := ?v18) (some 65) rfl (by kernel_rfl) (by kernel_rfl) (by kernel_rfl) (fun _ _ _ h => h) (Or.inl ⟨by rfl, ?hy18⟩) (HS2.out _ HC.out) (by rfl) ?rest18
  case hy18 => first | (intro w hSw; (try dsimp only at hSw); obtain ⟨s0, s1, s2, s3, s4, s5, s6, s7⟩ := hSw; go_simp; done) | (intro w hSw; (try dsimp only at hSw); obtain ⟨s0, s1, s2, s3, s4, s5, s6, s7⟩ := hSw; go_simp; with_reducible rfl)
  try simp only [Act.put, List.setIfInBounds_toArray, List.set_cons_zero, List.set_cons_succ, vagg]
  refine takeD (i := 21) (v := ?v19) (some 66) rfl (by kernel_rfl) (by kernel_rfl) (by kernel_rfl) (fun _ _ _ h => h) (Or.inl ⟨by rfl, ?hy19⟩) (HS2.out _ HC.out) (by rfl) ?rest19
  case hy19 => first | (intro w hSw; (try dsimp only at hSw); obtain ⟨s0, s1, s2, s3, s4, s5, s6, s7⟩ := hSw; go_simp; done) | (intro w hSw; (try dsimp only at hSw); obtain ⟨s0, s1, s2, s3, s4, s5, s6, s7⟩ := hSw; go_simp; with_reducible rfl)
  try simp only [Act.put, List.setIfInBounds_toArray, List.set_cons_zero, List.set_cons_succ, vagg]
  refine takeD (i := 22) (v := ?v20) (some 67) rfl (by kernel_rfl) (by kernel_rfl) (by kernel_rfl) (fun _ _ _ h => h) (Or.inl ⟨by rfl, ?hy20⟩) (HS2.out _ HC.out) (by rfl) ?rest20
  case hy20 => first | (intro w hSw; (try dsimp only at hSw); obtain ⟨s0, s1, s2, s3, s4, s5, s6, s7⟩ := hSw; go_simp; done) | (intro w hSw; (try dsimp only at hSw); obtain ⟨s0, s1, s2, s3, s4, s5, s6, s7⟩ := hSw; go_simp; with_reducible rfl)
  try simp only [Act.put, List.setIfInBounds_toArray, List.set_cons_zero, List.set_cons_succ, vagg]
  refine takeD (i := 23) (v := ?v21) (some 68) rfl (by kernel_rfl) (by kernel_rfl) (by kernel_rfl) (fun _ _ _ h => h) (Or.inl ⟨by rfl, ?hy21⟩) (HS2.out _ HC.out) (by rfl) ?rest21
  case hy21 => first | (intro w hSw; (try dsimp only at hSw); obtain ⟨s0, s1, s2, s3, s4, s5, s6, s7⟩ := hSw; go_simp; done) | (intro w hSw; (try dsimp only at hSw); obtain ⟨s0, s1, s2, s3, s4, s5, s6, s7⟩ := hSw; go_simp; with_reducible rfl)
  try simp only [Act.put, List.setIfInBounds_toArray, List.set_cons_zero, List.set_cons_succ, vagg]
  refine wpAnyH_done (by kernel_rfl) ?_ _
  have HE := hide (HB.out.trans (HC.out.mono HB.out.size))
  clear HB HC HS2 HTA HTB HTQ HPA HPB dgb dci dcb hHeld
  by_cases hlo : n < -999999999
  · go_wp2
    go_ret
    exact ⟨rfl, HB1.out.trans (HE.out.mono HB1.out.size)⟩
  by_cases hhi : n > 999999999
  · go_wp2
    go_ret
    exact ⟨rfl, HB1.out.trans (HE.out.mono HB1.out.size)⟩
  have HON := hide (ofn_any wC n (by omega) (by omega) (HPW.out.below HE.out))
  have HII := hide (int_itoa (n := n) (by omega) (by omega))
  unfold OfNR vagg nC at HON
  simp only at HON
  go_wp2_with fail
  refine HON.out.mono ?_
  rintro e wD ⟨rfl, hb9⟩
  have HF := hide (HE.out.trans (hb9.mono HE.out.size))
  have hlen : (itoaT n).length ≤ 100000 := by
    have h1 := (int_some itoaT_lt HII.out).2.2.1
    have h2 := (restT_length (itoaT n)).1
    split at h2 <;> omega
  have hcall := jint_any wD 3 (itoaT n) itoaT_lt hlen none none 0 0 0 0 (HES.out.below HF.out)
  unfold vagg at hcall
  simp only at hcall
  have HJN := hide hcall
  have hoj : optV (intJ 3 (itoaT n)) = .tuple #[.int .i64 n, .bool true] := by
    unfold intJ
    rw [if_pos rfl, HII.out]
    rfl
  unfold IntR at HJN
  rw [hoj] at HJN
  clear hb9 hcall hlen hoj HON
  go_wp2_with fail
  refine HJN.out.mono ?_
  rintro e wE ⟨rfl, hb9⟩
  have HG := hide (HF.out.trans (hb9.mono HF.out.size))
  have deq : (n == n) = true := by simp
  clear hb9 HJN
  go_wp2
  go_ret
  exact ⟨rfl, HB1.out.trans (HG.out.mono HB1.out.size)⟩

end Go.Proofs.YtcedcbonphgecaaDoor
