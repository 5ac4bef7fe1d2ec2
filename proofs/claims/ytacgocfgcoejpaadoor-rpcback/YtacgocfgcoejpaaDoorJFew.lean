/- Json: few. -/
import Derived.Test.YtacgocfgcoejpaaDoorJCount
namespace Go.Proofs.YtacgocfgcoejpaaDoor
set_option linter.unusedVariables false
set_option linter.unusedSimpArgs false
set_option maxRecDepth 100000
open Go Go.RowKit Go.Shelf Go.Lib

theorem TIn.sl {W : World} {S : Nat → Prop} {x : JC} {T : JT} (h : TIn W S x T) : IsSl x.2.2.1 ∧ IsSl x.2.2.2 := by
  cases h with
  | mk k s kv la lc K L xs hK hc hsl ht =>
    obtain ⟨ao, cap, rfl, _⟩ := hK
    exact ⟨⟨_, _, _, rfl⟩, ⟨_, _, _, rfl⟩⟩

set_option maxHeartbeats 8000000 in
theorem few_any {W : World} {S : Nat → Prop} {x : JC} {T : JT} (h : TIn W S x T) (w : World) (hW : Below W.heap.size W w) : Calls Tryd.prog 7 #[vagg x] w (LightR T w) := by
  have HLI := hide (fun w' h' => light_any h w' 0 (hW.trans (Below.mono h' hW.size)))
  have HOF := hide (fun hl w' (h' : Below w.heap.size w w') => of_any h hl w' (hW.trans (Below.mono h' hW.size)))
  obtain ⟨hs2, hs3⟩ := h.sl
  obtain ⟨k, s, kv, lv⟩ := x
  obtain ⟨ka, kn, kc, rfl⟩ := hs2
  obtain ⟨la, ln, lc, rfl⟩ := hs3
  unfold vagg at *
  simp only at *
  have hb1 := bel w (.cells #[.int .i64 k, .string s, .slice ka kn kc, .slice la ln lc] 25)
  have hx1 := BoxC.new w 25 #[.int .i64 k, .string s, .slice ka kn kc, .slice la ln lc]
  obtain ⟨w1, hw1⟩ : ∃ w1, w.alloc (.cells #[.int .i64 k, .string s, .slice ka kn kc, .slice la ln lc] 25) = w1 := ⟨_, rfl⟩
  rw [hw1] at hb1 hx1
  have HW1 := hide hw1
  have HB1 := hide hb1
  have HX1 := hide hx1
  have v0 : w1.cell? ⟨w.heap.size, 0, none⟩ = some (.int .i64 k) := hx1.cell 0
  have v1 : w1.cell? ⟨w.heap.size, 1, none⟩ = some (.string s) := hx1.cell 1
  have v2 : w1.cell? ⟨w.heap.size, 2, none⟩ = some (.slice ka kn kc) := hx1.cell 2
  have v3 : w1.cell? ⟨w.heap.size, 3, none⟩ = some (.slice la ln lc) := hx1.cell 3
  have hcall := HLI.out w1 hb1
  have e0 : ((0 : Nat) : Int) = 0 := rfl
  rw [e0] at hcall
  have HNW := hide hW
  clear hb1 hx1 hw1 h hW e0
  go_enter Tryd.func7, Tryd.ntmps7
  go_upto_region 1 with fail
  rw [HW1.out]
  clear HW1
  go_wp2_with fail
  refine hcall.mono ?_
  rintro e w2 ⟨b, rfl, hlt, hb2⟩
  have HB2 := hide (HB1.out.trans (hb2.mono HB1.out.size))
  have HX2 := hide (HX1.out.below hb2)
  clear hcall hb2
  cases b
  · clear v0 v1 v2 v3
    go_wp2
    go_ret
    exact lightR_false HB2.out
  · have HLT := hide (hlt rfl)
    clear v0 v1 v2 v3 hlt
    have v0 : w2.cell? ⟨w.heap.size, 0, none⟩ = some (.int .i64 k) := HX2.out.cell 0
    have v1 : w2.cell? ⟨w.heap.size, 1, none⟩ = some (.string s) := HX2.out.cell 1
    have v2 : w2.cell? ⟨w.heap.size, 2, none⟩ = some (.slice ka kn kc) := HX2.out.cell 2
    have v3 : w2.cell? ⟨w.heap.size, 3, none⟩ = some (.slice la ln lc) := HX2.out.cell 3
    have hcall := HOF.out HLT.out w2 HB2.out
    go_wp2_with fail
    refine hcall.mono ?_
    rintro e w3 ⟨⟨xk, xs, xK, xL⟩, rfl, hb3, hT3, ⟨pa, pn, pc, h4⟩, ⟨qa, qn, qc, h5⟩⟩
    simp only at h4 h5
    subst h4 h5
    have hcall2 := count_any hT3 HLT.out w3 (Below.refl _ _)
    have HB3 := hide (HB2.out.trans (hb3.mono HB2.out.size))
    unfold vagg at hcall2 ⊢
    simp only at hcall2 ⊢
    clear hcall hb3 hT3 v0 v1 v2 v3
    go_wp2_with fail
    refine hcall2.mono ?_
    rintro e w4 ⟨n, d, rfl, hb4⟩
    have HB4 := hide (HB3.out.trans (hb4.mono HB3.out.size))
    clear hcall2 hb4
    go_wp2
    go_ret
    exact ⟨_, rfl, fun _ => HLT.out, HB4.out⟩

end Go.Proofs.YtacgocfgcoejpaaDoor
