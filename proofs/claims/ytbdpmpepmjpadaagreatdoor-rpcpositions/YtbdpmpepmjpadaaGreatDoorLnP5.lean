/- Texts of json and rpc, part 5: RAny1, RAnyR, RAny2, RAny2R, RpcPositionsW. -/
import Derived.Test.YtbdpmpepmjpadaaGreatDoorLnP4
import Derived.Test.YtbdpmpepmjpadaaGreatDoorLnP3
namespace Go.Proofs.YtbdpmpepmjpadaaGreatDoor
set_option linter.unusedVariables false
set_option linter.unusedSimpArgs false
set_option maxRecDepth 100000
open Go Go.RowKit Go.Shelf Go.Lib

set_option maxHeartbeats 8000000 in
theorem whole_any (w : World) {S : Nat → Prop} {x : JC} {T : JT} (key : ByteArray) (hx : TIn w S x T) (hl : LtT T) (hE : ErrS w) :
    Calls Tryz.prog 44 #[vagg x, .string key] w fun e w' => e = .returned (optV (wholeJ T key)) ∧ Below w.heap.size w w' := by
  obtain ⟨hs2, hs3⟩ := hx.sl
  obtain ⟨k, s, kv, lv⟩ := x
  obtain ⟨ka, kn, kc, rfl⟩ := hs2
  obtain ⟨la, ln, lc, rfl⟩ := hs3
  have hb := bel w (.cells #[.int .i64 k, .string s, .slice ka kn kc, .slice la ln lc] 27)
  have hp := BoxC.new w 27 #[.int .i64 k, .string s, .slice ka kn kc, .slice la ln lc]
  generalize hw0 : w.alloc (.cells #[.int .i64 k, .string s, .slice ka kn kc, .slice la ln lc] 27) = w0 at *
  obtain ⟨ci, cb, hoi⟩ := optV_is (wholeJ T key)
  have HGT := hide (get_any key w0 (hx.bel hb) hl)
  have HIT : Hid (∀ (W : World) (S' : Nat → Prop) (y : JC), Below w0.heap.size w0 W → TIn W S' y (((getJ T key).map clJ).getD zeroT) → Calls Tryz.prog 52 #[vagg y] W fun e w' => e = .returned (.tuple #[.int .i64 ci, .bool cb]) ∧ Below W.heap.size W w') := fun W S' y hW hy => by
    have h := int_tree W hy (getT_clt (getT_lt hl key)) ((hE.below hb).below hW)
    have e : optV (intO (((getJ T key).map clJ).getD zeroT)) = .tuple #[.int .i64 ci, .bool cb] := by
      rw [(int_got (getJ T key)).1]
      exact hoi
    rw [e] at h
    exact h
  rw [hoi]
  clear hoi
  unfold vagg GetR at HGT
  unfold vagg at HIT ⊢
  simp only at HGT HIT ⊢
  have v0 : w0.cell? ⟨w.heap.size, 0, none⟩ = some (.int .i64 k) := hp.cell 0
  have v1 : w0.cell? ⟨w.heap.size, 1, none⟩ = some (.string s) := hp.cell 1
  have v2 : w0.cell? ⟨w.heap.size, 2, none⟩ = some (.slice ka kn kc) := hp.cell 2
  have v3 : w0.cell? ⟨w.heap.size, 3, none⟩ = some (.slice la ln lc) := hp.cell 3
  have HW0 := hide hw0
  have HB1 := hide hb
  clear hw0 hp hb hx hl hE
  generalize (((getJ T key).map clJ).getD zeroT) = Tq at *
  generalize (getJ T key).isSome = gb at *
  go_enter Tryz.func44, Tryz.ntmps44
  go_upto_region 1 with fail
  rw [HW0.out]
  clear HW0
  go_wp2_with fail
  refine HGT.out.mono ?_
  rintro e w1 ⟨⟨pk, ps, pK, pL⟩, rfl, hb1, hT⟩
  obtain ⟨h4, h5⟩ := hT.sl
  simp only at h4 h5
  obtain ⟨pa, pn, pc, rfl⟩ := h4
  obtain ⟨pd, pe, pf, rfl⟩ := h5
  simp only [vagg]
  have HBA := hide hb1
  have HTq := hide hT
  clear v0 v1 v2 v3 hT hb1 HGT
  have hb2 := bel w1 (.cells #[.int .i64 pk, .string ps, .slice pa pn pc, .slice pd pe pf] 27)
  have hx2 := BoxC.new w1 27 #[.int .i64 pk, .string ps, .slice pa pn pc, .slice pd pe pf]
  have HB2 := hide (HBA.out.trans (hb2.mono HBA.out.size))
  have HT2 := hide (HTq.out.bel hb2)
  clear hb2 HBA HTq
  go_upto_region 2 with fail
  generalize w1.alloc (.cells #[.int .i64 pk, .string ps, .slice pa pn pc, .slice pd pe pf] 27) = w2 at *
  have u0 := hx2.cell 0
  have u1 := hx2.cell 1
  have u2 := hx2.cell 2
  have u3 := hx2.cell 3
  simp only [List.getElem?_toArray, List.getElem?_cons_zero, List.getElem?_cons_succ] at u0 u1 u2 u3
  clear hx2
  go_wp2_with fail
  refine (HIT.out w2 _ _ HB2.out HT2.out).mono ?_
  rintro e w3 ⟨rfl, hb3⟩
  have HB3 := hide (HB1.out.trans ((HB2.out.trans (hb3.mono HB2.out.size)).mono HB1.out.size))
  clear hb3 u0 u1 u2 u3
  go_wp2
  go_ret2
  exact ⟨rfl, HB3.out⟩

theorem pos_of {T : JT} {a b : Int} {f g : Bool} (h1 : optV (wholeJ T kLine) = .tuple #[.int .i64 a, .bool f]) (h2 : optV (wholeJ T kChar) = .tuple #[.int .i64 b, .bool g]) :
    posV (posJ T) = if (f && g) = true then .tuple #[.agg #[.int .i64 a, .int .i64 b], .bool true] else .tuple #[.agg #[.int .i64 0, .int .i64 0], .bool false] := by
  unfold posJ
  cases h3 : wholeJ T kLine <;> cases h4 : wholeJ T kChar <;> rw [h3] at h1 <;> rw [h4] at h2 <;> simp [optV] at h1 h2 <;> obtain ⟨rfl, rfl⟩ := h1 <;> obtain ⟨rfl, rfl⟩ := h2 <;> rfl
theorem posV_is (o : Option (Int × Int)) : ∃ a b f, posV o = .tuple #[.agg #[.int .i64 a, .int .i64 b], .bool f] := ⟨_, _, _, rfl⟩
theorem rangeV_is (o : Option ((Int × Int) × (Int × Int))) : ∃ a b c d f, rangeV o = .tuple #[.agg #[.int .i64 a, .int .i64 b], .agg #[.int .i64 c, .int .i64 d], .bool f] := ⟨_, _, _, _, _, rfl⟩
theorem range_of {T : JT} {a b c d : Int} {f g : Bool} (h1 : posV ((getJ T kStart).bind posJ) = .tuple #[.agg #[.int .i64 a, .int .i64 b], .bool f]) (h2 : posV ((getJ T kEnd).bind posJ) = .tuple #[.agg #[.int .i64 c, .int .i64 d], .bool g]) :
    rangeV (rangeJ T) = if (f && g) = true then .tuple #[.agg #[.int .i64 a, .int .i64 b], .agg #[.int .i64 c, .int .i64 d], .bool true] else .tuple #[.agg #[.int .i64 0, .int .i64 0], .agg #[.int .i64 0, .int .i64 0], .bool false] := by
  unfold rangeJ
  generalize (getJ T kStart).bind posJ = o1 at *
  generalize (getJ T kEnd).bind posJ = o2 at *
  cases o1 with
  | none =>
    simp [posV] at h1
    obtain ⟨⟨rfl, rfl⟩, rfl⟩ := h1
    rfl
  | some p =>
    obtain ⟨p1, p2⟩ := p
    simp [posV] at h1
    obtain ⟨⟨rfl, rfl⟩, rfl⟩ := h1
    cases o2 with
    | none =>
      simp [posV] at h2
      obtain ⟨⟨rfl, rfl⟩, rfl⟩ := h2
      rfl
    | some q =>
      obtain ⟨q1, q2⟩ := q
      simp [posV] at h2
      obtain ⟨⟨rfl, rfl⟩, rfl⟩ := h2
      rfl

set_option maxHeartbeats 8000000 in
theorem pos_any (w : World) {S : Nat → Prop} {x : JC} {T : JT} (hx : TIn w S x T) (hl : LtT T) (hE : ErrS w) :
    Calls Tryz.prog 19 #[vagg x] w fun e w' => e = .returned (posV (posJ T)) ∧ Below w.heap.size w w' := by
  obtain ⟨hs2, hs3⟩ := hx.sl
  obtain ⟨k, s, kv, lv⟩ := x
  obtain ⟨ka, kn, kc, rfl⟩ := hs2
  obtain ⟨la, ln, lc, rfl⟩ := hs3
  have hb : Below w.heap.size w ((w.alloc (.cells #[.int .i64 k, .string s, .slice ka kn kc, .slice la ln lc] 27)).alloc (.cells #[.int .i64 0, .int .i64 0] 59)) := (bel w _).alloc (by simp) _
  have hp := (BoxC.new w 27 #[.int .i64 k, .string s, .slice ka kn kc, .slice la ln lc]).alloc (.cells #[.int .i64 0, .int .i64 0] 59)
  have hq := BoxC.new (w.alloc (.cells #[.int .i64 k, .string s, .slice ka kn kc, .slice la ln lc] 27)) 59 #[.int .i64 0, .int .i64 0]
  rw [World.size_alloc] at hq
  generalize hw0 : (w.alloc (.cells #[.int .i64 k, .string s, .slice ka kn kc, .slice la ln lc] 27)).alloc (.cells #[.int .i64 0, .int .i64 0] 59) = w0 at *
  have HLC := hide (fun W (hW : Below w0.heap.size w0 W) => whole_any W kLine ((hx.bel hb).bel hW) hl ((hE.below hb).below hW))
  have HCC := hide (fun W (hW : Below w0.heap.size w0 W) => whole_any W kChar ((hx.bel hb).bel hW) hl ((hE.below hb).below hW))
  obtain ⟨a, f, h1⟩ := optV_is (wholeJ T kLine)
  obtain ⟨b, g, h2⟩ := optV_is (wholeJ T kChar)
  have HPO := hide (pos_of h1 h2)
  rw [h1] at HLC
  rw [h2] at HCC
  clear h1 h2
  unfold vagg kLine at HLC
  unfold vagg kChar at HCC
  unfold vagg
  simp only at HLC HCC ⊢
  generalize posV (posJ T) = PV at *
  have HPV := hide hp
  have HQ := hide hq
  have HB : Hid (Below w0.heap.size w0 w0) := Below.refl _ _
  have HW0 := hide hw0
  have HB1 := hide hb
  clear hw0 hp hq hb hx hl hE
  have v0 : w0.cell? ⟨w.heap.size, 0, none⟩ = some (.int .i64 k) := (HPV.out.below HB.out).cell 0
  have v1 : w0.cell? ⟨w.heap.size, 1, none⟩ = some (.string s) := (HPV.out.below HB.out).cell 1
  have v2 : w0.cell? ⟨w.heap.size, 2, none⟩ = some (.slice ka kn kc) := (HPV.out.below HB.out).cell 2
  have v3 : w0.cell? ⟨w.heap.size, 3, none⟩ = some (.slice la ln lc) := (HPV.out.below HB.out).cell 3
  go_enter Tryz.func19, Tryz.ntmps19
  go_upto_region 1 with fail
  rw [HW0.out]
  clear HW0
  go_wp2_with fail
  refine (HLC.out w0 HB.out).mono ?_
  rintro e w1 ⟨rfl, hb1⟩
  have HB := hide hb1
  clear hb1 v0 v1 v2 v3 HLC
  have v0 : w1.cell? ⟨w.heap.size, 0, none⟩ = some (.int .i64 k) := (HPV.out.below HB.out).cell 0
  have v1 : w1.cell? ⟨w.heap.size, 1, none⟩ = some (.string s) := (HPV.out.below HB.out).cell 1
  have v2 : w1.cell? ⟨w.heap.size, 2, none⟩ = some (.slice ka kn kc) := (HPV.out.below HB.out).cell 2
  have v3 : w1.cell? ⟨w.heap.size, 3, none⟩ = some (.slice la ln lc) := (HPV.out.below HB.out).cell 3
  go_wp2_with fail
  refine (HCC.out w1 HB.out).mono ?_
  rintro e w2 ⟨rfl, hb9⟩
  have HB2 := hide (HB.out.trans (hb9.mono HB.out.size))
  have HBE := hide (HB1.out.trans (HB2.out.mono HB1.out.size))
  have hq2 := HQ.out.below HB2.out
  have z0 := hq2.cell 0
  have z1 := hq2.cell 1
  simp only [List.getElem?_toArray, List.getElem?_cons_zero, List.getElem?_cons_succ] at z0 z1
  have y0 := hq2.frozen 0
  have y1 := hq2.frozen 1
  have lX := hq2.lt
  have HQ2 := hide hq2
  clear hb9 v0 v1 v2 v3 HCC hq2
  cases f
  · go_wp2
    refine bodyPost_ret (results_pt2 rfl rfl rfl ((HQ2.out.set 0 (.int .i64 0)).set 1 (.int .i64 0))) rfl ?_
    exact ⟨by rw [HPO.out]; rfl, (HBE.out.setCell (p := ⟨w.heap.size + 1, 0, none⟩) (Nat.le_succ _) _).setCell (p := ⟨w.heap.size + 1, 1, none⟩) (Nat.le_succ _) _⟩
  cases g
  · go_wp2
    refine bodyPost_ret (results_pt2 rfl rfl rfl ((HQ2.out.set 0 (.int .i64 0)).set 1 (.int .i64 0))) rfl ?_
    exact ⟨by rw [HPO.out]; rfl, (HBE.out.setCell (p := ⟨w.heap.size + 1, 0, none⟩) (Nat.le_succ _) _).setCell (p := ⟨w.heap.size + 1, 1, none⟩) (Nat.le_succ _) _⟩
  go_wp2
  refine bodyPost_ret (results_pt2 rfl rfl rfl ((HQ2.out.set 0 (.int .i64 a)).set 1 (.int .i64 b))) rfl ?_
  exact ⟨by rw [HPO.out]; rfl, (HBE.out.setCell (p := ⟨w.heap.size + 1, 0, none⟩) (Nat.le_succ _) _).setCell (p := ⟨w.heap.size + 1, 1, none⟩) (Nat.le_succ _) _⟩


end Go.Proofs.YtbdpmpepmjpadaaGreatDoor

namespace Go.Proofs.YtbdpmpepmjpadaaGreatDoor
set_option linter.unusedVariables false
set_option linter.unusedSimpArgs false
set_option maxRecDepth 100000
open Go Go.RowKit Go.Shelf Go.Lib

set_option maxHeartbeats 16000000 in
theorem range_any (w : World) {S : Nat → Prop} {x : JC} {T : JT} (hx : TIn w S x T) (hl : LtT T) (hE : ErrS w) :
    Calls Tryz.prog 21 #[vagg x] w fun e w' => e = .returned (rangeV (rangeJ T)) ∧ Below w.heap.size w w' := by
  obtain ⟨hs2, hs3⟩ := hx.sl
  obtain ⟨k, s, kv, lv⟩ := x
  obtain ⟨ka, kn, kc, rfl⟩ := hs2
  obtain ⟨la, ln, lc, rfl⟩ := hs3
  have hb : Below w.heap.size w (((w.alloc (.cells #[.int .i64 k, .string s, .slice ka kn kc, .slice la ln lc] 27)).alloc (.cells #[.int .i64 0, .int .i64 0] 59)).alloc (.cells #[.int .i64 0, .int .i64 0] 59)) := ((bel w _).alloc (by simp) _).alloc (by simp only [World.size_alloc]; omega) _
  have hp := ((BoxC.new w 27 #[.int .i64 k, .string s, .slice ka kn kc, .slice la ln lc]).alloc (.cells #[.int .i64 0, .int .i64 0] 59)).alloc (.cells #[.int .i64 0, .int .i64 0] 59)
  have hqa := (BoxC.new (w.alloc (.cells #[.int .i64 k, .string s, .slice ka kn kc, .slice la ln lc] 27)) 59 #[.int .i64 0, .int .i64 0]).alloc (.cells #[.int .i64 0, .int .i64 0] 59)
  have hqb := BoxC.new ((w.alloc (.cells #[.int .i64 k, .string s, .slice ka kn kc, .slice la ln lc] 27)).alloc (.cells #[.int .i64 0, .int .i64 0] 59)) 59 #[.int .i64 0, .int .i64 0]
  rw [World.size_alloc] at hqa
  rw [World.size_alloc, World.size_alloc] at hqb
  generalize hw0 : ((w.alloc (.cells #[.int .i64 k, .string s, .slice ka kn kc, .slice la ln lc] 27)).alloc (.cells #[.int .i64 0, .int .i64 0] 59)).alloc (.cells #[.int .i64 0, .int .i64 0] 59) = w0 at *
  have HG1 := hide (fun W (h : TIn W S (k, s, .slice ka kn kc, .slice la ln lc) T) => get_any kStart W h hl)
  have HG2 := hide (fun W (h : TIn W S (k, s, .slice ka kn kc, .slice la ln lc) T) => get_any kEnd W h hl)
  obtain ⟨a, b, f, h1⟩ := posV_is ((getJ T kStart).bind posJ)
  obtain ⟨c, d, g, h2⟩ := posV_is ((getJ T kEnd).bind posJ)
  have HPO := hide (range_of h1 h2)
  have HP1 : Hid (∀ (W : World) (S' : Nat → Prop) (y : JC), TIn W S' y (((getJ T kStart).map clJ).getD zeroT) → Below w.heap.size w W → Calls Tryz.prog 19 #[vagg y] W fun e w' => e = .returned (.tuple #[.agg #[.int .i64 a, .int .i64 b], .bool f]) ∧ Below W.heap.size W w') := fun W S' y hy hw => by
    have h := pos_any W hy (getT_clt (getT_lt hl kStart)) (hE.below hw)
    have e : posV (posJ (((getJ T kStart).map clJ).getD zeroT)) = .tuple #[.agg #[.int .i64 a, .int .i64 b], .bool f] := by
      rw [(pos_got (getJ T kStart)).1]
      exact h1
    rw [e] at h
    exact h
  have HP2 : Hid (∀ (W : World) (S' : Nat → Prop) (y : JC), TIn W S' y (((getJ T kEnd).map clJ).getD zeroT) → Below w.heap.size w W → Calls Tryz.prog 19 #[vagg y] W fun e w' => e = .returned (.tuple #[.agg #[.int .i64 c, .int .i64 d], .bool g]) ∧ Below W.heap.size W w') := fun W S' y hy hw => by
    have h := pos_any W hy (getT_clt (getT_lt hl kEnd)) (hE.below hw)
    have e : posV (posJ (((getJ T kEnd).map clJ).getD zeroT)) = .tuple #[.agg #[.int .i64 c, .int .i64 d], .bool g] := by
      rw [(pos_got (getJ T kEnd)).1]
      exact h2
    rw [e] at h
    exact h
  clear h1 h2
  unfold GetR at HG1 HG2
  generalize rangeV (rangeJ T) = PV at *
  generalize (((getJ T kStart).map clJ).getD zeroT) = Tp at *
  generalize (((getJ T kEnd).map clJ).getD zeroT) = Tq at *
  generalize (getJ T kStart).isSome = gp at *
  generalize (getJ T kEnd).isSome = gq at *
  unfold vagg kStart at HG1
  unfold vagg kEnd at HG2
  unfold vagg at HP1 HP2 ⊢
  simp only at HG1 HG2 HP1 HP2 ⊢
  have HPV := hide hp
  have HQA := hide hqa
  have HQB := hide hqb
  have HXT := hide (hx.bel hb)
  have HW0 := hide hw0
  have HB := hide hb
  clear hw0 hp hqa hqb hb hx hE hl
  have v0 : w0.cell? ⟨w.heap.size, 0, none⟩ = some (.int .i64 k) := HPV.out.cell 0
  have v1 : w0.cell? ⟨w.heap.size, 1, none⟩ = some (.string s) := HPV.out.cell 1
  have v2 : w0.cell? ⟨w.heap.size, 2, none⟩ = some (.slice ka kn kc) := HPV.out.cell 2
  have v3 : w0.cell? ⟨w.heap.size, 3, none⟩ = some (.slice la ln lc) := HPV.out.cell 3
  go_enter Tryz.func21, Tryz.ntmps21
  go_upto_region 1 with fail
  rw [HW0.out]
  clear HW0
  go_wp2_with fail
  refine (HG1.out w0 HXT.out).mono ?_
  rintro e w1 ⟨⟨pk, ps, pK, pL⟩, rfl, hb9, hT⟩
  obtain ⟨h4, h5⟩ := hT.sl
  simp only at h4 h5
  obtain ⟨pa, pn, pc, rfl⟩ := h4
  obtain ⟨pd, pe, pf, rfl⟩ := h5
  simp only [vagg]
  have HTp := hide hT
  have HSZp : Hid (w.heap.size + 1 + 1 < w0.heap.size) := HQB.out.lt
  have HLp : Hid (w.heap.size + 1 + 1 < w1.heap.size) := Nat.lt_of_lt_of_le HSZp.out hb9.size
  clear v0 v1 v2 v3 hT
  have HB9 := hide (HB.out.trans (hb9.mono HB.out.size))
  clear HB
  have HB := HB9
  clear HB9
  have HPV9 := hide (HPV.out.below hb9)
  clear HPV
  have HPV := HPV9
  clear HPV9
  have HQA9 := hide (HQA.out.below hb9)
  clear HQA
  have HQA := HQA9
  clear HQA9
  have HQB9 := hide (HQB.out.below hb9)
  clear HQB
  have HQB := HQB9
  clear HQB9
  have HXT9 := hide (HXT.out.bel hb9)
  clear HXT
  have HXT := HXT9
  clear HXT9
  clear hb9
  have hb9 := bel w1 (.cells #[.int .i64 pk, .string ps, .slice pa pn pc, .slice pd pe pf] 27)
  have HBp := hide (BoxC.new w1 27 #[.int .i64 pk, .string ps, .slice pa pn pc, .slice pd pe pf])
  have HB9 := hide (HB.out.trans (hb9.mono HB.out.size))
  clear HB
  have HB := HB9
  clear HB9
  have HPV9 := hide (HPV.out.below hb9)
  clear HPV
  have HPV := HPV9
  clear HPV9
  have HQA9 := hide (HQA.out.below hb9)
  clear HQA
  have HQA := HQA9
  clear HQA9
  have HQB9 := hide (HQB.out.below hb9)
  clear HQB
  have HQB := HQB9
  clear HQB9
  have HXT9 := hide (HXT.out.bel hb9)
  clear HXT
  have HXT := HXT9
  clear HXT9
  have HTp9 := hide (HTp.out.bel hb9)
  clear HTp
  have HTp := HTp9
  clear HTp9
  clear hb9
  go_upto_region 2 with fail
  generalize w1.heap.size = Bp at *
  generalize w1.alloc (.cells #[.int .i64 pk, .string ps, .slice pa pn pc, .slice pd pe pf] 27) = w2 at *
  have v0 : w2.cell? ⟨w.heap.size, 0, none⟩ = some (.int .i64 k) := HPV.out.cell 0
  have v1 : w2.cell? ⟨w.heap.size, 1, none⟩ = some (.string s) := HPV.out.cell 1
  have v2 : w2.cell? ⟨w.heap.size, 2, none⟩ = some (.slice ka kn kc) := HPV.out.cell 2
  have v3 : w2.cell? ⟨w.heap.size, 3, none⟩ = some (.slice la ln lc) := HPV.out.cell 3
  go_wp2_with fail
  refine (HG2.out w2 HXT.out).mono ?_
  rintro e w3 ⟨⟨qk, qs, qK, qL⟩, rfl, hb9, hT⟩
  obtain ⟨h4, h5⟩ := hT.sl
  simp only at h4 h5
  obtain ⟨qa, qn, qc, rfl⟩ := h4
  obtain ⟨qd, qe, qf, rfl⟩ := h5
  simp only [vagg]
  have HTq := hide hT
  have HSZq : Hid (w.heap.size + 1 + 1 < w2.heap.size) := HQB.out.lt
  have HLq : Hid (w.heap.size + 1 + 1 < w3.heap.size) := Nat.lt_of_lt_of_le HSZq.out hb9.size
  clear v0 v1 v2 v3 hT
  have HB9 := hide (HB.out.trans (hb9.mono HB.out.size))
  clear HB
  have HB := HB9
  clear HB9
  have HPV9 := hide (HPV.out.below hb9)
  clear HPV
  have HPV := HPV9
  clear HPV9
  have HQA9 := hide (HQA.out.below hb9)
  clear HQA
  have HQA := HQA9
  clear HQA9
  have HQB9 := hide (HQB.out.below hb9)
  clear HQB
  have HQB := HQB9
  clear HQB9
  have HXT9 := hide (HXT.out.bel hb9)
  clear HXT
  have HXT := HXT9
  clear HXT9
  have HTp9 := hide (HTp.out.bel hb9)
  clear HTp
  have HTp := HTp9
  clear HTp9
  have HBp9 := hide (HBp.out.below hb9)
  clear HBp
  have HBp := HBp9
  clear HBp9
  clear hb9
  have hb9 := bel w3 (.cells #[.int .i64 qk, .string qs, .slice qa qn qc, .slice qd qe qf] 27)
  have HBq := hide (BoxC.new w3 27 #[.int .i64 qk, .string qs, .slice qa qn qc, .slice qd qe qf])
  have HB9 := hide (HB.out.trans (hb9.mono HB.out.size))
  clear HB
  have HB := HB9
  clear HB9
  have HPV9 := hide (HPV.out.below hb9)
  clear HPV
  have HPV := HPV9
  clear HPV9
  have HQA9 := hide (HQA.out.below hb9)
  clear HQA
  have HQA := HQA9
  clear HQA9
  have HQB9 := hide (HQB.out.below hb9)
  clear HQB
  have HQB := HQB9
  clear HQB9
  have HXT9 := hide (HXT.out.bel hb9)
  clear HXT
  have HXT := HXT9
  clear HXT9
  have HTp9 := hide (HTp.out.bel hb9)
  clear HTp
  have HTp := HTp9
  clear HTp9
  have HBp9 := hide (HBp.out.below hb9)
  clear HBp
  have HBp := HBp9
  clear HBp9
  have HTq9 := hide (HTq.out.bel hb9)
  clear HTq
  have HTq := HTq9
  clear HTq9
  clear hb9
  go_upto_region 3 with fail
  generalize w3.heap.size = Bq at *
  generalize w3.alloc (.cells #[.int .i64 qk, .string qs, .slice qa qn qc, .slice qd qe qf] 27) = w4 at *
  have v0 := HBp.out.cell 0
  have v1 := HBp.out.cell 1
  have v2 := HBp.out.cell 2
  have v3 := HBp.out.cell 3
  simp only [List.getElem?_toArray, List.getElem?_cons_zero, List.getElem?_cons_succ] at v0 v1 v2 v3
  go_wp2_with fail
  refine (HP1.out w4 _ _ HTp.out HB.out).mono ?_
  rintro e w5 ⟨rfl, hb9⟩
  clear v0 v1 v2 v3
  have HB9 := hide (HB.out.trans (hb9.mono HB.out.size))
  clear HB
  have HB := HB9
  clear HB9
  have HQA9 := hide (HQA.out.below hb9)
  clear HQA
  have HQA := HQA9
  clear HQA9
  have HQB9 := hide (HQB.out.below hb9)
  clear HQB
  have HQB := HQB9
  clear HQB9
  have HTq9 := hide (HTq.out.bel hb9)
  clear HTq
  have HTq := HTq9
  clear HTq9
  have HBq9 := hide (HBq.out.below hb9)
  clear HBq
  have HBq := HBq9
  clear HBq9
  clear hb9
  have z0 := HQA.out.cell 0
  have z1 := HQA.out.cell 1
  simp only [List.getElem?_toArray, List.getElem?_cons_zero, List.getElem?_cons_succ] at z0 z1
  have y0 := HQA.out.frozen 0
  have y1 := HQA.out.frozen 1
  have lX := HQA.out.lt
  have HQA2 : Hid (BoxC ((w5.setCell ⟨w.heap.size + 1, 0, none⟩ (.int .i64 a)).setCell ⟨w.heap.size + 1, 1, none⟩ (.int .i64 b)) (w.heap.size + 1) 59 #[.int .i64 a, .int .i64 b]) := (HQA.out.set 0 _).set 1 _
  have HQB2 := hide ((HQB.out.other (show w.heap.size + 1 + 1 ≠ w.heap.size + 1 by omega) 0 (.int .i64 a)).other (show w.heap.size + 1 + 1 ≠ w.heap.size + 1 by omega) 1 (.int .i64 b))
  have HBC : Hid (Below w.heap.size w ((w5.setCell ⟨w.heap.size + 1, 0, none⟩ (.int .i64 a)).setCell ⟨w.heap.size + 1, 1, none⟩ (.int .i64 b))) := (HB.out.setCell (p := ⟨w.heap.size + 1, 0, none⟩) (Nat.le_succ _) _).setCell (p := ⟨w.heap.size + 1, 1, none⟩) (Nat.le_succ _) _
  have HTq2 := hide (HTq.out.keep (W' := (w5.setCell ⟨w.heap.size + 1, 0, none⟩ (.int .i64 a)).setCell ⟨w.heap.size + 1, 1, none⟩ (.int .i64 b)) (S' := fun _ => True) (fun b' hs _ => by
    have hs' : w2.heap.size ≤ b' := hs
    have hl := HSZq.out
    have hne : b' ≠ w.heap.size + 1 := by omega
    exact ⟨trivial, by rw [Below.heap_setCell _ ⟨w.heap.size + 1, 1, none⟩ _ b' hne, Below.heap_setCell _ ⟨w.heap.size + 1, 0, none⟩ _ b' hne]⟩))
  have hlq : w.heap.size + 1 < Bq := by
    have h1 := HLq.out
    omega
  have HBq2 := hide ((HBq.out.other (show Bq ≠ w.heap.size + 1 by omega) 0 (.int .i64 a)).other (show Bq ≠ w.heap.size + 1 by omega) 1 (.int .i64 b))
  clear HQA HQB HB HTq HBq hlq HBp HTp
  have HQA := HQA2
  have HQB := HQB2
  have HB := HBC
  have HTq := HTq2
  have HBq := HBq2
  clear HQA2 HQB2 HBC HTq2 HBq2
  go_upto_region 4 with fail
  generalize (w5.setCell ⟨w.heap.size + 1, 0, none⟩ (.int .i64 a)).setCell ⟨w.heap.size + 1, 1, none⟩ (.int .i64 b) = w6 at *
  clear z0 z1 y0 y1 lX
  have v0 := HBq.out.cell 0
  have v1 := HBq.out.cell 1
  have v2 := HBq.out.cell 2
  have v3 := HBq.out.cell 3
  simp only [List.getElem?_toArray, List.getElem?_cons_zero, List.getElem?_cons_succ] at v0 v1 v2 v3
  go_wp2_with fail
  refine (HP2.out w6 _ _ HTq.out HB.out).mono ?_
  rintro e w7 ⟨rfl, hb9⟩
  clear v0 v1 v2 v3
  have HB9 := hide (HB.out.trans (hb9.mono HB.out.size))
  clear HB
  have HB := HB9
  clear HB9
  have HQA9 := hide (HQA.out.below hb9)
  clear HQA
  have HQA := HQA9
  clear HQA9
  have HQB9 := hide (HQB.out.below hb9)
  clear HQB
  have HQB := HQB9
  clear HQB9
  clear hb9 HTq HBq
  have z0 := HQB.out.cell 0
  have z1 := HQB.out.cell 1
  simp only [List.getElem?_toArray, List.getElem?_cons_zero, List.getElem?_cons_succ] at z0 z1
  have y0 := HQB.out.frozen 0
  have y1 := HQB.out.frozen 1
  have lX := HQB.out.lt
  have HQB2 : Hid (BoxC ((w7.setCell ⟨w.heap.size + 1 + 1, 0, none⟩ (.int .i64 c)).setCell ⟨w.heap.size + 1 + 1, 1, none⟩ (.int .i64 d)) (w.heap.size + 1 + 1) 59 #[.int .i64 c, .int .i64 d]) := (HQB.out.set 0 _).set 1 _
  have HQA2 := hide ((HQA.out.other (show w.heap.size + 1 ≠ w.heap.size + 1 + 1 by omega) 0 (.int .i64 c)).other (show w.heap.size + 1 ≠ w.heap.size + 1 + 1 by omega) 1 (.int .i64 d))
  have HBC : Hid (Below w.heap.size w ((w7.setCell ⟨w.heap.size + 1 + 1, 0, none⟩ (.int .i64 c)).setCell ⟨w.heap.size + 1 + 1, 1, none⟩ (.int .i64 d))) := (HB.out.setCell (p := ⟨w.heap.size + 1 + 1, 0, none⟩) (by show w.heap.size ≤ w.heap.size + 1 + 1; omega) _).setCell (p := ⟨w.heap.size + 1 + 1, 1, none⟩) (by show w.heap.size ≤ w.heap.size + 1 + 1; omega) _
  clear HQA HQB HB
  have HQA := HQA2
  have HQB := HQB2
  have HB := HBC
  clear HQA2 HQB2 HBC
  go_upto_region 5 with fail
  generalize (w7.setCell ⟨w.heap.size + 1 + 1, 0, none⟩ (.int .i64 c)).setCell ⟨w.heap.size + 1 + 1, 1, none⟩ (.int .i64 d) = w8 at *
  clear z0 z1 y0 y1 lX
  cases f
  · have HZA := hide ((((HQA.out.set 0 (.int .i64 0)).set 1 (.int .i64 0)).other (show w.heap.size + 1 ≠ w.heap.size + 1 + 1 by omega) 0 (.int .i64 0)).other (show w.heap.size + 1 ≠ w.heap.size + 1 + 1 by omega) 1 (.int .i64 0))
    have HZB := hide ((((HQB.out.other (show w.heap.size + 1 + 1 ≠ w.heap.size + 1 by omega) 0 (.int .i64 0)).other (show w.heap.size + 1 + 1 ≠ w.heap.size + 1 by omega) 1 (.int .i64 0)).set 0 (.int .i64 0)).set 1 (.int .i64 0))
    have HZC := hide ((((HB.out.setCell (p := ⟨w.heap.size + 1, 0, none⟩) (Nat.le_succ _) (.int .i64 0)).setCell (p := ⟨w.heap.size + 1, 1, none⟩) (Nat.le_succ _) (.int .i64 0)).setCell (p := ⟨w.heap.size + 1 + 1, 0, none⟩) (by show w.heap.size ≤ w.heap.size + 1 + 1; omega) (.int .i64 0)).setCell (p := ⟨w.heap.size + 1 + 1, 1, none⟩) (by show w.heap.size ≤ w.heap.size + 1 + 1; omega) (.int .i64 0))
    have za0 := HQA.out.cell 0
    have za1 := HQA.out.cell 1
    simp only [List.getElem?_toArray, List.getElem?_cons_zero, List.getElem?_cons_succ] at za0 za1
    have ya0 := HQA.out.frozen 0
    have ya1 := HQA.out.frozen 1
    have lXa := HQA.out.lt
    have zb0 := HQB.out.cell 0
    have zb1 := HQB.out.cell 1
    simp only [List.getElem?_toArray, List.getElem?_cons_zero, List.getElem?_cons_succ] at zb0 zb1
    have yb0 := HQB.out.frozen 0
    have yb1 := HQB.out.frozen 1
    have lXb := HQB.out.lt
    go_wp2
    refine bodyPost_ret (results_pt3 rfl rfl rfl rfl HZA.out HZB.out) rfl ?_
    exact ⟨by rw [HPO.out]; rfl, HZC.out⟩
  cases g
  · have HZA := hide ((((HQA.out.set 0 (.int .i64 0)).set 1 (.int .i64 0)).other (show w.heap.size + 1 ≠ w.heap.size + 1 + 1 by omega) 0 (.int .i64 0)).other (show w.heap.size + 1 ≠ w.heap.size + 1 + 1 by omega) 1 (.int .i64 0))
    have HZB := hide ((((HQB.out.other (show w.heap.size + 1 + 1 ≠ w.heap.size + 1 by omega) 0 (.int .i64 0)).other (show w.heap.size + 1 + 1 ≠ w.heap.size + 1 by omega) 1 (.int .i64 0)).set 0 (.int .i64 0)).set 1 (.int .i64 0))
    have HZC := hide ((((HB.out.setCell (p := ⟨w.heap.size + 1, 0, none⟩) (Nat.le_succ _) (.int .i64 0)).setCell (p := ⟨w.heap.size + 1, 1, none⟩) (Nat.le_succ _) (.int .i64 0)).setCell (p := ⟨w.heap.size + 1 + 1, 0, none⟩) (by show w.heap.size ≤ w.heap.size + 1 + 1; omega) (.int .i64 0)).setCell (p := ⟨w.heap.size + 1 + 1, 1, none⟩) (by show w.heap.size ≤ w.heap.size + 1 + 1; omega) (.int .i64 0))
    have za0 := HQA.out.cell 0
    have za1 := HQA.out.cell 1
    simp only [List.getElem?_toArray, List.getElem?_cons_zero, List.getElem?_cons_succ] at za0 za1
    have ya0 := HQA.out.frozen 0
    have ya1 := HQA.out.frozen 1
    have lXa := HQA.out.lt
    have zb0 := HQB.out.cell 0
    have zb1 := HQB.out.cell 1
    simp only [List.getElem?_toArray, List.getElem?_cons_zero, List.getElem?_cons_succ] at zb0 zb1
    have yb0 := HQB.out.frozen 0
    have yb1 := HQB.out.frozen 1
    have lXb := HQB.out.lt
    go_wp2
    refine bodyPost_ret (results_pt3 rfl rfl rfl rfl HZA.out HZB.out) rfl ?_
    exact ⟨by rw [HPO.out]; rfl, HZC.out⟩
  go_upto_region 7 with fail
  refine wp_region_held_drew (S := fun X0 : World => X0.cell? ⟨w.heap.size + 1, 0, none⟩ = some (.int .i64 a) ∧ X0.cell? ⟨w.heap.size + 1, 1, none⟩ = some (.int .i64 b) ∧ X0.cell? ⟨w.heap.size + 1 + 1, 0, none⟩ = some (.int .i64 c) ∧ X0.cell? ⟨w.heap.size + 1 + 1, 1, none⟩ = some (.int .i64 d)) (by kernel_rfl) ⟨HQA.out.cell 0, HQA.out.cell 1, HQB.out.cell 0, HQB.out.cell 1⟩ (fun hHeld => ?_)
  have HQA2 : Hid (BoxC w8.drew (w.heap.size + 1) 59 #[.int .i64 a, .int .i64 b]) := HQA.out
  have HQB2 : Hid (BoxC w8.drew (w.heap.size + 1 + 1) 59 #[.int .i64 c, .int .i64 d]) := HQB.out
  have HB2 : Hid (Below w.heap.size w w8.drew) := HB.out.drew
  clear HQA HQB HB
  generalize w8.drew = w9 at *
  have HS : Hid (w9.cell? ⟨w.heap.size + 1, 0, none⟩ = some (.int .i64 a) ∧ w9.cell? ⟨w.heap.size + 1, 1, none⟩ = some (.int .i64 b) ∧ w9.cell? ⟨w.heap.size + 1 + 1, 0, none⟩ = some (.int .i64 c) ∧ w9.cell? ⟨w.heap.size + 1 + 1, 1, none⟩ = some (.int .i64 d)) := ⟨HQA2.out.cell 0, HQA2.out.cell 1, HQB2.out.cell 0, HQB2.out.cell 1⟩
  refine takeD (i := 0) (v := ?v1) (some 39) rfl (by kernel_rfl) (by kernel_rfl) (by kernel_rfl) (fun _ _ _ h => h) (Or.inl ⟨by rfl, ?hy1⟩) (HS.out) (by rfl) ?rest1
  case hy1 => first | (intro w hSw; (try dsimp only at hSw); obtain ⟨s0, s1, s2, s3⟩ := hSw; go_simp; done) | (intro w hSw; (try dsimp only at hSw); obtain ⟨s0, s1, s2, s3⟩ := hSw; go_simp; with_reducible rfl)
  try simp only [Act.put, List.setIfInBounds_toArray, List.set_cons_zero, List.set_cons_succ, vagg]
  refine takeD (i := 1) (v := ?v2) (some 40) rfl (by kernel_rfl) (by kernel_rfl) (by kernel_rfl) (fun _ _ _ h => h) (Or.inl ⟨by rfl, ?hy2⟩) (HS.out) (by rfl) ?rest2
  case hy2 => first | (intro w hSw; (try dsimp only at hSw); obtain ⟨s0, s1, s2, s3⟩ := hSw; go_simp; done) | (intro w hSw; (try dsimp only at hSw); obtain ⟨s0, s1, s2, s3⟩ := hSw; go_simp; with_reducible rfl)
  try simp only [Act.put, List.setIfInBounds_toArray, List.set_cons_zero, List.set_cons_succ, vagg]
  have HQA3 : Hid (BoxC ((w9.setCell ⟨w.heap.size + 1, 0, none⟩ (.int .i64 a)).setCell ⟨w.heap.size + 1, 1, none⟩ (.int .i64 b)) (w.heap.size + 1) 59 #[.int .i64 a, .int .i64 b]) := (HQA2.out.set 0 _).set 1 _
  have HQB3 := hide ((HQB2.out.other (show w.heap.size + 1 + 1 ≠ w.heap.size + 1 by omega) 0 (.int .i64 a)).other (show w.heap.size + 1 + 1 ≠ w.heap.size + 1 by omega) 1 (.int .i64 b))
  have HBC : Hid (Below w.heap.size w ((w9.setCell ⟨w.heap.size + 1, 0, none⟩ (.int .i64 a)).setCell ⟨w.heap.size + 1, 1, none⟩ (.int .i64 b))) := (HB2.out.setCell (p := ⟨w.heap.size + 1, 0, none⟩) (Nat.le_succ _) _).setCell (p := ⟨w.heap.size + 1, 1, none⟩) (Nat.le_succ _) _
  have z0 := HQA2.out.cell 0
  have z1 := HQA2.out.cell 1
  simp only [List.getElem?_toArray, List.getElem?_cons_zero, List.getElem?_cons_succ] at z0 z1
  have y0 := HQA2.out.frozen 0
  have y1 := HQA2.out.frozen 1
  have lX := HQA2.out.lt
  refine wpAnyH_ready (rs := [2]) (by kernel_rfl) (by simp) ?_
  refine AllReadyH.cons rfl (fun K9 hK => ?_) AllReadyH.nil
  go_simp
  refine hK.out _ _ ⟨HQA3.out.cell 0, HQA3.out.cell 1, HQB3.out.cell 0, HQB3.out.cell 1⟩ (fun _ => ?_)
  clear hK K9 HQA2 HQB2 HB2 HS z0 z1 y0 y1 lX
  try simp only [Act.put, List.setIfInBounds_toArray, List.set_cons_zero, List.set_cons_succ, vagg]
  generalize (w9.setCell ⟨w.heap.size + 1, 0, none⟩ (.int .i64 a)).setCell ⟨w.heap.size + 1, 1, none⟩ (.int .i64 b) = wa at *
  have HQB4 : Hid (BoxC ((wa.setCell ⟨w.heap.size + 1 + 1, 0, none⟩ (.int .i64 c)).setCell ⟨w.heap.size + 1 + 1, 1, none⟩ (.int .i64 d)) (w.heap.size + 1 + 1) 59 #[.int .i64 c, .int .i64 d]) := (HQB3.out.set 0 _).set 1 _
  have HQA4 := hide ((HQA3.out.other (show w.heap.size + 1 ≠ w.heap.size + 1 + 1 by omega) 0 (.int .i64 c)).other (show w.heap.size + 1 ≠ w.heap.size + 1 + 1 by omega) 1 (.int .i64 d))
  have HBD : Hid (Below w.heap.size w ((wa.setCell ⟨w.heap.size + 1 + 1, 0, none⟩ (.int .i64 c)).setCell ⟨w.heap.size + 1 + 1, 1, none⟩ (.int .i64 d))) := (HBC.out.setCell (p := ⟨w.heap.size + 1 + 1, 0, none⟩) (by show w.heap.size ≤ w.heap.size + 1 + 1; omega) _).setCell (p := ⟨w.heap.size + 1 + 1, 1, none⟩) (by show w.heap.size ≤ w.heap.size + 1 + 1; omega) _
  have z0 := HQB3.out.cell 0
  have z1 := HQB3.out.cell 1
  simp only [List.getElem?_toArray, List.getElem?_cons_zero, List.getElem?_cons_succ] at z0 z1
  have y0 := HQB3.out.frozen 0
  have y1 := HQB3.out.frozen 1
  have lX := HQB3.out.lt
  refine wpAnyH_ready (rs := [3]) (by kernel_rfl) (by simp) ?_
  refine AllReadyH.cons rfl (fun K9 hK => ?_) AllReadyH.nil
  go_simp
  refine hK.out _ _ ⟨HQA4.out.cell 0, HQA4.out.cell 1, HQB4.out.cell 0, HQB4.out.cell 1⟩ (fun _ => ?_)
  clear hK K9 z0 z1 y0 y1 lX
  try simp only [Act.put, List.setIfInBounds_toArray, List.set_cons_zero, List.set_cons_succ, vagg]
  have HS : Hid (((wa.setCell ⟨w.heap.size + 1 + 1, 0, none⟩ (.int .i64 c)).setCell ⟨w.heap.size + 1 + 1, 1, none⟩ (.int .i64 d)).cell? ⟨w.heap.size + 1, 0, none⟩ = some (.int .i64 a) ∧ ((wa.setCell ⟨w.heap.size + 1 + 1, 0, none⟩ (.int .i64 c)).setCell ⟨w.heap.size + 1 + 1, 1, none⟩ (.int .i64 d)).cell? ⟨w.heap.size + 1, 1, none⟩ = some (.int .i64 b) ∧ ((wa.setCell ⟨w.heap.size + 1 + 1, 0, none⟩ (.int .i64 c)).setCell ⟨w.heap.size + 1 + 1, 1, none⟩ (.int .i64 d)).cell? ⟨w.heap.size + 1 + 1, 0, none⟩ = some (.int .i64 c) ∧ ((wa.setCell ⟨w.heap.size + 1 + 1, 0, none⟩ (.int .i64 c)).setCell ⟨w.heap.size + 1 + 1, 1, none⟩ (.int .i64 d)).cell? ⟨w.heap.size + 1 + 1, 1, none⟩ = some (.int .i64 d)) := ⟨HQA4.out.cell 0, HQA4.out.cell 1, HQB4.out.cell 0, HQB4.out.cell 1⟩
  refine takeD (i := 4) (v := ?v3) (some 4) rfl (by kernel_rfl) (by kernel_rfl) (by kernel_rfl) (fun _ _ _ h => h) (Or.inl ⟨by rfl, ?hy3⟩) (HS.out) (by rfl) ?rest3
  case hy3 => first | (intro w hSw; (try dsimp only at hSw); obtain ⟨s0, s1, s2, s3⟩ := hSw; go_simp; done) | (intro w hSw; (try dsimp only at hSw); obtain ⟨s0, s1, s2, s3⟩ := hSw; go_simp; with_reducible rfl)
  try simp only [Act.put, List.setIfInBounds_toArray, List.set_cons_zero, List.set_cons_succ, vagg]
  refine wpAnyH_done (by kernel_rfl) ?_ _
  go_wp2
  refine bodyPost_ret (results_pt3 rfl rfl rfl rfl HQA4.out HQB4.out) rfl ?_
  exact ⟨by rw [HPO.out]; rfl, HBD.out⟩


end Go.Proofs.YtbdpmpepmjpadaaGreatDoor

namespace Go.Proofs.YtbdpmpepmjpadaaGreatDoor
set_option linter.unusedVariables false
set_option linter.unusedSimpArgs false
set_option maxRecDepth 100000
open Go Go.RowKit Go.Shelf Go.Lib

theorem whole_of {T : JT} {key : ByteArray} {a : Int} {f : Bool} (h : optV (wholeJ T key) = .tuple #[.int .i64 a, .bool f]) : (getJ T key).isSome = false → f = false := by
  intro hg
  unfold wholeJ at h
  cases hj : getJ T key with
  | none =>
    rw [hj] at h
    simp [optV] at h
    exact h.2.symm ▸ rfl
  | some t => rw [hj] at hg; cases hg
theorem rpos_of {T : JT} {a b : Int} {f g p q : Bool} (h1 : optV (wholeJ T kLine) = .tuple #[.int .i64 a, .bool f]) (h2 : optV (wholeJ T kChar) = .tuple #[.int .i64 b, .bool g]) (hp : (getJ T kLine).isSome = p) (hq : (getJ T kChar).isSome = q) :
    posV (posJ T) = if (p && q && f && g) = true then .tuple #[.agg #[.int .i64 a, .int .i64 b], .bool true] else .tuple #[.agg #[.int .i64 0, .int .i64 0], .bool false] := by
  rw [pos_of h1 h2]
  have e1 := whole_of h1
  have e2 := whole_of h2
  rw [hp] at e1
  rw [hq] at e2
  cases p <;> cases q <;> simp_all
theorem posV_no {o : Option (Int × Int)} {a b : Int} {f : Bool} (h : posV o = .tuple #[.agg #[.int .i64 a, .int .i64 b], .bool f]) : f = o.isSome := by
  simp [posV] at h
  exact h.2.symm
theorem rrange_of {T : JT} {a b c d : Int} {f g p q : Bool} (h1 : posV ((getJ T kStart).bind posJ) = .tuple #[.agg #[.int .i64 a, .int .i64 b], .bool f]) (h2 : posV ((getJ T kEnd).bind posJ) = .tuple #[.agg #[.int .i64 c, .int .i64 d], .bool g]) (hp : (getJ T kStart).isSome = p) (hq : (getJ T kEnd).isSome = q) :
    rangeV (rangeJ T) = if (p && q && f && g) = true then .tuple #[.agg #[.int .i64 a, .int .i64 b], .agg #[.int .i64 c, .int .i64 d], .bool true] else .tuple #[.agg #[.int .i64 0, .int .i64 0], .agg #[.int .i64 0, .int .i64 0], .bool false] := by
  rw [range_of h1 h2]
  have e1 := posV_no h1
  have e2 := posV_no h2
  have z1 : p = false → f = false := fun hz => by
    rw [hz] at hp
    rw [e1]
    cases hj : getJ T kStart with
    | none => rfl
    | some t => rw [hj] at hp; cases hp
  have z2 : q = false → g = false := fun hz => by
    rw [hz] at hq
    rw [e2]
    cases hj : getJ T kEnd with
    | none => rfl
    | some t => rw [hj] at hq; cases hq
  clear e1 e2 h1 h2 hp hq
  cases p <;> cases q <;> simp_all

set_option maxHeartbeats 16000000 in
theorem rpos_any (w : World) {S : Nat → Prop} {x : JC} {T : JT} (hx : TIn w S x T) (hl : LtT T) :
    Calls Tryz.prog 20 #[vagg x] w fun e w' => e = .returned (posV (posJ T)) ∧ Below w.heap.size w w' := by
  obtain ⟨hs2, hs3⟩ := hx.sl
  obtain ⟨k, s, kv, lv⟩ := x
  obtain ⟨ka, kn, kc, rfl⟩ := hs2
  obtain ⟨la, ln, lc, rfl⟩ := hs3
  have hb : Below w.heap.size w ((w.alloc (.cells #[.int .i64 k, .string s, .slice ka kn kc, .slice la ln lc] 36)).alloc (.cells #[.int .i64 0, .int .i64 0] 59)) := (bel w _).alloc (by simp) _
  have hp := (BoxC.new w 36 #[.int .i64 k, .string s, .slice ka kn kc, .slice la ln lc]).alloc (.cells #[.int .i64 0, .int .i64 0] 59)
  have hq := BoxC.new (w.alloc (.cells #[.int .i64 k, .string s, .slice ka kn kc, .slice la ln lc] 36)) 59 #[.int .i64 0, .int .i64 0]
  rw [World.size_alloc] at hq
  generalize hw0 : (w.alloc (.cells #[.int .i64 k, .string s, .slice ka kn kc, .slice la ln lc] 36)).alloc (.cells #[.int .i64 0, .int .i64 0] 59) = w0 at *
  have HG1 := hide (fun W (h : TIn W S (k, s, .slice ka kn kc, .slice la ln lc) T) => rget_any kLine W h hl)
  have HG2 := hide (fun W (h : TIn W S (k, s, .slice ka kn kc, .slice la ln lc) T) => rget_any kChar W h hl)
  obtain ⟨a, f, h1⟩ := optV_is (wholeJ T kLine)
  obtain ⟨b, g, h2⟩ := optV_is (wholeJ T kChar)
  obtain ⟨gp, hgp⟩ : ∃ gp, (getJ T kLine).isSome = gp := ⟨_, rfl⟩
  obtain ⟨gq, hgq⟩ : ∃ gq, (getJ T kChar).isSome = gq := ⟨_, rfl⟩
  have HPO := hide (rpos_of h1 h2 hgp hgq)
  have HI1 : Hid (∀ (W : World) (S' : Nat → Prop) (y : JC), TIn W S' y ((getJ T kLine).getD zeroT) → Calls Tryz.prog 30 #[vagg y] W fun e w' => e = .returned (.tuple #[.int .i64 a, .bool f]) ∧ Below W.heap.size W w') := fun W S' y hy => by
    have h := rint_tree W hy (getT_lt hl kLine)
    have e : optV (intO ((getJ T kLine).getD zeroT)) = .tuple #[.int .i64 a, .bool f] := by
      rw [(int_got (getJ T kLine)).2]
      exact h1
    rw [e] at h
    exact h
  have HI2 : Hid (∀ (W : World) (S' : Nat → Prop) (y : JC), TIn W S' y ((getJ T kChar).getD zeroT) → Calls Tryz.prog 30 #[vagg y] W fun e w' => e = .returned (.tuple #[.int .i64 b, .bool g]) ∧ Below W.heap.size W w') := fun W S' y hy => by
    have h := rint_tree W hy (getT_lt hl kChar)
    have e : optV (intO ((getJ T kChar).getD zeroT)) = .tuple #[.int .i64 b, .bool g] := by
      rw [(int_got (getJ T kChar)).2]
      exact h2
    rw [e] at h
    exact h
  unfold RGetR at HG1 HG2
  rw [hgp] at HG1
  rw [hgq] at HG2
  clear h1 h2 hgp hgq
  generalize posV (posJ T) = PV at *
  generalize ((getJ T kLine).getD zeroT) = Tp at *
  generalize ((getJ T kChar).getD zeroT) = Tq at *
  unfold vagg kLine at HG1
  unfold vagg kChar at HG2
  unfold vagg at HI1 HI2 ⊢
  simp only at HG1 HG2 HI1 HI2 ⊢
  have HPV := hide hp
  have HQ := hide hq
  have HXT := hide (hx.bel hb)
  have HW0 := hide hw0
  have HB := hide hb
  clear hw0 hp hq hb hx hl
  have v0 : w0.cell? ⟨w.heap.size, 0, none⟩ = some (.int .i64 k) := HPV.out.cell 0
  have v1 : w0.cell? ⟨w.heap.size, 1, none⟩ = some (.string s) := HPV.out.cell 1
  have v2 : w0.cell? ⟨w.heap.size, 2, none⟩ = some (.slice ka kn kc) := HPV.out.cell 2
  have v3 : w0.cell? ⟨w.heap.size, 3, none⟩ = some (.slice la ln lc) := HPV.out.cell 3
  go_enter Tryz.func20, Tryz.ntmps20
  go_upto_region 1 with fail
  rw [HW0.out]
  clear HW0
  go_wp2_with fail
  refine (HG1.out w0 HXT.out).mono ?_
  rintro e w1 ⟨⟨pk, ps, pK, pL⟩, rfl, hb9, hT⟩
  obtain ⟨h4, h5⟩ := hT.sl
  simp only at h4 h5
  obtain ⟨pa, pn, pc, rfl⟩ := h4
  obtain ⟨pd, pe, pf, rfl⟩ := h5
  simp only [vagg]
  have HTp := hide hT
  clear v0 v1 v2 v3 hT
  have HB9 := hide (HB.out.trans (hb9.mono HB.out.size))
  clear HB
  have HB := HB9
  clear HB9
  have HPV9 := hide (HPV.out.below hb9)
  clear HPV
  have HPV := HPV9
  clear HPV9
  have HQ9 := hide (HQ.out.below hb9)
  clear HQ
  have HQ := HQ9
  clear HQ9
  have HXT9 := hide (HXT.out.bel hb9)
  clear HXT
  have HXT := HXT9
  clear HXT9
  clear hb9
  have hb9 := bel w1 (.cells #[.int .i64 pk, .string ps, .slice pa pn pc, .slice pd pe pf] 36)
  have HBp := hide (BoxC.new w1 36 #[.int .i64 pk, .string ps, .slice pa pn pc, .slice pd pe pf])
  have HB9 := hide (HB.out.trans (hb9.mono HB.out.size))
  clear HB
  have HB := HB9
  clear HB9
  have HPV9 := hide (HPV.out.below hb9)
  clear HPV
  have HPV := HPV9
  clear HPV9
  have HQ9 := hide (HQ.out.below hb9)
  clear HQ
  have HQ := HQ9
  clear HQ9
  have HXT9 := hide (HXT.out.bel hb9)
  clear HXT
  have HXT := HXT9
  clear HXT9
  have HTp9 := hide (HTp.out.bel hb9)
  clear HTp
  have HTp := HTp9
  clear HTp9
  clear hb9
  go_upto_region 2 with fail
  generalize w1.heap.size = Bp at *
  generalize w1.alloc (.cells #[.int .i64 pk, .string ps, .slice pa pn pc, .slice pd pe pf] 36) = w2 at *
  have v0 : w2.cell? ⟨w.heap.size, 0, none⟩ = some (.int .i64 k) := HPV.out.cell 0
  have v1 : w2.cell? ⟨w.heap.size, 1, none⟩ = some (.string s) := HPV.out.cell 1
  have v2 : w2.cell? ⟨w.heap.size, 2, none⟩ = some (.slice ka kn kc) := HPV.out.cell 2
  have v3 : w2.cell? ⟨w.heap.size, 3, none⟩ = some (.slice la ln lc) := HPV.out.cell 3
  go_wp2_with fail
  refine (HG2.out w2 HXT.out).mono ?_
  rintro e w3 ⟨⟨qk, qs, qK, qL⟩, rfl, hb9, hT⟩
  obtain ⟨h4, h5⟩ := hT.sl
  simp only at h4 h5
  obtain ⟨qa, qn, qc, rfl⟩ := h4
  obtain ⟨qd, qe, qf, rfl⟩ := h5
  simp only [vagg]
  have HTq := hide hT
  clear v0 v1 v2 v3 hT
  have HB9 := hide (HB.out.trans (hb9.mono HB.out.size))
  clear HB
  have HB := HB9
  clear HB9
  have HPV9 := hide (HPV.out.below hb9)
  clear HPV
  have HPV := HPV9
  clear HPV9
  have HQ9 := hide (HQ.out.below hb9)
  clear HQ
  have HQ := HQ9
  clear HQ9
  have HXT9 := hide (HXT.out.bel hb9)
  clear HXT
  have HXT := HXT9
  clear HXT9
  have HTp9 := hide (HTp.out.bel hb9)
  clear HTp
  have HTp := HTp9
  clear HTp9
  have HBp9 := hide (HBp.out.below hb9)
  clear HBp
  have HBp := HBp9
  clear HBp9
  clear hb9
  have hb9 := bel w3 (.cells #[.int .i64 qk, .string qs, .slice qa qn qc, .slice qd qe qf] 36)
  have HBq := hide (BoxC.new w3 36 #[.int .i64 qk, .string qs, .slice qa qn qc, .slice qd qe qf])
  have HB9 := hide (HB.out.trans (hb9.mono HB.out.size))
  clear HB
  have HB := HB9
  clear HB9
  have HPV9 := hide (HPV.out.below hb9)
  clear HPV
  have HPV := HPV9
  clear HPV9
  have HQ9 := hide (HQ.out.below hb9)
  clear HQ
  have HQ := HQ9
  clear HQ9
  have HXT9 := hide (HXT.out.bel hb9)
  clear HXT
  have HXT := HXT9
  clear HXT9
  have HTp9 := hide (HTp.out.bel hb9)
  clear HTp
  have HTp := HTp9
  clear HTp9
  have HBp9 := hide (HBp.out.below hb9)
  clear HBp
  have HBp := HBp9
  clear HBp9
  have HTq9 := hide (HTq.out.bel hb9)
  clear HTq
  have HTq := HTq9
  clear HTq9
  clear hb9
  go_upto_region 3 with fail
  generalize w3.heap.size = Bq at *
  generalize w3.alloc (.cells #[.int .i64 qk, .string qs, .slice qa qn qc, .slice qd qe qf] 36) = w4 at *
  have v0 := HBp.out.cell 0
  have v1 := HBp.out.cell 1
  have v2 := HBp.out.cell 2
  have v3 := HBp.out.cell 3
  simp only [List.getElem?_toArray, List.getElem?_cons_zero, List.getElem?_cons_succ] at v0 v1 v2 v3
  go_wp2_with fail
  refine (HI1.out w4 _ _ HTp.out).mono ?_
  rintro e w5 ⟨rfl, hb9⟩
  clear v0 v1 v2 v3
  have HB9 := hide (HB.out.trans (hb9.mono HB.out.size))
  clear HB
  have HB := HB9
  clear HB9
  have HQ9 := hide (HQ.out.below hb9)
  clear HQ
  have HQ := HQ9
  clear HQ9
  have HTq9 := hide (HTq.out.bel hb9)
  clear HTq
  have HTq := HTq9
  clear HTq9
  have HBq9 := hide (HBq.out.below hb9)
  clear HBq
  have HBq := HBq9
  clear HBq9
  clear hb9
  have v0 := HBq.out.cell 0
  have v1 := HBq.out.cell 1
  have v2 := HBq.out.cell 2
  have v3 := HBq.out.cell 3
  simp only [List.getElem?_toArray, List.getElem?_cons_zero, List.getElem?_cons_succ] at v0 v1 v2 v3
  go_wp2_with fail
  refine (HI2.out w5 _ _ HTq.out).mono ?_
  rintro e w6 ⟨rfl, hb9⟩
  clear v0 v1 v2 v3
  have HB9 := hide (HB.out.trans (hb9.mono HB.out.size))
  clear HB
  have HB := HB9
  clear HB9
  have HQ9 := hide (HQ.out.below hb9)
  clear HQ
  have HQ := HQ9
  clear HQ9
  clear hb9 HTp HBp HTq HBq HXT HPV
  have z0 := HQ.out.cell 0
  have z1 := HQ.out.cell 1
  simp only [List.getElem?_toArray, List.getElem?_cons_zero, List.getElem?_cons_succ] at z0 z1
  have y0 := HQ.out.frozen 0
  have y1 := HQ.out.frozen 1
  have lX := HQ.out.lt
  cases gp
  · go_wp2
    refine bodyPost_ret (results_pt2 rfl rfl rfl ((HQ.out.set 0 (.int .i64 0)).set 1 (.int .i64 0))) rfl ?_
    exact ⟨by rw [HPO.out]; rfl, (HB.out.setCell (p := ⟨w.heap.size + 1, 0, none⟩) (Nat.le_succ _) _).setCell (p := ⟨w.heap.size + 1, 1, none⟩) (Nat.le_succ _) _⟩
  cases gq
  · go_wp2
    refine bodyPost_ret (results_pt2 rfl rfl rfl ((HQ.out.set 0 (.int .i64 0)).set 1 (.int .i64 0))) rfl ?_
    exact ⟨by rw [HPO.out]; rfl, (HB.out.setCell (p := ⟨w.heap.size + 1, 0, none⟩) (Nat.le_succ _) _).setCell (p := ⟨w.heap.size + 1, 1, none⟩) (Nat.le_succ _) _⟩
  cases f
  · go_wp2
    refine bodyPost_ret (results_pt2 rfl rfl rfl ((HQ.out.set 0 (.int .i64 0)).set 1 (.int .i64 0))) rfl ?_
    exact ⟨by rw [HPO.out]; rfl, (HB.out.setCell (p := ⟨w.heap.size + 1, 0, none⟩) (Nat.le_succ _) _).setCell (p := ⟨w.heap.size + 1, 1, none⟩) (Nat.le_succ _) _⟩
  cases g
  · go_wp2
    refine bodyPost_ret (results_pt2 rfl rfl rfl ((HQ.out.set 0 (.int .i64 0)).set 1 (.int .i64 0))) rfl ?_
    exact ⟨by rw [HPO.out]; rfl, (HB.out.setCell (p := ⟨w.heap.size + 1, 0, none⟩) (Nat.le_succ _) _).setCell (p := ⟨w.heap.size + 1, 1, none⟩) (Nat.le_succ _) _⟩
  go_wp2
  refine bodyPost_ret (results_pt2 rfl rfl rfl ((HQ.out.set 0 (.int .i64 a)).set 1 (.int .i64 b))) rfl ?_
  exact ⟨by rw [HPO.out]; rfl, (HB.out.setCell (p := ⟨w.heap.size + 1, 0, none⟩) (Nat.le_succ _) _).setCell (p := ⟨w.heap.size + 1, 1, none⟩) (Nat.le_succ _) _⟩


end Go.Proofs.YtbdpmpepmjpadaaGreatDoor

namespace Go.Proofs.YtbdpmpepmjpadaaGreatDoor
set_option linter.unusedVariables false
set_option linter.unusedSimpArgs false
set_option maxRecDepth 100000
open Go Go.RowKit Go.Shelf Go.Lib

set_option maxHeartbeats 16000000 in
theorem rrange_any (w : World) {S : Nat → Prop} {x : JC} {T : JT} (hx : TIn w S x T) (hl : LtT T) :
    Calls Tryz.prog 22 #[vagg x] w fun e w' => e = .returned (rangeV (rangeJ T)) ∧ Below w.heap.size w w' := by
  obtain ⟨hs2, hs3⟩ := hx.sl
  obtain ⟨k, s, kv, lv⟩ := x
  obtain ⟨ka, kn, kc, rfl⟩ := hs2
  obtain ⟨la, ln, lc, rfl⟩ := hs3
  have hb : Below w.heap.size w (((w.alloc (.cells #[.int .i64 k, .string s, .slice ka kn kc, .slice la ln lc] 36)).alloc (.cells #[.int .i64 0, .int .i64 0] 59)).alloc (.cells #[.int .i64 0, .int .i64 0] 59)) := ((bel w _).alloc (by simp) _).alloc (by simp only [World.size_alloc]; omega) _
  have hp := ((BoxC.new w 36 #[.int .i64 k, .string s, .slice ka kn kc, .slice la ln lc]).alloc (.cells #[.int .i64 0, .int .i64 0] 59)).alloc (.cells #[.int .i64 0, .int .i64 0] 59)
  have hqa := (BoxC.new (w.alloc (.cells #[.int .i64 k, .string s, .slice ka kn kc, .slice la ln lc] 36)) 59 #[.int .i64 0, .int .i64 0]).alloc (.cells #[.int .i64 0, .int .i64 0] 59)
  have hqb := BoxC.new ((w.alloc (.cells #[.int .i64 k, .string s, .slice ka kn kc, .slice la ln lc] 36)).alloc (.cells #[.int .i64 0, .int .i64 0] 59)) 59 #[.int .i64 0, .int .i64 0]
  rw [World.size_alloc] at hqa
  rw [World.size_alloc, World.size_alloc] at hqb
  generalize hw0 : ((w.alloc (.cells #[.int .i64 k, .string s, .slice ka kn kc, .slice la ln lc] 36)).alloc (.cells #[.int .i64 0, .int .i64 0] 59)).alloc (.cells #[.int .i64 0, .int .i64 0] 59) = w0 at *
  have HG1 := hide (fun W (h : TIn W S (k, s, .slice ka kn kc, .slice la ln lc) T) => rget_any kStart W h hl)
  have HG2 := hide (fun W (h : TIn W S (k, s, .slice ka kn kc, .slice la ln lc) T) => rget_any kEnd W h hl)
  obtain ⟨a, b, f, h1⟩ := posV_is ((getJ T kStart).bind posJ)
  obtain ⟨c, d, g, h2⟩ := posV_is ((getJ T kEnd).bind posJ)
  obtain ⟨gp, hgp⟩ : ∃ gp, (getJ T kStart).isSome = gp := ⟨_, rfl⟩
  obtain ⟨gq, hgq⟩ : ∃ gq, (getJ T kEnd).isSome = gq := ⟨_, rfl⟩
  have HPO := hide (rrange_of h1 h2 hgp hgq)
  have HP1 : Hid (∀ (W : World) (S' : Nat → Prop) (y : JC), TIn W S' y ((getJ T kStart).getD zeroT) → Calls Tryz.prog 20 #[vagg y] W fun e w' => e = .returned (.tuple #[.agg #[.int .i64 a, .int .i64 b], .bool f]) ∧ Below W.heap.size W w') := fun W S' y hy => by
    have h := rpos_any W hy (getT_lt hl kStart)
    have e : posV (posJ ((getJ T kStart).getD zeroT)) = .tuple #[.agg #[.int .i64 a, .int .i64 b], .bool f] := by
      rw [(pos_got (getJ T kStart)).2]
      exact h1
    rw [e] at h
    exact h
  have HP2 : Hid (∀ (W : World) (S' : Nat → Prop) (y : JC), TIn W S' y ((getJ T kEnd).getD zeroT) → Calls Tryz.prog 20 #[vagg y] W fun e w' => e = .returned (.tuple #[.agg #[.int .i64 c, .int .i64 d], .bool g]) ∧ Below W.heap.size W w') := fun W S' y hy => by
    have h := rpos_any W hy (getT_lt hl kEnd)
    have e : posV (posJ ((getJ T kEnd).getD zeroT)) = .tuple #[.agg #[.int .i64 c, .int .i64 d], .bool g] := by
      rw [(pos_got (getJ T kEnd)).2]
      exact h2
    rw [e] at h
    exact h
  unfold RGetR at HG1 HG2
  rw [hgp] at HG1
  rw [hgq] at HG2
  clear h1 h2 hgp hgq
  generalize rangeV (rangeJ T) = PV at *
  generalize ((getJ T kStart).getD zeroT) = Tp at *
  generalize ((getJ T kEnd).getD zeroT) = Tq at *
  unfold vagg kStart at HG1
  unfold vagg kEnd at HG2
  unfold vagg at HP1 HP2 ⊢
  simp only at HG1 HG2 HP1 HP2 ⊢
  have HPV := hide hp
  have HQA := hide hqa
  have HQB := hide hqb
  have HXT := hide (hx.bel hb)
  have HW0 := hide hw0
  have HB := hide hb
  clear hw0 hp hqa hqb hb hx hl
  have v0 : w0.cell? ⟨w.heap.size, 0, none⟩ = some (.int .i64 k) := HPV.out.cell 0
  have v1 : w0.cell? ⟨w.heap.size, 1, none⟩ = some (.string s) := HPV.out.cell 1
  have v2 : w0.cell? ⟨w.heap.size, 2, none⟩ = some (.slice ka kn kc) := HPV.out.cell 2
  have v3 : w0.cell? ⟨w.heap.size, 3, none⟩ = some (.slice la ln lc) := HPV.out.cell 3
  go_enter Tryz.func22, Tryz.ntmps22
  go_upto_region 1 with fail
  rw [HW0.out]
  clear HW0
  go_wp2_with fail
  refine (HG1.out w0 HXT.out).mono ?_
  rintro e w1 ⟨⟨pk, ps, pK, pL⟩, rfl, hb9, hT⟩
  obtain ⟨h4, h5⟩ := hT.sl
  simp only at h4 h5
  obtain ⟨pa, pn, pc, rfl⟩ := h4
  obtain ⟨pd, pe, pf, rfl⟩ := h5
  simp only [vagg]
  have HTp := hide hT
  clear v0 v1 v2 v3 hT
  have HB9 := hide (HB.out.trans (hb9.mono HB.out.size))
  clear HB
  have HB := HB9
  clear HB9
  have HPV9 := hide (HPV.out.below hb9)
  clear HPV
  have HPV := HPV9
  clear HPV9
  have HQA9 := hide (HQA.out.below hb9)
  clear HQA
  have HQA := HQA9
  clear HQA9
  have HQB9 := hide (HQB.out.below hb9)
  clear HQB
  have HQB := HQB9
  clear HQB9
  have HXT9 := hide (HXT.out.bel hb9)
  clear HXT
  have HXT := HXT9
  clear HXT9
  clear hb9
  have hb9 := bel w1 (.cells #[.int .i64 pk, .string ps, .slice pa pn pc, .slice pd pe pf] 36)
  have HBp := hide (BoxC.new w1 36 #[.int .i64 pk, .string ps, .slice pa pn pc, .slice pd pe pf])
  have HB9 := hide (HB.out.trans (hb9.mono HB.out.size))
  clear HB
  have HB := HB9
  clear HB9
  have HPV9 := hide (HPV.out.below hb9)
  clear HPV
  have HPV := HPV9
  clear HPV9
  have HQA9 := hide (HQA.out.below hb9)
  clear HQA
  have HQA := HQA9
  clear HQA9
  have HQB9 := hide (HQB.out.below hb9)
  clear HQB
  have HQB := HQB9
  clear HQB9
  have HXT9 := hide (HXT.out.bel hb9)
  clear HXT
  have HXT := HXT9
  clear HXT9
  have HTp9 := hide (HTp.out.bel hb9)
  clear HTp
  have HTp := HTp9
  clear HTp9
  clear hb9
  go_upto_region 2 with fail
  generalize w1.heap.size = Bp at *
  generalize w1.alloc (.cells #[.int .i64 pk, .string ps, .slice pa pn pc, .slice pd pe pf] 36) = w2 at *
  have v0 : w2.cell? ⟨w.heap.size, 0, none⟩ = some (.int .i64 k) := HPV.out.cell 0
  have v1 : w2.cell? ⟨w.heap.size, 1, none⟩ = some (.string s) := HPV.out.cell 1
  have v2 : w2.cell? ⟨w.heap.size, 2, none⟩ = some (.slice ka kn kc) := HPV.out.cell 2
  have v3 : w2.cell? ⟨w.heap.size, 3, none⟩ = some (.slice la ln lc) := HPV.out.cell 3
  go_wp2_with fail
  refine (HG2.out w2 HXT.out).mono ?_
  rintro e w3 ⟨⟨qk, qs, qK, qL⟩, rfl, hb9, hT⟩
  obtain ⟨h4, h5⟩ := hT.sl
  simp only at h4 h5
  obtain ⟨qa, qn, qc, rfl⟩ := h4
  obtain ⟨qd, qe, qf, rfl⟩ := h5
  simp only [vagg]
  have HTq := hide hT
  clear v0 v1 v2 v3 hT
  have HB9 := hide (HB.out.trans (hb9.mono HB.out.size))
  clear HB
  have HB := HB9
  clear HB9
  have HPV9 := hide (HPV.out.below hb9)
  clear HPV
  have HPV := HPV9
  clear HPV9
  have HQA9 := hide (HQA.out.below hb9)
  clear HQA
  have HQA := HQA9
  clear HQA9
  have HQB9 := hide (HQB.out.below hb9)
  clear HQB
  have HQB := HQB9
  clear HQB9
  have HXT9 := hide (HXT.out.bel hb9)
  clear HXT
  have HXT := HXT9
  clear HXT9
  have HTp9 := hide (HTp.out.bel hb9)
  clear HTp
  have HTp := HTp9
  clear HTp9
  have HBp9 := hide (HBp.out.below hb9)
  clear HBp
  have HBp := HBp9
  clear HBp9
  clear hb9
  have hb9 := bel w3 (.cells #[.int .i64 qk, .string qs, .slice qa qn qc, .slice qd qe qf] 36)
  have HBq := hide (BoxC.new w3 36 #[.int .i64 qk, .string qs, .slice qa qn qc, .slice qd qe qf])
  have HB9 := hide (HB.out.trans (hb9.mono HB.out.size))
  clear HB
  have HB := HB9
  clear HB9
  have HPV9 := hide (HPV.out.below hb9)
  clear HPV
  have HPV := HPV9
  clear HPV9
  have HQA9 := hide (HQA.out.below hb9)
  clear HQA
  have HQA := HQA9
  clear HQA9
  have HQB9 := hide (HQB.out.below hb9)
  clear HQB
  have HQB := HQB9
  clear HQB9
  have HXT9 := hide (HXT.out.bel hb9)
  clear HXT
  have HXT := HXT9
  clear HXT9
  have HTp9 := hide (HTp.out.bel hb9)
  clear HTp
  have HTp := HTp9
  clear HTp9
  have HBp9 := hide (HBp.out.below hb9)
  clear HBp
  have HBp := HBp9
  clear HBp9
  have HTq9 := hide (HTq.out.bel hb9)
  clear HTq
  have HTq := HTq9
  clear HTq9
  clear hb9
  go_upto_region 3 with fail
  generalize w3.heap.size = Bq at *
  generalize w3.alloc (.cells #[.int .i64 qk, .string qs, .slice qa qn qc, .slice qd qe qf] 36) = w4 at *
  have v0 := HBp.out.cell 0
  have v1 := HBp.out.cell 1
  have v2 := HBp.out.cell 2
  have v3 := HBp.out.cell 3
  simp only [List.getElem?_toArray, List.getElem?_cons_zero, List.getElem?_cons_succ] at v0 v1 v2 v3
  go_wp2_with fail
  refine (HP1.out w4 _ _ HTp.out).mono ?_
  rintro e w5 ⟨rfl, hb9⟩
  clear v0 v1 v2 v3
  have HB9 := hide (HB.out.trans (hb9.mono HB.out.size))
  clear HB
  have HB := HB9
  clear HB9
  have HQA9 := hide (HQA.out.below hb9)
  clear HQA
  have HQA := HQA9
  clear HQA9
  have HQB9 := hide (HQB.out.below hb9)
  clear HQB
  have HQB := HQB9
  clear HQB9
  have HTq9 := hide (HTq.out.bel hb9)
  clear HTq
  have HTq := HTq9
  clear HTq9
  have HBq9 := hide (HBq.out.below hb9)
  clear HBq
  have HBq := HBq9
  clear HBq9
  clear hb9
  have hb9 := bel w5 (.cells #[.int .i64 a, .int .i64 b] 59)
  have HLp := hide (BoxC.new w5 59 #[.int .i64 a, .int .i64 b])
  have HNp : Hid (w.heap.size + 1 + 1 < w5.heap.size) := HQB.out.lt
  have HB9 := hide (HB.out.trans (hb9.mono HB.out.size))
  clear HB
  have HB := HB9
  clear HB9
  have HQA9 := hide (HQA.out.below hb9)
  clear HQA
  have HQA := HQA9
  clear HQA9
  have HQB9 := hide (HQB.out.below hb9)
  clear HQB
  have HQB := HQB9
  clear HQB9
  have HTq9 := hide (HTq.out.bel hb9)
  clear HTq
  have HTq := HTq9
  clear HTq9
  have HBq9 := hide (HBq.out.below hb9)
  clear HBq
  have HBq := HBq9
  clear HBq9
  clear hb9
  go_upto_region 4 with fail
  generalize w5.heap.size = Ap at *
  generalize w5.alloc (.cells #[.int .i64 a, .int .i64 b] 59) = w6 at *
  have v0 := HBq.out.cell 0
  have v1 := HBq.out.cell 1
  have v2 := HBq.out.cell 2
  have v3 := HBq.out.cell 3
  simp only [List.getElem?_toArray, List.getElem?_cons_zero, List.getElem?_cons_succ] at v0 v1 v2 v3
  go_wp2_with fail
  refine (HP2.out w6 _ _ HTq.out).mono ?_
  rintro e w7 ⟨rfl, hb9⟩
  clear v0 v1 v2 v3
  have HB9 := hide (HB.out.trans (hb9.mono HB.out.size))
  clear HB
  have HB := HB9
  clear HB9
  have HQA9 := hide (HQA.out.below hb9)
  clear HQA
  have HQA := HQA9
  clear HQA9
  have HQB9 := hide (HQB.out.below hb9)
  clear HQB
  have HQB := HQB9
  clear HQB9
  have HLp9 := hide (HLp.out.below hb9)
  clear HLp
  have HLp := HLp9
  clear HLp9
  clear hb9
  have hb9 := bel w7 (.cells #[.int .i64 c, .int .i64 d] 59)
  have HLq := hide (BoxC.new w7 59 #[.int .i64 c, .int .i64 d])
  have HNq : Hid (w.heap.size + 1 + 1 < w7.heap.size) := HQB.out.lt
  have HB9 := hide (HB.out.trans (hb9.mono HB.out.size))
  clear HB
  have HB := HB9
  clear HB9
  have HQA9 := hide (HQA.out.below hb9)
  clear HQA
  have HQA := HQA9
  clear HQA9
  have HQB9 := hide (HQB.out.below hb9)
  clear HQB
  have HQB := HQB9
  clear HQB9
  have HLp9 := hide (HLp.out.below hb9)
  clear HLp
  have HLp := HLp9
  clear HLp9
  clear hb9
  go_upto_region 5 with fail
  generalize w7.heap.size = Aq at *
  generalize w7.alloc (.cells #[.int .i64 c, .int .i64 d] 59) = w8 at *
  clear HXT HPV
  cases gp
  · have HZA := hide ((((HQA.out.set 0 (.int .i64 0)).set 1 (.int .i64 0)).other (show w.heap.size + 1 ≠ w.heap.size + 1 + 1 by omega) 0 (.int .i64 0)).other (show w.heap.size + 1 ≠ w.heap.size + 1 + 1 by omega) 1 (.int .i64 0))
    have HZB := hide ((((HQB.out.other (show w.heap.size + 1 + 1 ≠ w.heap.size + 1 by omega) 0 (.int .i64 0)).other (show w.heap.size + 1 + 1 ≠ w.heap.size + 1 by omega) 1 (.int .i64 0)).set 0 (.int .i64 0)).set 1 (.int .i64 0))
    have HZC := hide ((((HB.out.setCell (p := ⟨w.heap.size + 1, 0, none⟩) (Nat.le_succ _) (.int .i64 0)).setCell (p := ⟨w.heap.size + 1, 1, none⟩) (Nat.le_succ _) (.int .i64 0)).setCell (p := ⟨w.heap.size + 1 + 1, 0, none⟩) (by show w.heap.size ≤ w.heap.size + 1 + 1; omega) (.int .i64 0)).setCell (p := ⟨w.heap.size + 1 + 1, 1, none⟩) (by show w.heap.size ≤ w.heap.size + 1 + 1; omega) (.int .i64 0))
    have za0 := HQA.out.cell 0
    have za1 := HQA.out.cell 1
    simp only [List.getElem?_toArray, List.getElem?_cons_zero, List.getElem?_cons_succ] at za0 za1
    have ya0 := HQA.out.frozen 0
    have ya1 := HQA.out.frozen 1
    have lXa := HQA.out.lt
    have zb0 := HQB.out.cell 0
    have zb1 := HQB.out.cell 1
    simp only [List.getElem?_toArray, List.getElem?_cons_zero, List.getElem?_cons_succ] at zb0 zb1
    have yb0 := HQB.out.frozen 0
    have yb1 := HQB.out.frozen 1
    have lXb := HQB.out.lt
    go_wp2
    refine bodyPost_ret (results_pt3 rfl rfl rfl rfl HZA.out HZB.out) rfl ?_
    exact ⟨by rw [HPO.out]; rfl, HZC.out⟩
  cases gq
  · have HZA := hide ((((HQA.out.set 0 (.int .i64 0)).set 1 (.int .i64 0)).other (show w.heap.size + 1 ≠ w.heap.size + 1 + 1 by omega) 0 (.int .i64 0)).other (show w.heap.size + 1 ≠ w.heap.size + 1 + 1 by omega) 1 (.int .i64 0))
    have HZB := hide ((((HQB.out.other (show w.heap.size + 1 + 1 ≠ w.heap.size + 1 by omega) 0 (.int .i64 0)).other (show w.heap.size + 1 + 1 ≠ w.heap.size + 1 by omega) 1 (.int .i64 0)).set 0 (.int .i64 0)).set 1 (.int .i64 0))
    have HZC := hide ((((HB.out.setCell (p := ⟨w.heap.size + 1, 0, none⟩) (Nat.le_succ _) (.int .i64 0)).setCell (p := ⟨w.heap.size + 1, 1, none⟩) (Nat.le_succ _) (.int .i64 0)).setCell (p := ⟨w.heap.size + 1 + 1, 0, none⟩) (by show w.heap.size ≤ w.heap.size + 1 + 1; omega) (.int .i64 0)).setCell (p := ⟨w.heap.size + 1 + 1, 1, none⟩) (by show w.heap.size ≤ w.heap.size + 1 + 1; omega) (.int .i64 0))
    have za0 := HQA.out.cell 0
    have za1 := HQA.out.cell 1
    simp only [List.getElem?_toArray, List.getElem?_cons_zero, List.getElem?_cons_succ] at za0 za1
    have ya0 := HQA.out.frozen 0
    have ya1 := HQA.out.frozen 1
    have lXa := HQA.out.lt
    have zb0 := HQB.out.cell 0
    have zb1 := HQB.out.cell 1
    simp only [List.getElem?_toArray, List.getElem?_cons_zero, List.getElem?_cons_succ] at zb0 zb1
    have yb0 := HQB.out.frozen 0
    have yb1 := HQB.out.frozen 1
    have lXb := HQB.out.lt
    go_wp2
    refine bodyPost_ret (results_pt3 rfl rfl rfl rfl HZA.out HZB.out) rfl ?_
    exact ⟨by rw [HPO.out]; rfl, HZC.out⟩
  cases f
  · have HZA := hide ((((HQA.out.set 0 (.int .i64 0)).set 1 (.int .i64 0)).other (show w.heap.size + 1 ≠ w.heap.size + 1 + 1 by omega) 0 (.int .i64 0)).other (show w.heap.size + 1 ≠ w.heap.size + 1 + 1 by omega) 1 (.int .i64 0))
    have HZB := hide ((((HQB.out.other (show w.heap.size + 1 + 1 ≠ w.heap.size + 1 by omega) 0 (.int .i64 0)).other (show w.heap.size + 1 + 1 ≠ w.heap.size + 1 by omega) 1 (.int .i64 0)).set 0 (.int .i64 0)).set 1 (.int .i64 0))
    have HZC := hide ((((HB.out.setCell (p := ⟨w.heap.size + 1, 0, none⟩) (Nat.le_succ _) (.int .i64 0)).setCell (p := ⟨w.heap.size + 1, 1, none⟩) (Nat.le_succ _) (.int .i64 0)).setCell (p := ⟨w.heap.size + 1 + 1, 0, none⟩) (by show w.heap.size ≤ w.heap.size + 1 + 1; omega) (.int .i64 0)).setCell (p := ⟨w.heap.size + 1 + 1, 1, none⟩) (by show w.heap.size ≤ w.heap.size + 1 + 1; omega) (.int .i64 0))
    have za0 := HQA.out.cell 0
    have za1 := HQA.out.cell 1
    simp only [List.getElem?_toArray, List.getElem?_cons_zero, List.getElem?_cons_succ] at za0 za1
    have ya0 := HQA.out.frozen 0
    have ya1 := HQA.out.frozen 1
    have lXa := HQA.out.lt
    have zb0 := HQB.out.cell 0
    have zb1 := HQB.out.cell 1
    simp only [List.getElem?_toArray, List.getElem?_cons_zero, List.getElem?_cons_succ] at zb0 zb1
    have yb0 := HQB.out.frozen 0
    have yb1 := HQB.out.frozen 1
    have lXb := HQB.out.lt
    go_wp2
    refine bodyPost_ret (results_pt3 rfl rfl rfl rfl HZA.out HZB.out) rfl ?_
    exact ⟨by rw [HPO.out]; rfl, HZC.out⟩
  cases g
  · have HZA := hide ((((HQA.out.set 0 (.int .i64 0)).set 1 (.int .i64 0)).other (show w.heap.size + 1 ≠ w.heap.size + 1 + 1 by omega) 0 (.int .i64 0)).other (show w.heap.size + 1 ≠ w.heap.size + 1 + 1 by omega) 1 (.int .i64 0))
    have HZB := hide ((((HQB.out.other (show w.heap.size + 1 + 1 ≠ w.heap.size + 1 by omega) 0 (.int .i64 0)).other (show w.heap.size + 1 + 1 ≠ w.heap.size + 1 by omega) 1 (.int .i64 0)).set 0 (.int .i64 0)).set 1 (.int .i64 0))
    have HZC := hide ((((HB.out.setCell (p := ⟨w.heap.size + 1, 0, none⟩) (Nat.le_succ _) (.int .i64 0)).setCell (p := ⟨w.heap.size + 1, 1, none⟩) (Nat.le_succ _) (.int .i64 0)).setCell (p := ⟨w.heap.size + 1 + 1, 0, none⟩) (by show w.heap.size ≤ w.heap.size + 1 + 1; omega) (.int .i64 0)).setCell (p := ⟨w.heap.size + 1 + 1, 1, none⟩) (by show w.heap.size ≤ w.heap.size + 1 + 1; omega) (.int .i64 0))
    have za0 := HQA.out.cell 0
    have za1 := HQA.out.cell 1
    simp only [List.getElem?_toArray, List.getElem?_cons_zero, List.getElem?_cons_succ] at za0 za1
    have ya0 := HQA.out.frozen 0
    have ya1 := HQA.out.frozen 1
    have lXa := HQA.out.lt
    have zb0 := HQB.out.cell 0
    have zb1 := HQB.out.cell 1
    simp only [List.getElem?_toArray, List.getElem?_cons_zero, List.getElem?_cons_succ] at zb0 zb1
    have yb0 := HQB.out.frozen 0
    have yb1 := HQB.out.frozen 1
    have lXb := HQB.out.lt
    go_wp2
    refine bodyPost_ret (results_pt3 rfl rfl rfl rfl HZA.out HZB.out) rfl ?_
    exact ⟨by rw [HPO.out]; rfl, HZC.out⟩
  go_upto_region 7 with fail
  refine wp_region_held_drew (S := fun X0 : World => X0.cell? ⟨Ap, 0, none⟩ = some (.int .i64 a) ∧ X0.cell? ⟨Ap, 1, none⟩ = some (.int .i64 b) ∧ X0.cell? ⟨Aq, 0, none⟩ = some (.int .i64 c) ∧ X0.cell? ⟨Aq, 1, none⟩ = some (.int .i64 d)) (by kernel_rfl) ⟨HLp.out.cell 0, HLp.out.cell 1, HLq.out.cell 0, HLq.out.cell 1⟩ (fun hHeld => ?_)
  have HLp2 : Hid (BoxC w8.drew Ap 59 #[.int .i64 a, .int .i64 b]) := HLp.out
  have HLq2 : Hid (BoxC w8.drew Aq 59 #[.int .i64 c, .int .i64 d]) := HLq.out
  have HQA2 : Hid (BoxC w8.drew (w.heap.size + 1) 59 #[.int .i64 0, .int .i64 0]) := HQA.out
  have HQB2 : Hid (BoxC w8.drew (w.heap.size + 1 + 1) 59 #[.int .i64 0, .int .i64 0]) := HQB.out
  have HB2 : Hid (Below w.heap.size w w8.drew) := HB.out.drew
  clear HQA HQB HB HLp HLq
  generalize w8.drew = w9 at *
  have hpa : ¬ Ap = w.heap.size + 1 := by have := HNp.out; omega
  have hpb : ¬ Ap = w.heap.size + 1 + 1 := by have := HNp.out; omega
  have hqa : ¬ Aq = w.heap.size + 1 := by have := HNq.out; omega
  have hqb : ¬ Aq = w.heap.size + 1 + 1 := by have := HNq.out; omega
  have HLp3 := hide ((((HLp2.out.other hpa 0 (.int .i64 a)).other hpa 1 (.int .i64 b))))
  have HLq3 := hide ((((HLq2.out.other hqa 0 (.int .i64 a)).other hqa 1 (.int .i64 b))))
  have HLp4 := hide ((HLp3.out.other hpb 0 (.int .i64 c)).other hpb 1 (.int .i64 d))
  have HLq4 := hide ((HLq3.out.other hqb 0 (.int .i64 c)).other hqb 1 (.int .i64 d))
  clear hpa hpb hqa hqb
  have HS : Hid (w9.cell? ⟨Ap, 0, none⟩ = some (.int .i64 a) ∧ w9.cell? ⟨Ap, 1, none⟩ = some (.int .i64 b) ∧ w9.cell? ⟨Aq, 0, none⟩ = some (.int .i64 c) ∧ w9.cell? ⟨Aq, 1, none⟩ = some (.int .i64 d)) := ⟨HLp2.out.cell 0, HLp2.out.cell 1, HLq2.out.cell 0, HLq2.out.cell 1⟩
  refine takeD (i := 0) (v := ?v4) (some 49) rfl (by kernel_rfl) (by kernel_rfl) (by kernel_rfl) (fun _ _ _ h => h) (Or.inl ⟨by rfl, ?hy4⟩) (HS.out) (by rfl) ?rest4
  case hy4 => first | (intro w hSw; (try dsimp only at hSw); obtain ⟨s0, s1, s2, s3⟩ := hSw; go_simp; done) | (intro w hSw; (try dsimp only at hSw); obtain ⟨s0, s1, s2, s3⟩ := hSw; go_simp; with_reducible rfl)
  try simp only [Act.put, List.setIfInBounds_toArray, List.set_cons_zero, List.set_cons_succ, vagg]
  refine takeD (i := 1) (v := ?v5) (some 50) rfl (by kernel_rfl) (by kernel_rfl) (by kernel_rfl) (fun _ _ _ h => h) (Or.inl ⟨by rfl, ?hy5⟩) (HS.out) (by rfl) ?rest5
  case hy5 => first | (intro w hSw; (try dsimp only at hSw); obtain ⟨s0, s1, s2, s3⟩ := hSw; go_simp; done) | (intro w hSw; (try dsimp only at hSw); obtain ⟨s0, s1, s2, s3⟩ := hSw; go_simp; with_reducible rfl)
  try simp only [Act.put, List.setIfInBounds_toArray, List.set_cons_zero, List.set_cons_succ, vagg]
  have HQA3 : Hid (BoxC ((w9.setCell ⟨w.heap.size + 1, 0, none⟩ (.int .i64 a)).setCell ⟨w.heap.size + 1, 1, none⟩ (.int .i64 b)) (w.heap.size + 1) 59 #[.int .i64 a, .int .i64 b]) := (HQA2.out.set 0 _).set 1 _
  have HQB3 := hide ((HQB2.out.other (show w.heap.size + 1 + 1 ≠ w.heap.size + 1 by omega) 0 (.int .i64 a)).other (show w.heap.size + 1 + 1 ≠ w.heap.size + 1 by omega) 1 (.int .i64 b))
  have HBC : Hid (Below w.heap.size w ((w9.setCell ⟨w.heap.size + 1, 0, none⟩ (.int .i64 a)).setCell ⟨w.heap.size + 1, 1, none⟩ (.int .i64 b))) := (HB2.out.setCell (p := ⟨w.heap.size + 1, 0, none⟩) (Nat.le_succ _) _).setCell (p := ⟨w.heap.size + 1, 1, none⟩) (Nat.le_succ _) _
  have z0 := HQA2.out.cell 0
  have z1 := HQA2.out.cell 1
  simp only [List.getElem?_toArray, List.getElem?_cons_zero, List.getElem?_cons_succ] at z0 z1
  have y0 := HQA2.out.frozen 0
  have y1 := HQA2.out.frozen 1
  have lX := HQA2.out.lt
  refine wpAnyH_ready (rs := [2]) (by kernel_rfl) (by simp) ?_
  refine AllReadyH.cons rfl (fun K9 hK => ?_) AllReadyH.nil
  go_simp
  refine hK.out _ _ ⟨HLp3.out.cell 0, HLp3.out.cell 1, HLq3.out.cell 0, HLq3.out.cell 1⟩ (fun _ => ?_)
  clear hK K9 HQA2 HQB2 HB2 HS HLp2 HLq2 HLp3 HLq3 z0 z1 y0 y1 lX
  try simp only [Act.put, List.setIfInBounds_toArray, List.set_cons_zero, List.set_cons_succ, vagg]
  generalize (w9.setCell ⟨w.heap.size + 1, 0, none⟩ (.int .i64 a)).setCell ⟨w.heap.size + 1, 1, none⟩ (.int .i64 b) = wa at *
  have HQB4 : Hid (BoxC ((wa.setCell ⟨w.heap.size + 1 + 1, 0, none⟩ (.int .i64 c)).setCell ⟨w.heap.size + 1 + 1, 1, none⟩ (.int .i64 d)) (w.heap.size + 1 + 1) 59 #[.int .i64 c, .int .i64 d]) := (HQB3.out.set 0 _).set 1 _
  have HQA4 := hide ((HQA3.out.other (show w.heap.size + 1 ≠ w.heap.size + 1 + 1 by omega) 0 (.int .i64 c)).other (show w.heap.size + 1 ≠ w.heap.size + 1 + 1 by omega) 1 (.int .i64 d))
  have HBD : Hid (Below w.heap.size w ((wa.setCell ⟨w.heap.size + 1 + 1, 0, none⟩ (.int .i64 c)).setCell ⟨w.heap.size + 1 + 1, 1, none⟩ (.int .i64 d))) := (HBC.out.setCell (p := ⟨w.heap.size + 1 + 1, 0, none⟩) (by show w.heap.size ≤ w.heap.size + 1 + 1; omega) _).setCell (p := ⟨w.heap.size + 1 + 1, 1, none⟩) (by show w.heap.size ≤ w.heap.size + 1 + 1; omega) _
  have z0 := HQB3.out.cell 0
  have z1 := HQB3.out.cell 1
  simp only [List.getElem?_toArray, List.getElem?_cons_zero, List.getElem?_cons_succ] at z0 z1
  have y0 := HQB3.out.frozen 0
  have y1 := HQB3.out.frozen 1
  have lX := HQB3.out.lt
  refine wpAnyH_ready (rs := [3]) (by kernel_rfl) (by simp) ?_
  refine AllReadyH.cons rfl (fun K9 hK => ?_) AllReadyH.nil
  go_simp
  refine hK.out _ _ ⟨HLp4.out.cell 0, HLp4.out.cell 1, HLq4.out.cell 0, HLq4.out.cell 1⟩ (fun _ => ?_)
  clear hK K9 z0 z1 y0 y1 lX
  try simp only [Act.put, List.setIfInBounds_toArray, List.set_cons_zero, List.set_cons_succ, vagg]
  have HS : Hid (((wa.setCell ⟨w.heap.size + 1 + 1, 0, none⟩ (.int .i64 c)).setCell ⟨w.heap.size + 1 + 1, 1, none⟩ (.int .i64 d)).cell? ⟨Ap, 0, none⟩ = some (.int .i64 a) ∧ ((wa.setCell ⟨w.heap.size + 1 + 1, 0, none⟩ (.int .i64 c)).setCell ⟨w.heap.size + 1 + 1, 1, none⟩ (.int .i64 d)).cell? ⟨Ap, 1, none⟩ = some (.int .i64 b) ∧ ((wa.setCell ⟨w.heap.size + 1 + 1, 0, none⟩ (.int .i64 c)).setCell ⟨w.heap.size + 1 + 1, 1, none⟩ (.int .i64 d)).cell? ⟨Aq, 0, none⟩ = some (.int .i64 c) ∧ ((wa.setCell ⟨w.heap.size + 1 + 1, 0, none⟩ (.int .i64 c)).setCell ⟨w.heap.size + 1 + 1, 1, none⟩ (.int .i64 d)).cell? ⟨Aq, 1, none⟩ = some (.int .i64 d)) := ⟨HLp4.out.cell 0, HLp4.out.cell 1, HLq4.out.cell 0, HLq4.out.cell 1⟩
  refine takeD (i := 4) (v := ?v6) (some 4) rfl (by kernel_rfl) (by kernel_rfl) (by kernel_rfl) (fun _ _ _ h => h) (Or.inl ⟨by rfl, ?hy6⟩) (HS.out) (by rfl) ?rest6
  case hy6 => first | (intro w hSw; (try dsimp only at hSw); obtain ⟨s0, s1, s2, s3⟩ := hSw; go_simp; done) | (intro w hSw; (try dsimp only at hSw); obtain ⟨s0, s1, s2, s3⟩ := hSw; go_simp; with_reducible rfl)
  try simp only [Act.put, List.setIfInBounds_toArray, List.set_cons_zero, List.set_cons_succ, vagg]
  refine wpAnyH_done (by kernel_rfl) ?_ _
  go_wp2
  refine bodyPost_ret (results_pt3 rfl rfl rfl rfl HQA4.out HQB4.out) rfl ?_
  exact ⟨by rw [HPO.out]; rfl, HBD.out⟩


end Go.Proofs.YtbdpmpepmjpadaaGreatDoor

namespace Go.Proofs.YtbdpmpepmjpadaaGreatDoor
set_option linter.unusedVariables false
set_option linter.unusedSimpArgs false
set_option maxRecDepth 100000
open Go Go.RowKit Go.Shelf Go.Lib

set_option maxHeartbeats 16000000 in
theorem posits_any {w : World} (hU : Utf8Tabs 0 1 w) (hE : ErrS w) (ao : Option Addr) (cap : Nat) (T : List Nat) (hby : Byts w (.slice ao T.length cap) T) (hcap : T.length ≤ cap) (hao : ∀ a, ao = some a → a.block < w.heap.size) :
    Calls Tryz.prog 5 #[.slice ao T.length cap] w fun e w' => e = .returned (.bool true) ∧ Below w.heap.size w w' := by
  have HCA := hide (fun W (hW : Below w.heap.size w W) => called_calls W (Utf8Tabs_below hU hW) (hE.below hW))
  have HES := hide hE
  have HB : Hid (Below w.heap.size w w) := Below.refl _ _
  have HPA := hide (fun h : T.length ≤ 1000000 => rparse_all w ao cap T hby h hcap hao)
  unfold RParR at HPA
  obtain ⟨n, hn⟩ : ∃ n, T.length = n := ⟨_, rfl⟩
  rw [hn] at HPA ⊢
  clear hn hU hE hby hcap hao
  by_cases hlen : (n : Int) > 1000
  · go_enter Tryz.func5, Tryz.ntmps5
    go_wp2_with fail
    refine (HCA.out w HB.out).mono ?_
    rintro e w1 ⟨rfl, hb9⟩
    have HB9 := hide (HB.out.trans (hb9.mono HB.out.size))
    clear hb9
    go_wp2
    go_ret
    exact ⟨rfl, HB9.out⟩
  have HN : Hid (n ≤ 1000) := by show n ≤ 1000; omega
  have HPB := hide (HPA.out (by omega))
  clear HPA
  go_enter Tryz.func5, Tryz.ntmps5
  go_wp2_with fail
  refine HPB.out.mono ?_
  rintro e w1 ⟨⟨k, s, x3, x4⟩, Tr, a1, e1, rfl, hT, hsz, hb9⟩
  have hlt : LtT Tr := sz_lt (Nat.le_trans HN.out (by decide)) hsz
  obtain ⟨h4, h5⟩ := hT.sl
  simp only at h4 h5
  obtain ⟨ka, kn, kc, rfl⟩ := h4
  obtain ⟨la, ln, lc, rfl⟩ := h5
  simp only [vagg]
  have HXT := hide hT
  have HLT := hide hlt
  clear hT hsz HPB hlt
  have HB9 := hide (HB.out.trans (hb9.mono HB.out.size))
  clear HB
  have HB := HB9
  clear HB9
  clear hb9
  have hb9 := bel w1 (.cells #[.int .i64 k, .string s, .slice ka kn kc, .slice la ln lc] 36)
  have HBX := hide (BoxC.new w1 36 #[.int .i64 k, .string s, .slice ka kn kc, .slice la ln lc])
  have HB9 := hide (HB.out.trans (hb9.mono HB.out.size))
  clear HB
  have HB := HB9
  clear HB9
  have HXT9 := hide (HXT.out.bel hb9)
  clear HXT
  have HXT := HXT9
  clear HXT9
  clear hb9
  go_upto_region 4 with fail
  generalize w1.heap.size = B1 at *
  generalize w1.alloc (.cells #[.int .i64 k, .string s, .slice ka kn kc, .slice la ln lc] 36) = w2 at *
  obtain ⟨a, b, f, h1⟩ := posV_is (posJ Tr)
  obtain ⟨a9, b9, c9, d9, g, h2⟩ := rangeV_is (rangeJ Tr)
  have HTO : Hid (∀ W : World, TIn W (fun b => w.heap.size ≤ b) (k, s, .slice ka kn kc, .slice la ln lc) Tr → Calls Tryz.prog 13 #[.agg #[.int .i64 k, .string s, .slice ka kn kc, .slice la ln lc]] W (OfRV W.heap.size W Tr)) := fun W h => to_any h HLT.out W (Below.refl _ _)
  have HP1 : Hid (∀ (W : World) (S' : Nat → Prop) (y : JC), TIn W S' y Tr → Below w.heap.size w W → Calls Tryz.prog 19 #[vagg y] W fun e w' => e = .returned (.tuple #[.agg #[.int .i64 a, .int .i64 b], .bool f]) ∧ Below W.heap.size W w') := fun W S' y hy hw => by
    have h := pos_any W hy HLT.out (HES.out.below hw)
    rw [h1] at h
    exact h
  have HP2 : Hid (∀ (W : World) (S' : Nat → Prop) (y : JC), TIn W S' y Tr → Calls Tryz.prog 20 #[vagg y] W fun e w' => e = .returned (.tuple #[.agg #[.int .i64 a, .int .i64 b], .bool f]) ∧ Below W.heap.size W w') := fun W S' y hy => by
    have h := rpos_any W hy HLT.out
    rw [h1] at h
    exact h
  have HP3 : Hid (∀ (W : World) (S' : Nat → Prop) (y : JC), TIn W S' y Tr → Below w.heap.size w W → Calls Tryz.prog 21 #[vagg y] W fun e w' => e = .returned (.tuple #[.agg #[.int .i64 a9, .int .i64 b9], .agg #[.int .i64 c9, .int .i64 d9], .bool g]) ∧ Below W.heap.size W w') := fun W S' y hy hw => by
    have h := range_any W hy HLT.out (HES.out.below hw)
    rw [h2] at h
    exact h
  have HP4 : Hid (∀ (W : World) (S' : Nat → Prop) (y : JC), TIn W S' y Tr → Calls Tryz.prog 22 #[vagg y] W fun e w' => e = .returned (.tuple #[.agg #[.int .i64 a9, .int .i64 b9], .agg #[.int .i64 c9, .int .i64 d9], .bool g]) ∧ Below W.heap.size W w') := fun W S' y hy => by
    have h := rrange_any W hy HLT.out
    rw [h2] at h
    exact h
  clear h1 h2
  unfold OfRV at HTO
  unfold vagg at HTO HP1 HP2 HP3 HP4
  by_cases he : e1 = 0
  rotate_left
  · have de : (e1 != 0) = true := by simpa using he
    clear he
    go_wp2_with fail
    refine (HCA.out w2 HB.out).mono ?_
    rintro e w3 ⟨rfl, hb9⟩
    have HB9 := hide (HB.out.trans (hb9.mono HB.out.size))
    clear hb9
    go_wp2
    go_ret
    exact ⟨rfl, HB9.out⟩
  subst he
  have v0 := HBX.out.cell 0
  have v1 := HBX.out.cell 1
  have v2 := HBX.out.cell 2
  have v3 := HBX.out.cell 3
  simp only [List.getElem?_toArray, List.getElem?_cons_zero, List.getElem?_cons_succ] at v0 v1 v2 v3
  go_wp2_with fail
  refine (HTO.out w2 HXT.out).mono ?_
  rintro e w3 ⟨⟨pk, ps, pK, pL⟩, rfl, hb9, hT, h4, h5⟩
  simp only at h4 h5
  obtain ⟨pa, pn, pc, rfl⟩ := h4
  obtain ⟨pd, pe, pf, rfl⟩ := h5
  simp only [vagg]
  have HTp := hide hT
  clear hT v0 v1 v2 v3
  have HB9 := hide (HB.out.trans (hb9.mono HB.out.size))
  clear HB
  have HB := HB9
  clear HB9
  have HXT9 := hide (HXT.out.bel hb9)
  clear HXT
  have HXT := HXT9
  clear HXT9
  have HBX9 := hide (HBX.out.below hb9)
  clear HBX
  have HBX := HBX9
  clear HBX9
  clear hb9
  go_wp2_with fail
  refine (HP1.out w3 _ _ HTp.out HB.out).mono ?_
  rintro e w4 ⟨rfl, hb9⟩
  try clear v0 v1 v2 v3
  have HB9 := hide (HB.out.trans (hb9.mono HB.out.size))
  clear HB
  have HB := HB9
  clear HB9
  have HXT9 := hide (HXT.out.bel hb9)
  clear HXT
  have HXT := HXT9
  clear HXT9
  have HBX9 := hide (HBX.out.below hb9)
  clear HBX
  have HBX := HBX9
  clear HBX9
  clear hb9
  have hb9 := bel w4 (.cells #[.int .i64 a, .int .i64 b] 59)
  have HA1 := hide (BoxC.new w4 59 #[.int .i64 a, .int .i64 b])
  have HB9 := hide (HB.out.trans (hb9.mono HB.out.size))
  clear HB
  have HB := HB9
  clear HB9
  have HXT9 := hide (HXT.out.bel hb9)
  clear HXT
  have HXT := HXT9
  clear HXT9
  have HBX9 := hide (HBX.out.below hb9)
  clear HBX
  have HBX := HBX9
  clear HBX9
  clear hb9
  go_upto_region 7 with fail
  generalize w4.heap.size = A1 at *
  generalize w4.alloc (.cells #[.int .i64 a, .int .i64 b] 59) = w5 at *
  have v0 := HBX.out.cell 0
  have v1 := HBX.out.cell 1
  have v2 := HBX.out.cell 2
  have v3 := HBX.out.cell 3
  simp only [List.getElem?_toArray, List.getElem?_cons_zero, List.getElem?_cons_succ] at v0 v1 v2 v3
  go_wp2_with fail
  refine (HP2.out w5 _ _ HXT.out).mono ?_
  rintro e w6 ⟨rfl, hb9⟩
  try clear v0 v1 v2 v3
  have HB9 := hide (HB.out.trans (hb9.mono HB.out.size))
  clear HB
  have HB := HB9
  clear HB9
  have HXT9 := hide (HXT.out.bel hb9)
  clear HXT
  have HXT := HXT9
  clear HXT9
  have HBX9 := hide (HBX.out.below hb9)
  clear HBX
  have HBX := HBX9
  clear HBX9
  have HA19 := hide (HA1.out.below hb9)
  clear HA1
  have HA1 := HA19
  clear HA19
  clear hb9
  have hb9 := bel w6 (.cells #[.int .i64 a, .int .i64 b] 59)
  have HA2 := hide (BoxC.new w6 59 #[.int .i64 a, .int .i64 b])
  have HB9 := hide (HB.out.trans (hb9.mono HB.out.size))
  clear HB
  have HB := HB9
  clear HB9
  have HXT9 := hide (HXT.out.bel hb9)
  clear HXT
  have HXT := HXT9
  clear HXT9
  have HBX9 := hide (HBX.out.below hb9)
  clear HBX
  have HBX := HBX9
  clear HBX9
  have HA19 := hide (HA1.out.below hb9)
  clear HA1
  have HA1 := HA19
  clear HA19
  clear hb9
  go_upto_region 8 with fail
  generalize w6.heap.size = A2 at *
  generalize w6.alloc (.cells #[.int .i64 a, .int .i64 b] 59) = w7 at *
  have v0 := HBX.out.cell 0
  have v1 := HBX.out.cell 1
  have v2 := HBX.out.cell 2
  have v3 := HBX.out.cell 3
  simp only [List.getElem?_toArray, List.getElem?_cons_zero, List.getElem?_cons_succ] at v0 v1 v2 v3
  go_wp2_with fail
  refine (HTO.out w7 HXT.out).mono ?_
  rintro e w8 ⟨⟨qk, qs, qK, qL⟩, rfl, hb9, hT, h4, h5⟩
  simp only at h4 h5
  obtain ⟨qa, qn, qc, rfl⟩ := h4
  obtain ⟨qd, qe, qf, rfl⟩ := h5
  simp only [vagg]
  have HTq := hide hT
  clear hT v0 v1 v2 v3
  have HB9 := hide (HB.out.trans (hb9.mono HB.out.size))
  clear HB
  have HB := HB9
  clear HB9
  have HXT9 := hide (HXT.out.bel hb9)
  clear HXT
  have HXT := HXT9
  clear HXT9
  have HBX9 := hide (HBX.out.below hb9)
  clear HBX
  have HBX := HBX9
  clear HBX9
  have HA19 := hide (HA1.out.below hb9)
  clear HA1
  have HA1 := HA19
  clear HA19
  have HA29 := hide (HA2.out.below hb9)
  clear HA2
  have HA2 := HA29
  clear HA29
  clear hb9
  go_wp2_with fail
  refine (HP3.out w8 _ _ HTq.out HB.out).mono ?_
  rintro e w9 ⟨rfl, hb9⟩
  try clear v0 v1 v2 v3
  have HB9 := hide (HB.out.trans (hb9.mono HB.out.size))
  clear HB
  have HB := HB9
  clear HB9
  have HXT9 := hide (HXT.out.bel hb9)
  clear HXT
  have HXT := HXT9
  clear HXT9
  have HBX9 := hide (HBX.out.below hb9)
  clear HBX
  have HBX := HBX9
  clear HBX9
  have HA19 := hide (HA1.out.below hb9)
  clear HA1
  have HA1 := HA19
  clear HA19
  have HA29 := hide (HA2.out.below hb9)
  clear HA2
  have HA2 := HA29
  clear HA29
  clear hb9
  have hb9 : Below w9.heap.size w9 ((w9.alloc (.cells #[.int .i64 a9, .int .i64 b9] 59)).alloc (.cells #[.int .i64 c9, .int .i64 d9] 59)) := (bel w9 _).alloc (by simp) _
  have HA3 := hide ((BoxC.new w9 59 #[.int .i64 a9, .int .i64 b9]).alloc (.cells #[.int .i64 c9, .int .i64 d9] 59))
  have hq := BoxC.new (w9.alloc (.cells #[.int .i64 a9, .int .i64 b9] 59)) 59 #[.int .i64 c9, .int .i64 d9]
  rw [World.size_alloc] at hq
  have HA4 := hide hq
  clear hq
  have HB9 := hide (HB.out.trans (hb9.mono HB.out.size))
  clear HB
  have HB := HB9
  clear HB9
  have HXT9 := hide (HXT.out.bel hb9)
  clear HXT
  have HXT := HXT9
  clear HXT9
  have HBX9 := hide (HBX.out.below hb9)
  clear HBX
  have HBX := HBX9
  clear HBX9
  have HA19 := hide (HA1.out.below hb9)
  clear HA1
  have HA1 := HA19
  clear HA19
  have HA29 := hide (HA2.out.below hb9)
  clear HA2
  have HA2 := HA29
  clear HA29
  clear hb9
  go_upto_region 9 with fail
  generalize hz : (w9.alloc (.cells #[.int .i64 a9, .int .i64 b9] 59)).alloc (.cells #[.int .i64 c9, .int .i64 d9] 59) = wa at *
  clear hz
  generalize w9.heap.size = A3 at *
  have v0 := HBX.out.cell 0
  have v1 := HBX.out.cell 1
  have v2 := HBX.out.cell 2
  have v3 := HBX.out.cell 3
  simp only [List.getElem?_toArray, List.getElem?_cons_zero, List.getElem?_cons_succ] at v0 v1 v2 v3
  go_wp2_with fail
  refine (HP4.out wa _ _ HXT.out).mono ?_
  rintro e wb ⟨rfl, hb9⟩
  try clear v0 v1 v2 v3
  have HB9 := hide (HB.out.trans (hb9.mono HB.out.size))
  clear HB
  have HB := HB9
  clear HB9
  have HXT9 := hide (HXT.out.bel hb9)
  clear HXT
  have HXT := HXT9
  clear HXT9
  have HBX9 := hide (HBX.out.below hb9)
  clear HBX
  have HBX := HBX9
  clear HBX9
  have HA19 := hide (HA1.out.below hb9)
  clear HA1
  have HA1 := HA19
  clear HA19
  have HA29 := hide (HA2.out.below hb9)
  clear HA2
  have HA2 := HA29
  clear HA29
  have HA39 := hide (HA3.out.below hb9)
  clear HA3
  have HA3 := HA39
  clear HA39
  have HA49 := hide (HA4.out.below hb9)
  clear HA4
  have HA4 := HA49
  clear HA49
  clear hb9
  have hb9 : Below wb.heap.size wb ((wb.alloc (.cells #[.int .i64 a9, .int .i64 b9] 59)).alloc (.cells #[.int .i64 c9, .int .i64 d9] 59)) := (bel wb _).alloc (by simp) _
  have HA5 := hide ((BoxC.new wb 59 #[.int .i64 a9, .int .i64 b9]).alloc (.cells #[.int .i64 c9, .int .i64 d9] 59))
  have hq := BoxC.new (wb.alloc (.cells #[.int .i64 a9, .int .i64 b9] 59)) 59 #[.int .i64 c9, .int .i64 d9]
  rw [World.size_alloc] at hq
  have HA6 := hide hq
  clear hq
  have HB9 := hide (HB.out.trans (hb9.mono HB.out.size))
  clear HB
  have HB := HB9
  clear HB9
  have HXT9 := hide (HXT.out.bel hb9)
  clear HXT
  have HXT := HXT9
  clear HXT9
  have HBX9 := hide (HBX.out.below hb9)
  clear HBX
  have HBX := HBX9
  clear HBX9
  have HA19 := hide (HA1.out.below hb9)
  clear HA1
  have HA1 := HA19
  clear HA19
  have HA29 := hide (HA2.out.below hb9)
  clear HA2
  have HA2 := HA29
  clear HA29
  have HA39 := hide (HA3.out.below hb9)
  clear HA3
  have HA3 := HA39
  clear HA39
  have HA49 := hide (HA4.out.below hb9)
  clear HA4
  have HA4 := HA49
  clear HA49
  clear hb9
  go_upto_region 10 with fail
  generalize hz : (wb.alloc (.cells #[.int .i64 a9, .int .i64 b9] 59)).alloc (.cells #[.int .i64 c9, .int .i64 d9] 59) = wc at *
  clear hz
  generalize wb.heap.size = A5 at *
  go_wp2_with fail
  refine (HCA.out wc HB.out).mono ?_
  rintro e wd ⟨rfl, hb9⟩
  have HB9 := hide (HB.out.trans (hb9.mono HB.out.size))
  clear HB
  have HB := HB9
  clear HB9
  have HA19 := hide (HA1.out.below hb9)
  clear HA1
  have HA1 := HA19
  clear HA19
  have HA29 := hide (HA2.out.below hb9)
  clear HA2
  have HA2 := HA29
  clear HA29
  have HA39 := hide (HA3.out.below hb9)
  clear HA3
  have HA3 := HA39
  clear HA39
  have HA49 := hide (HA4.out.below hb9)
  clear HA4
  have HA4 := HA49
  clear HA49
  have HA59 := hide (HA5.out.below hb9)
  clear HA5
  have HA5 := HA59
  clear HA59
  have HA69 := hide (HA6.out.below hb9)
  clear HA6
  have HA6 := HA69
  clear HA69
  clear hb9
  have z10 := HA1.out.cell 0
  have z11 := HA1.out.cell 1
  simp only [List.getElem?_toArray, List.getElem?_cons_zero, List.getElem?_cons_succ] at z10 z11
  have z20 := HA2.out.cell 0
  have z21 := HA2.out.cell 1
  simp only [List.getElem?_toArray, List.getElem?_cons_zero, List.getElem?_cons_succ] at z20 z21
  have z30 := HA3.out.cell 0
  have z31 := HA3.out.cell 1
  simp only [List.getElem?_toArray, List.getElem?_cons_zero, List.getElem?_cons_succ] at z30 z31
  have z40 := HA4.out.cell 0
  have z41 := HA4.out.cell 1
  simp only [List.getElem?_toArray, List.getElem?_cons_zero, List.getElem?_cons_succ] at z40 z41
  have z50 := HA5.out.cell 0
  have z51 := HA5.out.cell 1
  simp only [List.getElem?_toArray, List.getElem?_cons_zero, List.getElem?_cons_succ] at z50 z51
  have z60 := HA6.out.cell 0
  have z61 := HA6.out.cell 1
  simp only [List.getElem?_toArray, List.getElem?_cons_zero, List.getElem?_cons_succ] at z60 z61
  go_wp2
  go_ret
  refine ⟨?_, HB.out⟩
  simp


end Go.Proofs.YtbdpmpepmjpadaaGreatDoor
