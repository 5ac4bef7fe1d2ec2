/- Json: the reader: a value that is a number, or an array of numbers. -/
import Derived.Test.YtacgocfgcoejpaaDoorJArr2
namespace Go.Proofs.YtacgocfgcoejpaaDoor
set_option linter.unusedVariables false
set_option linter.unusedSimpArgs false
set_option maxRecDepth 100000
open Go Go.RowKit Go.Shelf Go.Lib

theorem numEnd_gt {T : List Nat} {p : Nat} (h : (numEnd T p).2 = true) : p < (numEnd T p).1 := by
  have a1 : ∀ p, p ≤ num1 T p := fun p => by unfold num1; split <;> omega
  have a2 : ∀ p, (num2 T p).2 = true → p < (num2 T p).1 := fun p => by
    unfold num2
    split
    · intro _; show p < p + 1; omega
    · intro h; exact of_decide_eq_true h
  have a3 : ∀ x : Nat × Bool, (num3 T x).2 = true → x.2 = true ∧ x.1 ≤ (num3 T x).1 := fun x => by
    unfold num3
    cases e : (x.2 && hasB T x.1 [46]) with
    | true =>
      have := (Bool.and_eq_true _ _ ▸ e : _ ∧ _)
      have h1 := digEnd_ge T T.length (x.1 + 1)
      intro _
      refine ⟨this.1, ?_⟩
      show x.1 ≤ digEnd T (x.1 + 1)
      unfold digEnd
      omega
    | false => exact fun h => ⟨h, Nat.le_refl _⟩
  have a5 : ∀ p, p ≤ num5 T p := fun p => by unfold num5; split <;> omega
  have a4 : ∀ x : Nat × Bool, (num4 T x).2 = true → x.2 = true ∧ x.1 ≤ (num4 T x).1 := fun x => by
    unfold num4
    cases e : (x.2 && hasB T x.1 [101, 69]) with
    | true =>
      have := (Bool.and_eq_true _ _ ▸ e : _ ∧ _)
      have h1 := digEnd_ge T T.length (num5 T (x.1 + 1))
      have h2 := a5 (x.1 + 1)
      intro _
      refine ⟨this.1, ?_⟩
      show x.1 ≤ digEnd T (num5 T (x.1 + 1))
      unfold digEnd
      omega
    | false => exact fun h => ⟨h, Nat.le_refl _⟩
  unfold numEnd at h ⊢
  have h4 := a4 _ h
  have h3 := a3 _ h4.1
  have h2 := a2 _ h3.1
  have h1 := a1 p
  omega

/-- No value but a number begins with this byte. -/
def numB (c : Nat) : Prop := c ≠ 110 ∧ c ≠ 102 ∧ c ≠ 116 ∧ c ≠ 34 ∧ c ≠ 91 ∧ c ≠ 123
instance (c : Nat) : Decidable (numB c) := by unfold numB; exact inferInstance
/-- A value that is a number. -/
def valN (T : List Nat) (q : Nat) : Option VR :=
  if blEnd T q = T.length then some (.bad T.length 11)
  else if numB (nth T (blEnd T q)) then
    (if (numEnd T (blEnd T q)).2 then some (.ok (nC (strOf ((T.drop (blEnd T q)).take ((numEnd T (blEnd T q)).1 - blEnd T q)))) (numEnd T (blEnd T q)).1)
     else some (.bad (numEnd T (blEnd T q)).1 (wrongE T (numEnd T (blEnd T q)).1)))
  else none
theorem okN (T : List Nat) : OkV (fun q => if q ≤ T.length then valN T q else none) T := by
  intro q x p h
  dsimp only at h
  by_cases hq : q ≤ T.length
  · rw [if_pos hq] at h
    unfold valN at h
    have h1 := blEnd_ge T q
    have h2 := blEnd_le hq
    by_cases g1 : blEnd T q = T.length
    · rw [if_pos g1] at h; cases h
    · rw [if_neg g1] at h
      by_cases g2 : numB (nth T (blEnd T q))
      · rw [if_pos g2] at h
        cases e : (numEnd T (blEnd T q)).2 with
        | true =>
          rw [e, if_pos rfl] at h
          cases h
          have := numEnd_gt e
          have := numEnd_le h2
          exact ⟨by omega, by omega, rfl, rfl⟩
        | false => rw [e] at h; cases h
      · rw [if_neg g2] at h; cases h
  · rw [if_neg hq] at h; cases h

/-- Four cells are put into a box that is new. -/
theorem put4 {w W : World} {R B : Nat} {sv : Value} {q d : Nat} {t : TypeId} {cs : Array Value} (hB : w.heap.size ≤ B) (hR : R < w.heap.size) (hr : RdJ W R sv q d) (hf : Fr R none w W) (x0 x1 x2 x3 : Value) :
    RdJ ((((W.setCell ⟨B, 0, none⟩ x0).setCell ⟨B, 1, none⟩ x1).setCell ⟨B, 2, none⟩ x2).setCell ⟨B, 3, none⟩ x3) R sv q d ∧ Fr R none w ((((W.setCell ⟨B, 0, none⟩ x0).setCell ⟨B, 1, none⟩ x1).setCell ⟨B, 2, none⟩ x2).setCell ⟨B, 3, none⟩ x3) := by
  have hn : ∀ {W : World} (i : Nat) (x : Value), Fr R none w W → Fr R none w (W.setCell ⟨B, i, none⟩ x) := fun i x h => h.setNew hB i x
  exact ⟨(((BoxC.other hr (by omega) 0 _).other (by omega) 1 _).other (by omega) 2 _).other (by omega) 3 _, hn 3 _ (hn 2 _ (hn 1 _ (hn 0 _ hf)))⟩

set_option maxHeartbeats 4000000 in
theorem value_num (w : World) (R q d : Nat) (ao : Option Addr) (cap : Nat) (T : List Nat) (r : VR) (hval : valN T q = some r) (hr : RdJ w R (.slice ao T.length cap) q d) (hT : TxJ w R ao cap T) (hq : q ≤ T.length) :
    Calls Tryd.prog 24 #[.pointer (some ⟨R, 0, none⟩)] w (ValJ r w R (.slice ao T.length cap) d) := by
  have hRw := hr.lt
  have hb0 := bel w (.cells jv0 25)
  have hx0 := BoxC.new w 25 jv0
  unfold jv0 at hb0 hx0
  have hr0 := hr.below hb0
  have hT0 := hT.fr (Fr.of hb0)
  generalize hw0 : w.alloc (.cells #[.int .i64 0, .string ⟨#[]⟩, .slice none 0 0, .slice none 0 0] 25) = w0 at *
  have HS := hide (skipBlanks_calls w0 R q d ao cap T hr0 hT0 hq)
  have hble := blEnd_le hq
  unfold valN at hval
  generalize blEnd T q = b at *
  have HW0 := hide hw0
  have HB0 := hide hb0
  have HT0 := hide hT0
  have HX0 := hide hx0
  have HRW := hide hRw
  have HBL := hide hble
  clear hr hT hq hb0 hx0 hr0 hT0 hw0 hRw hble
  go_enter Tryd.func24, Tryd.ntmps24
  go_wp2_with fail
  rw [HW0.out]
  clear HW0
  refine HS.out.mono ?_
  rintro e w1 ⟨rfl, hr1, _, hf1⟩
  have hx1 := HX0.out.fr hf1 (by have := HRW.out; omega) (by simp)
  have HT1 := hide (HT0.out.fr hf1)
  have HF1 := hide (Fr.after HB0.out hf1)
  have HR1 := hide hr1
  have HX1 := hide hx1
  clear hf1 hx1 HS HT0 HX0 HB0 hr1
  by_cases g1 : b = T.length
  · rw [if_pos g1] at hval
    cases hval
    subst g1
    have HN := hide (next_none w1 R d ao cap T HR1.out)
    go_wp2_with fail
    refine HN.out.mono ?_
    rintro e w2 ⟨he, hB⟩
    have HB := hide hB
    rw [show e = _ from he]
    clear he hB
    go_wp2
    exact ⟨rfl, rfl, HF1.out.then HB.out⟩
  · rw [if_neg g1] at hval
    have hlt : b < T.length := by have := HBL.out; omega
    have HN := hide (next_some w1 R b d ao cap T HR1.out HT1.out hlt)
    by_cases g2 : numB (nth T b)
    · rw [if_pos g2] at hval
      obtain ⟨n1, n2, n3, n4, n5, n6⟩ := g2
      generalize nth T b = c at *
      have d1 : ((c : Int) == 110) = false := beq_eq_false_iff_ne.2 (by omega)
      have d2 : ((c : Int) == 102) = false := beq_eq_false_iff_ne.2 (by omega)
      have d3 : ((c : Int) == 116) = false := beq_eq_false_iff_ne.2 (by omega)
      have d4 : ((c : Int) == 34) = false := beq_eq_false_iff_ne.2 (by omega)
      have d5 : ((c : Int) == 91) = false := beq_eq_false_iff_ne.2 (by omega)
      have d6 : ((c : Int) == 123) = false := beq_eq_false_iff_ne.2 (by omega)
      clear n1 n2 n3 n4 n5 n6 g1 hlt
      go_wp2_with fail
      refine HN.out.mono ?_
      rintro e w2 ⟨rfl, hB⟩
      have HX2 := hide (HX1.out.below hB)
      have HF2 := hide (HF1.out.then hB)
      have HR2 := hide (HR1.out.below hB)
      have HT2 := hide (HT1.out.fr (Fr.of hB))
      clear hB HX1 HR1 HT1 HF1 HN
      cases e : (numEnd T b).2 with
      | true =>
        rw [e, if_pos rfl] at hval
        have HO := hide (number_ok w2 R b d ao cap T HR2.out HT2.out HBL.out e)
        generalize strOf ((T.drop b).take ((numEnd T b).1 - b)) = st at *
        cases hval
        generalize (numEnd T b).1 = z at *
        clear e
        unfold numV valV nilSl at HO
        go_wp2_with fail
        refine HO.out.mono ?_
        rintro e w3 ⟨rfl, hr3, hf3⟩
        have hx3 := HX2.out.fr hf3 (by have := HRW.out; omega) (by simp)
        have HF3 := hide (HF2.out.trans hf3 (.inl rfl))
        have HR3 := hide hr3
        have HX3 := hide hx3
        have x0 : w3.cell? ⟨w.heap.size, 0, none⟩ = some (.int .i64 0) := hx3.cell 0
        have x1 : w3.cell? ⟨w.heap.size, 1, none⟩ = some (.string ⟨#[]⟩) := hx3.cell 1
        have x2 : w3.cell? ⟨w.heap.size, 2, none⟩ = some (.slice none 0 0) := hx3.cell 2
        have x3 : w3.cell? ⟨w.heap.size, 3, none⟩ = some (.slice none 0 0) := hx3.cell 3
        have y0 := hx3.frozen 0
        have y1 := hx3.frozen 1
        have y2 := hx3.frozen 2
        have y3 := hx3.frozen 3
        have lX := hx3.lt
        clear hr3 hf3 hx3 HX2 HF2 HR2 HT2
        go_wp2
        refine bodyPost_ret (results_jv rfl rfl ((((HX3.out.set 0 (.int .i64 3)).set 1 (.string st)).set 2 (.slice none 0 0)).set 3 (.slice none 0 0))) rfl ?_
        exact ⟨rfl, put4 (t := 0) (cs := #[]) (Nat.le_refl _) HRW.out HR3.out HF3.out _ _ _ _⟩
      | false =>
        rw [e] at hval
        have HO := hide (number_bad w2 R b d ao cap T HR2.out HT2.out HBL.out e)
        cases hval
        generalize wrongE T (numEnd T b).1 = ze at *
        generalize (numEnd T b).1 = z at *
        clear e
        go_wp2_with fail
        refine HO.out.mono ?_
        rintro e w3 ⟨he, hB⟩
        have HB := hide hB
        rw [show e = _ from he]
        clear he hB
        go_wp2
        exact ⟨rfl, rfl, HF2.out.then HB.out⟩
    · rw [if_neg g2] at hval; cases hval

set_option maxHeartbeats 4000000 in
theorem nested_calls (w : World) (R p d : Nat) (ao : Option Addr) (cap : Nat) (T : List Nat) (r : AR) (hr : RdJ w R (.slice ao T.length cap) p d) (hT : TxJ w R ao cap T) (hd : d < 64) (hp : p < T.length)
    (hA : ∀ W, RdJ W R (.slice ao T.length cap) (p + 1) (d + 1) → TxJ W R ao cap T → Calls Tryd.prog 46 #[.pointer (some ⟨R, 0, none⟩)] W (ArrJ r W R (.slice ao T.length cap) (d + 1))) :
    Calls Tryd.prog 45 #[.pointer (some ⟨R, 0, none⟩), .func (.func 46) #[.pointer (some ⟨R, 0, none⟩)] #[]] w (ArrJ r w R (.slice ao T.length cap) d) := by
  have hRw := hr.lt
  have hb0 := bel w (.cells jv0 25)
  have hx0 := BoxC.new w 25 jv0
  unfold jv0 at hb0 hx0
  have hr0 := hr.below hb0
  have hT0 := hT.fr (Fr.of hb0)
  generalize hw0 : w.alloc (.cells #[.int .i64 0, .string ⟨#[]⟩, .slice none 0 0, .slice none 0 0] 25) = w0 at *
  obtain ⟨p1, hp1⟩ : ∃ p1, p + 1 = p1 := ⟨_, rfl⟩
  obtain ⟨d1, hd1⟩ : ∃ d1, d + 1 = d1 := ⟨_, rfl⟩
  rw [hp1, hd1] at hA
  have e1 : (p : Int) + 1 = (p1 : Int) := by omega
  have e2 : (d : Int) + 1 = (d1 : Int) := by omega
  have e3 : (d1 : Int) - 1 = (d : Int) := by omega
  have g1 : (p1 : Int) ≤ 1000000000 := by have := hT.len; omega
  have g2 : (d1 : Int) ≤ 1000000000 := by omega
  have g3 : ((d : Int) == 64) = false := beq_eq_false_iff_ne.2 (by omega)
  have c1 : w0.cell? ⟨R, 1, none⟩ = some (.int .i64 (p : Int)) := hr0.cell 1
  have c2 : w0.cell? ⟨R, 2, none⟩ = some (.int .i64 (d : Int)) := hr0.cell 2
  have f1 := hr0.frozen 1
  have f2 := hr0.frozen 2
  have lR := hr0.lt
  have hra : RdJ ((w0.setCell ⟨R, 1, none⟩ (.int .i64 (p1 : Int))).setCell ⟨R, 2, none⟩ (.int .i64 (d1 : Int))) R (.slice ao T.length cap) p1 d1 := (BoxC.set hr0 1 _).set 2 _
  have hfa : Fr R none w0 ((w0.setCell ⟨R, 1, none⟩ (.int .i64 (p1 : Int))).setCell ⟨R, 2, none⟩ (.int .i64 (d1 : Int))) := ((Fr.refl R none w0).set 1 _).set 2 _
  have hxa := (hx0.fr hfa (by omega) (by simp))
  have HCA := hide (hA _ hra (hT0.fr hfa))
  have HW0 := hide hw0
  have HFA := hide (Fr.after hb0 hfa)
  have HXA := hide hxa
  have HRW := hide hRw
  clear hr hT hd hp hA hb0 hx0 hr0 hT0 hw0 hp1 hd1 hra hfa hxa hRw
  go_enter Tryd.func45, Tryd.ntmps45
  go_upto_region 1 with fail
  rw [HW0.out]
  clear HW0
  go_wp2_with fail
  refine HCA.out.mono ?_
  intro e w1 hE
  cases r with
  | bad q e0 =>
    obtain ⟨he, hf⟩ := hE
    have HF := hide (HFA.out.trans hf (.inl rfl))
    rw [show e = _ from he]
    clear he hf
    go_wp2
    exact ⟨rfl, rfl, HF.out⟩
  | ok M q =>
    obtain ⟨lv, rfl, ho, hm, hr1, hf⟩ := hE
    obtain ⟨va, vn, vc, rfl⟩ := ho.slice
    unfold vagg
    have hsz : w.heap.size < w1.heap.size := (HXA.out.fr hf (by have := HRW.out; omega) (by simp)).lt
    have hx1 := HXA.out.fr hf (by have := HRW.out; omega) (by simp)
    have hf1 := HFA.out.trans hf (.inl rfl)
    have hb2 := bel w1 (.cells #[.int .i64 5, .string ⟨#[]⟩, .slice none 0 0, .slice va vn vc] 25)
    have hv2 := BoxC.new w1 25 #[.int .i64 5, .string ⟨#[]⟩, .slice none 0 0, .slice va vn vc]
    have ho2 : OwnV w.heap.size (w1.alloc (.cells #[.int .i64 5, .string ⟨#[]⟩, .slice none 0 0, .slice va vn vc] 25)) (.slice va vn vc) M := (ho.keep (fun j e => hb2.block j (ho.lt j e).2)).mono (by have := HFA.out.size; omega)
    have hox : (Value.slice va vn vc).ownBlock ≠ some w.heap.size := fun e => by
      have := (ho.lt _ e).1
      have := HXA.out.lt
      omega
    have hr2 := hr1.below hb2
    have hf2 := hf1.then hb2
    have hx2 := hx1.below hb2
    have hrw := HRW.out
    generalize hB : w1.heap.size = B at *
    generalize hw2 : w1.alloc (.cells #[.int .i64 5, .string ⟨#[]⟩, .slice none 0 0, .slice va vn vc] 25) = w2 at *
    have c2 : w2.cell? ⟨R, 2, none⟩ = some (.int .i64 (d1 : Int)) := hr2.cell 2
    have f2 := hr2.frozen 2
    have lR2 := hr2.lt
    have hr3 : RdJ (w2.setCell ⟨R, 2, none⟩ (.int .i64 (d : Int))) R (.slice ao T.length cap) q d := BoxC.set hr2 2 _
    have hf3 : Fr R none w (w2.setCell ⟨R, 2, none⟩ (.int .i64 (d : Int))) := hf2.set 2 _
    have hx3 := hx2.other (show w.heap.size ≠ R by omega) 2 (.int .i64 (d : Int))
    have hv3 := hv2.other (show B ≠ R by omega) 2 (.int .i64 (d : Int))
    have ho3 := ho2.set (B := R) (i := 2) (x := .int .i64 (d : Int)) (fun e => by have := (ho2.lt _ e).1; omega)
    have HW2 := hide hw2
    have HBB := hide hB
    have HR3 := hide hr3
    have HF3 := hide hf3
    have HX3 := hide hx3
    have HO3 := hide ho3
    have HOX := hide hox
    have HM := hide hm
    have hne1 : ¬ R = w.heap.size := by omega
    have hne2 : ¬ R = B := by omega
    have hne3 : ¬ w.heap.size = B := by omega
    have v0 := hv3.cell 0
    have v1 := hv3.cell 1
    have v2 := hv3.cell 2
    have v3 := hv3.cell 3
    have lV := hv3.lt
    have x0 := hx3.cell 0
    have x1 := hx3.cell 1
    have x2 := hx3.cell 2
    have x3 := hx3.cell 3
    have y0 := hx3.frozen 0
    have y1 := hx3.frozen 1
    have y2 := hx3.frozen 2
    have y3 := hx3.frozen 3
    have lX := hx3.lt
    simp only [List.getElem?_toArray, List.getElem?_cons_zero, List.getElem?_cons_succ, Nat.reduceAdd] at v0 v1 v2 v3 x0 x1 x2 x3
    clear ho hm hr1 hf hx1 hf1 hb2 hv2 ho2 hr2 hf2 hx2 hw2 hr3 hf3 hx3 hv3 ho3 hox hB hsz hrw
    go_upto_region 6 with fail
    rw [HW2.out, HBB.out]
    clear HW2 HBB
    go_wp2
    refine bodyPost_ret (results_jv rfl rfl ((((HX3.out.set 0 (.int .i64 5)).set 1 (.string ⟨#[]⟩)).set 2 (.slice none 0 0)).set 3 (.slice va vn vc))) rfl ?_
    exact ⟨_, rfl, (((HO3.out.set HOX.out).set HOX.out).set HOX.out).set HOX.out, HM.out, put4 (t := 0) (cs := #[]) (Nat.le_refl _) HRW.out HR3.out HF3.out _ _ _ _⟩

set_option maxHeartbeats 4000000 in
theorem value_arr (w : World) (R q d : Nat) (ao : Option Addr) (cap : Nat) (T : List Nat) (r : AR) (hr : RdJ w R (.slice ao T.length cap) q d) (hT : TxJ w R ao cap T) (hq : q ≤ T.length) (hlt : blEnd T q < T.length) (hc : nth T (blEnd T q) = 91) (hd : d < 64)
    (hA : ∀ W, RdJ W R (.slice ao T.length cap) (blEnd T q + 1) (d + 1) → TxJ W R ao cap T → Calls Tryd.prog 46 #[.pointer (some ⟨R, 0, none⟩)] W (ArrJ r W R (.slice ao T.length cap) (d + 1))) :
    Calls Tryd.prog 24 #[.pointer (some ⟨R, 0, none⟩)] w (ArrJ r w R (.slice ao T.length cap) d) := by
  have hmf : ∀ (fn : Fn) (first cap : Array Value) (w : World), (Instr.makeFunc fn first cap).run Tryd.prog w = .ok (.func fn first cap) w := fun _ _ _ _ => rfl
  have hRw := hr.lt
  have hb0 := bel w (.cells jv0 25)
  have hx0 := BoxC.new w 25 jv0
  unfold jv0 at hb0 hx0
  have hr0 := hr.below hb0
  have hT0 := hT.fr (Fr.of hb0)
  generalize hw0 : w.alloc (.cells #[.int .i64 0, .string ⟨#[]⟩, .slice none 0 0, .slice none 0 0] 25) = w0 at *
  have HS := hide (skipBlanks_calls w0 R q d ao cap T hr0 hT0 hq)
  generalize blEnd T q = b at *
  have HW0 := hide hw0
  have HB0 := hide hb0
  have HT0 := hide hT0
  have HX0 := hide hx0
  have HRW := hide hRw
  have HLT := hide hlt
  have HD := hide hd
  have HA := hide hA
  have HCC := hide hc
  clear hr hT hq hb0 hx0 hr0 hT0 hw0 hRw hlt hd hA hc
  go_enter Tryd.func24, Tryd.ntmps24
  go_wp2_with fail
  rw [HW0.out]
  clear HW0
  refine HS.out.mono ?_
  rintro e w1 ⟨rfl, hr1, _, hf1⟩
  have hx1 := HX0.out.fr hf1 (by have := HRW.out; omega) (by simp)
  have HT1 := hide (HT0.out.fr hf1)
  have HF1 := hide (Fr.after HB0.out hf1)
  have HR1 := hide hr1
  have HX1 := hide hx1
  clear hf1 hx1 HS HT0 HX0 HB0 hr1
  have HN := hide (next_some w1 R b d ao cap T HR1.out HT1.out HLT.out)
  rw [HCC.out] at HN
  go_wp2_with fail
  refine HN.out.mono ?_
  rintro e w2 ⟨rfl, hB⟩
  have HX2 := hide (HX1.out.below hB)
  have HF2 := hide (HF1.out.then hB)
  have HR2 := hide (HR1.out.below hB)
  have HT2 := hide (HT1.out.fr (Fr.of hB))
  clear hB HX1 HR1 HT1 HF1 HN
  have HC := hide (nested_calls w2 R b d ao cap T r HR2.out HT2.out HD.out HLT.out HA.out)
  go_wp2_with fail
  refine HC.out.mono ?_
  intro e w3 hE
  cases r with
  | bad z e0 =>
    obtain ⟨he, hf⟩ := hE
    have HF := hide (HF2.out.trans hf (.inl rfl))
    rw [show e = _ from he]
    clear he hf
    go_wp2
    exact ⟨rfl, rfl, HF.out⟩
  | ok M z =>
    obtain ⟨lv, rfl, ho, hm, hr3, hf3⟩ := hE
    obtain ⟨va, vn, vc, rfl⟩ := ho.slice
    unfold vagg
    have hx3 := HX2.out.fr hf3 (by have := HRW.out; omega) (by simp)
    have HF3 := hide (HF2.out.trans hf3 (.inl rfl))
    have HR3 := hide hr3
    have HX3 := hide hx3
    have hox : (Value.slice va vn vc).ownBlock ≠ some w.heap.size := fun e => by
      have := (ho.lt _ e).1
      have := HX2.out.lt
      omega
    have HOX := hide hox
    have HO3 := hide (ho.mono (show w.heap.size ≤ w2.heap.size by have := HF2.out.size; omega))
    have HM := hide hm
    have x0 : w3.cell? ⟨w.heap.size, 0, none⟩ = some (.int .i64 0) := hx3.cell 0
    have x1 : w3.cell? ⟨w.heap.size, 1, none⟩ = some (.string ⟨#[]⟩) := hx3.cell 1
    have x2 : w3.cell? ⟨w.heap.size, 2, none⟩ = some (.slice none 0 0) := hx3.cell 2
    have x3 : w3.cell? ⟨w.heap.size, 3, none⟩ = some (.slice none 0 0) := hx3.cell 3
    have y0 := hx3.frozen 0
    have y1 := hx3.frozen 1
    have y2 := hx3.frozen 2
    have y3 := hx3.frozen 3
    have lX := hx3.lt
    clear hr3 hf3 hx3 HX2 HF2 HR2 HT2 ho hox hm
    go_wp2
    refine bodyPost_ret (results_jv rfl rfl ((((HX3.out.set 0 (.int .i64 5)).set 1 (.string ⟨#[]⟩)).set 2 (.slice none 0 0)).set 3 (.slice va vn vc))) rfl ?_
    exact ⟨_, rfl, (((HO3.out.set HOX.out).set HOX.out).set HOX.out).set HOX.out, HM.out, put4 (t := 0) (cs := #[]) (Nat.le_refl _) HRW.out HR3.out HF3.out _ _ _ _⟩

end Go.Proofs.YtacgocfgcoejpaaDoor
