/- Texts of json and rpc, part 1: JVal, JParse, JParse2, JWr, JWr2, JWr3, JPrint, JPrint2, JWritten, JOf, JMade, JMade2, JMade3, JsonMakesW, JTree, JLight, JOwnQ, JTOf, JTTo, JCount, JFew, JREq0, JREq, JSeq, JPlain, JEq0, JRefl. -/
import Derived.Test.YtbdpmpepmjpadaaGreatDoorJArr2
import Derived.Test.YtbdpmpepmjpadaaGreatDoorUVal
import Derived.Recover
import Derived.Defers
import Derived.Lib.ItoaNum
namespace Go.Proofs.YtbdpmpepmjpadaaGreatDoor
set_option linter.unusedVariables false
set_option linter.unusedSimpArgs false
set_option maxRecDepth 100000
open Go Go.RowKit Go.Shelf Go.Lib

theorem numEnd_gt {T : List Nat} {p : Nat} (h : (numEnd T p).2 = true) : p < (numEnd T p).1 := by
  have a1 : ∀ p, p ≤ num1 T p := fun p => by unfold num1; split <;> omega
  have a2 : ∀ p, (num2 T p).2 = true → p < (num2 T p).1 := fun p => by
    unfold num2
    split
    · intro _; show p < p + 1; omega
    · intro h; exact of_decide_eq_true h
  have a3 : ∀ x : Nat × Bool, (num3 T x).2 = true → x.2 = true ∧ x.1 ≤ (num3 T x).1 := fun x => by
    unfold num3
    cases e : (x.2 && hasB T x.1 [46]) with
    | true =>
      have := (Bool.and_eq_true _ _ ▸ e : _ ∧ _)
      have h1 := digEnd_ge T T.length (x.1 + 1)
      intro _
      refine ⟨this.1, ?_⟩
      show x.1 ≤ digEnd T (x.1 + 1)
      unfold digEnd
      omega
    | false => exact fun h => ⟨h, Nat.le_refl _⟩
  have a5 : ∀ p, p ≤ num5 T p := fun p => by unfold num5; split <;> omega
  have a4 : ∀ x : Nat × Bool, (num4 T x).2 = true → x.2 = true ∧ x.1 ≤ (num4 T x).1 := fun x => by
    unfold num4
    cases e : (x.2 && hasB T x.1 [101, 69]) with
    | true =>
      have := (Bool.and_eq_true _ _ ▸ e : _ ∧ _)
      have h1 := digEnd_ge T T.length (num5 T (x.1 + 1))
      have h2 := a5 (x.1 + 1)
      intro _
      refine ⟨this.1, ?_⟩
      show x.1 ≤ digEnd T (num5 T (x.1 + 1))
      unfold digEnd
      omega
    | false => exact fun h => ⟨h, Nat.le_refl _⟩
  unfold numEnd at h ⊢
  have h4 := a4 _ h
  have h3 := a3 _ h4.1
  have h2 := a2 _ h3.1
  have h1 := a1 p
  omega

/-- No value but a number begins with this byte. -/
def numB (c : Nat) : Prop := c ≠ 110 ∧ c ≠ 102 ∧ c ≠ 116 ∧ c ≠ 34 ∧ c ≠ 91 ∧ c ≠ 123
instance (c : Nat) : Decidable (numB c) := by unfold numB; exact inferInstance
/-- A value that is a number. -/
def valN (T : List Nat) (q : Nat) : Option VR :=
  if blEnd T q = T.length then some (.bad T.length 11)
  else if numB (nth T (blEnd T q)) then
    (if (numEnd T (blEnd T q)).2 then some (.ok (nC (strOf ((T.drop (blEnd T q)).take ((numEnd T (blEnd T q)).1 - blEnd T q)))) (numEnd T (blEnd T q)).1)
     else some (.bad (numEnd T (blEnd T q)).1 (wrongE T (numEnd T (blEnd T q)).1)))
  else none
theorem okN (T : List Nat) : OkV (fun q => if q ≤ T.length then valN T q else none) T := by
  intro q x p h
  dsimp only at h
  by_cases hq : q ≤ T.length
  · rw [if_pos hq] at h
    unfold valN at h
    have h1 := blEnd_ge T q
    have h2 := blEnd_le hq
    by_cases g1 : blEnd T q = T.length
    · rw [if_pos g1] at h; cases h
    · rw [if_neg g1] at h
      by_cases g2 : numB (nth T (blEnd T q))
      · rw [if_pos g2] at h
        cases e : (numEnd T (blEnd T q)).2 with
        | true =>
          rw [e, if_pos rfl] at h
          cases h
          have := numEnd_gt e
          have := numEnd_le h2
          exact ⟨by omega, by omega, rfl, rfl⟩
        | false => rw [e] at h; cases h
      · rw [if_neg g2] at h; cases h
  · rw [if_neg hq] at h; cases h

/-- Four cells are put into a box that is new. -/
theorem put4 {w W : World} {R B : Nat} {sv : Value} {q d : Nat} {t : TypeId} {cs : Array Value} (hB : w.heap.size ≤ B) (hR : R < w.heap.size) (hr : RdJ W R sv q d) (hf : Fr R none w W) (x0 x1 x2 x3 : Value) :
    RdJ ((((W.setCell ⟨B, 0, none⟩ x0).setCell ⟨B, 1, none⟩ x1).setCell ⟨B, 2, none⟩ x2).setCell ⟨B, 3, none⟩ x3) R sv q d ∧ Fr R none w ((((W.setCell ⟨B, 0, none⟩ x0).setCell ⟨B, 1, none⟩ x1).setCell ⟨B, 2, none⟩ x2).setCell ⟨B, 3, none⟩ x3) := by
  have hn : ∀ {W : World} (i : Nat) (x : Value), Fr R none w W → Fr R none w (W.setCell ⟨B, i, none⟩ x) := fun i x h => h.setNew hB i x
  exact ⟨(((BoxC.other hr (by omega) 0 _).other (by omega) 1 _).other (by omega) 2 _).other (by omega) 3 _, hn 3 _ (hn 2 _ (hn 1 _ (hn 0 _ hf)))⟩

set_option maxHeartbeats 4000000 in
theorem value_num (w : World) (R q d : Nat) (ao : Option Addr) (cap : Nat) (T : List Nat) (r : VR) (hval : valN T q = some r) (hr : RdJ w R (.slice ao T.length cap) q d) (hT : TxJ w R ao cap T) (hq : q ≤ T.length) :
    Calls Tryz.prog 48 #[.pointer (some ⟨R, 0, none⟩)] w (ValJ r w R (.slice ao T.length cap) d) := by
  have hRw := hr.lt
  have hb0 := bel w (.cells jv0 27)
  have hx0 := BoxC.new w 27 jv0
  unfold jv0 at hb0 hx0
  have hr0 := hr.below hb0
  have hT0 := hT.fr (Fr.of hb0)
  generalize hw0 : w.alloc (.cells #[.int .i64 0, .string ⟨#[]⟩, .slice none 0 0, .slice none 0 0] 27) = w0 at *
  have HS := hide (skipBlanks_calls w0 R q d ao cap T hr0 hT0 hq)
  have hble := blEnd_le hq
  unfold valN at hval
  generalize blEnd T q = b at *
  have HW0 := hide hw0
  have HB0 := hide hb0
  have HT0 := hide hT0
  have HX0 := hide hx0
  have HRW := hide hRw
  have HBL := hide hble
  clear hr hT hq hb0 hx0 hr0 hT0 hw0 hRw hble
  go_enter Tryz.func48, Tryz.ntmps48
  go_wp2_with fail
  rw [HW0.out]
  clear HW0
  refine HS.out.mono ?_
  rintro e w1 ⟨rfl, hr1, _, hf1⟩
  have hx1 := HX0.out.fr hf1 (by have := HRW.out; omega) (by simp)
  have HT1 := hide (HT0.out.fr hf1)
  have HF1 := hide (Fr.after HB0.out hf1)
  have HR1 := hide hr1
  have HX1 := hide hx1
  clear hf1 hx1 HS HT0 HX0 HB0 hr1
  by_cases g1 : b = T.length
  · rw [if_pos g1] at hval
    cases hval
    subst g1
    have HN := hide (next_none w1 R d ao cap T HR1.out)
    go_wp2_with fail
    refine HN.out.mono ?_
    rintro e w2 ⟨he, hB⟩
    have HB := hide hB
    rw [show e = _ from he]
    clear he hB
    go_wp2
    exact ⟨rfl, rfl, HF1.out.then HB.out⟩
  · rw [if_neg g1] at hval
    have hlt : b < T.length := by have := HBL.out; omega
    have HN := hide (next_some w1 R b d ao cap T HR1.out HT1.out hlt)
    by_cases g2 : numB (nth T b)
    · rw [if_pos g2] at hval
      obtain ⟨n1, n2, n3, n4, n5, n6⟩ := g2
      generalize nth T b = c at *
      have d1 : ((c : Int) == 110) = false := beq_eq_false_iff_ne.2 (by omega)
      have d2 : ((c : Int) == 102) = false := beq_eq_false_iff_ne.2 (by omega)
      have d3 : ((c : Int) == 116) = false := beq_eq_false_iff_ne.2 (by omega)
      have d4 : ((c : Int) == 34) = false := beq_eq_false_iff_ne.2 (by omega)
      have d5 : ((c : Int) == 91) = false := beq_eq_false_iff_ne.2 (by omega)
      have d6 : ((c : Int) == 123) = false := beq_eq_false_iff_ne.2 (by omega)
      clear n1 n2 n3 n4 n5 n6 g1 hlt
      go_wp2_with fail
      refine HN.out.mono ?_
      rintro e w2 ⟨rfl, hB⟩
      have HX2 := hide (HX1.out.below hB)
      have HF2 := hide (HF1.out.then hB)
      have HR2 := hide (HR1.out.below hB)
      have HT2 := hide (HT1.out.fr (Fr.of hB))
      clear hB HX1 HR1 HT1 HF1 HN
      cases e : (numEnd T b).2 with
      | true =>
        rw [e, if_pos rfl] at hval
        have HO := hide (number_ok w2 R b d ao cap T HR2.out HT2.out HBL.out e)
        generalize strOf ((T.drop b).take ((numEnd T b).1 - b)) = st at *
        cases hval
        generalize (numEnd T b).1 = z at *
        clear e
        unfold numV valV nilSl at HO
        go_wp2_with fail
        refine HO.out.mono ?_
        rintro e w3 ⟨rfl, hr3, hf3⟩
        have hx3 := HX2.out.fr hf3 (by have := HRW.out; omega) (by simp)
        have HF3 := hide (HF2.out.trans hf3 (.inl rfl))
        have HR3 := hide hr3
        have HX3 := hide hx3
        have x0 : w3.cell? ⟨w.heap.size, 0, none⟩ = some (.int .i64 0) := hx3.cell 0
        have x1 : w3.cell? ⟨w.heap.size, 1, none⟩ = some (.string ⟨#[]⟩) := hx3.cell 1
        have x2 : w3.cell? ⟨w.heap.size, 2, none⟩ = some (.slice none 0 0) := hx3.cell 2
        have x3 : w3.cell? ⟨w.heap.size, 3, none⟩ = some (.slice none 0 0) := hx3.cell 3
        have y0 := hx3.frozen 0
        have y1 := hx3.frozen 1
        have y2 := hx3.frozen 2
        have y3 := hx3.frozen 3
        have lX := hx3.lt
        clear hr3 hf3 hx3 HX2 HF2 HR2 HT2
        go_wp2
        refine bodyPost_ret (results_jv rfl rfl ((((HX3.out.set 0 (.int .i64 3)).set 1 (.string st)).set 2 (.slice none 0 0)).set 3 (.slice none 0 0))) rfl ?_
        exact ⟨rfl, put4 (t := 0) (cs := #[]) (Nat.le_refl _) HRW.out HR3.out HF3.out _ _ _ _⟩
      | false =>
        rw [e] at hval
        have HO := hide (number_bad w2 R b d ao cap T HR2.out HT2.out HBL.out e)
        cases hval
        generalize wrongE T (numEnd T b).1 = ze at *
        generalize (numEnd T b).1 = z at *
        clear e
        go_wp2_with fail
        refine HO.out.mono ?_
        rintro e w3 ⟨he, hB⟩
        have HB := hide hB
        rw [show e = _ from he]
        clear he hB
        go_wp2
        exact ⟨rfl, rfl, HF2.out.then HB.out⟩
    · rw [if_neg g2] at hval; cases hval

set_option maxHeartbeats 4000000 in
theorem nested_calls (w : World) (R p d : Nat) (ao : Option Addr) (cap : Nat) (T : List Nat) (r : AR) (hr : RdJ w R (.slice ao T.length cap) p d) (hT : TxJ w R ao cap T) (hd : d < 64) (hp : p < T.length)
    (hA : ∀ W, RdJ W R (.slice ao T.length cap) (p + 1) (d + 1) → TxJ W R ao cap T → Calls Tryz.prog 68 #[.pointer (some ⟨R, 0, none⟩)] W (ArrJ r W R (.slice ao T.length cap) (d + 1))) :
    Calls Tryz.prog 67 #[.pointer (some ⟨R, 0, none⟩), .func (.func 68) #[.pointer (some ⟨R, 0, none⟩)] #[]] w (ArrJ r w R (.slice ao T.length cap) d) := by
  have hRw := hr.lt
  have hb0 := bel w (.cells jv0 27)
  have hx0 := BoxC.new w 27 jv0
  unfold jv0 at hb0 hx0
  have hr0 := hr.below hb0
  have hT0 := hT.fr (Fr.of hb0)
  generalize hw0 : w.alloc (.cells #[.int .i64 0, .string ⟨#[]⟩, .slice none 0 0, .slice none 0 0] 27) = w0 at *
  obtain ⟨p1, hp1⟩ : ∃ p1, p + 1 = p1 := ⟨_, rfl⟩
  obtain ⟨d1, hd1⟩ : ∃ d1, d + 1 = d1 := ⟨_, rfl⟩
  rw [hp1, hd1] at hA
  have e1 : (p : Int) + 1 = (p1 : Int) := by omega
  have e2 : (d : Int) + 1 = (d1 : Int) := by omega
  have e3 : (d1 : Int) - 1 = (d : Int) := by omega
  have g1 : (p1 : Int) ≤ 1000000000 := by have := hT.len; omega
  have g2 : (d1 : Int) ≤ 1000000000 := by omega
  have g3 : ((d : Int) == 64) = false := beq_eq_false_iff_ne.2 (by omega)
  have c1 : w0.cell? ⟨R, 1, none⟩ = some (.int .i64 (p : Int)) := hr0.cell 1
  have c2 : w0.cell? ⟨R, 2, none⟩ = some (.int .i64 (d : Int)) := hr0.cell 2
  have f1 := hr0.frozen 1
  have f2 := hr0.frozen 2
  have lR := hr0.lt
  have hra : RdJ ((w0.setCell ⟨R, 1, none⟩ (.int .i64 (p1 : Int))).setCell ⟨R, 2, none⟩ (.int .i64 (d1 : Int))) R (.slice ao T.length cap) p1 d1 := (BoxC.set hr0 1 _).set 2 _
  have hfa : Fr R none w0 ((w0.setCell ⟨R, 1, none⟩ (.int .i64 (p1 : Int))).setCell ⟨R, 2, none⟩ (.int .i64 (d1 : Int))) := ((Fr.refl R none w0).set 1 _).set 2 _
  have hxa := (hx0.fr hfa (by omega) (by simp))
  have HCA := hide (hA _ hra (hT0.fr hfa))
  have HW0 := hide hw0
  have HFA := hide (Fr.after hb0 hfa)
  have HXA := hide hxa
  have HRW := hide hRw
  clear hr hT hd hp hA hb0 hx0 hr0 hT0 hw0 hp1 hd1 hra hfa hxa hRw
  go_enter Tryz.func67, Tryz.ntmps67
  go_upto_region 1 with fail
  rw [HW0.out]
  clear HW0
  go_wp2_with fail
  refine HCA.out.mono ?_
  intro e w1 hE
  cases r with
  | bad q e0 =>
    obtain ⟨he, hf⟩ := hE
    have HF := hide (HFA.out.trans hf (.inl rfl))
    rw [show e = _ from he]
    clear he hf
    go_wp2
    exact ⟨rfl, rfl, HF.out⟩
  | ok M q =>
    obtain ⟨lv, rfl, ho, hm, hr1, hf⟩ := hE
    obtain ⟨va, vn, vc, rfl⟩ := ho.slice
    unfold vagg
    have hsz : w.heap.size < w1.heap.size := (HXA.out.fr hf (by have := HRW.out; omega) (by simp)).lt
    have hx1 := HXA.out.fr hf (by have := HRW.out; omega) (by simp)
    have hf1 := HFA.out.trans hf (.inl rfl)
    have hb2 := bel w1 (.cells #[.int .i64 5, .string ⟨#[]⟩, .slice none 0 0, .slice va vn vc] 27)
    have hv2 := BoxC.new w1 27 #[.int .i64 5, .string ⟨#[]⟩, .slice none 0 0, .slice va vn vc]
    have ho2 : OwnV w.heap.size (w1.alloc (.cells #[.int .i64 5, .string ⟨#[]⟩, .slice none 0 0, .slice va vn vc] 27)) (.slice va vn vc) M := (ho.keep (fun j e => hb2.block j (ho.lt j e).2)).mono (by have := HFA.out.size; omega)
    have hox : (Value.slice va vn vc).ownBlock ≠ some w.heap.size := fun e => by
      have := (ho.lt _ e).1
      have := HXA.out.lt
      omega
    have hr2 := hr1.below hb2
    have hf2 := hf1.then hb2
    have hx2 := hx1.below hb2
    have hrw := HRW.out
    generalize hB : w1.heap.size = B at *
    generalize hw2 : w1.alloc (.cells #[.int .i64 5, .string ⟨#[]⟩, .slice none 0 0, .slice va vn vc] 27) = w2 at *
    have c2 : w2.cell? ⟨R, 2, none⟩ = some (.int .i64 (d1 : Int)) := hr2.cell 2
    have f2 := hr2.frozen 2
    have lR2 := hr2.lt
    have hr3 : RdJ (w2.setCell ⟨R, 2, none⟩ (.int .i64 (d : Int))) R (.slice ao T.length cap) q d := BoxC.set hr2 2 _
    have hf3 : Fr R none w (w2.setCell ⟨R, 2, none⟩ (.int .i64 (d : Int))) := hf2.set 2 _
    have hx3 := hx2.other (show w.heap.size ≠ R by omega) 2 (.int .i64 (d : Int))
    have hv3 := hv2.other (show B ≠ R by omega) 2 (.int .i64 (d : Int))
    have ho3 := ho2.set (B := R) (i := 2) (x := .int .i64 (d : Int)) (fun e => by have := (ho2.lt _ e).1; omega)
    have HW2 := hide hw2
    have HBB := hide hB
    have HR3 := hide hr3
    have HF3 := hide hf3
    have HX3 := hide hx3
    have HO3 := hide ho3
    have HOX := hide hox
    have HM := hide hm
    have hne1 : ¬ R = w.heap.size := by omega
    have hne2 : ¬ R = B := by omega
    have hne3 : ¬ w.heap.size = B := by omega
    have v0 := hv3.cell 0
    have v1 := hv3.cell 1
    have v2 := hv3.cell 2
    have v3 := hv3.cell 3
    have lV := hv3.lt
    have x0 := hx3.cell 0
    have x1 := hx3.cell 1
    have x2 := hx3.cell 2
    have x3 := hx3.cell 3
    have y0 := hx3.frozen 0
    have y1 := hx3.frozen 1
    have y2 := hx3.frozen 2
    have y3 := hx3.frozen 3
    have lX := hx3.lt
    simp only [List.getElem?_toArray, List.getElem?_cons_zero, List.getElem?_cons_succ, Nat.reduceAdd] at v0 v1 v2 v3 x0 x1 x2 x3
    clear ho hm hr1 hf hx1 hf1 hb2 hv2 ho2 hr2 hf2 hx2 hw2 hr3 hf3 hx3 hv3 ho3 hox hB hsz hrw
    go_upto_region 6 with fail
    rw [HW2.out, HBB.out]
    clear HW2 HBB
    go_wp2
    refine bodyPost_ret (results_jv rfl rfl ((((HX3.out.set 0 (.int .i64 5)).set 1 (.string ⟨#[]⟩)).set 2 (.slice none 0 0)).set 3 (.slice va vn vc))) rfl ?_
    exact ⟨_, rfl, (((HO3.out.set HOX.out).set HOX.out).set HOX.out).set HOX.out, HM.out, put4 (t := 0) (cs := #[]) (Nat.le_refl _) HRW.out HR3.out HF3.out _ _ _ _⟩

set_option maxHeartbeats 4000000 in
theorem value_arr (w : World) (R q d : Nat) (ao : Option Addr) (cap : Nat) (T : List Nat) (r : AR) (hr : RdJ w R (.slice ao T.length cap) q d) (hT : TxJ w R ao cap T) (hq : q ≤ T.length) (hlt : blEnd T q < T.length) (hc : nth T (blEnd T q) = 91) (hd : d < 64)
    (hA : ∀ W, RdJ W R (.slice ao T.length cap) (blEnd T q + 1) (d + 1) → TxJ W R ao cap T → Calls Tryz.prog 68 #[.pointer (some ⟨R, 0, none⟩)] W (ArrJ r W R (.slice ao T.length cap) (d + 1))) :
    Calls Tryz.prog 48 #[.pointer (some ⟨R, 0, none⟩)] w (ArrJ r w R (.slice ao T.length cap) d) := by
  have hmf : ∀ (fn : Fn) (first cap : Array Value) (w : World), (Instr.makeFunc fn first cap).run Tryz.prog w = .ok (.func fn first cap) w := fun _ _ _ _ => rfl
  have hRw := hr.lt
  have hb0 := bel w (.cells jv0 27)
  have hx0 := BoxC.new w 27 jv0
  unfold jv0 at hb0 hx0
  have hr0 := hr.below hb0
  have hT0 := hT.fr (Fr.of hb0)
  generalize hw0 : w.alloc (.cells #[.int .i64 0, .string ⟨#[]⟩, .slice none 0 0, .slice none 0 0] 27) = w0 at *
  have HS := hide (skipBlanks_calls w0 R q d ao cap T hr0 hT0 hq)
  generalize blEnd T q = b at *
  have HW0 := hide hw0
  have HB0 := hide hb0
  have HT0 := hide hT0
  have HX0 := hide hx0
  have HRW := hide hRw
  have HLT := hide hlt
  have HD := hide hd
  have HA := hide hA
  have HCC := hide hc
  clear hr hT hq hb0 hx0 hr0 hT0 hw0 hRw hlt hd hA hc
  go_enter Tryz.func48, Tryz.ntmps48
  go_wp2_with fail
  rw [HW0.out]
  clear HW0
  refine HS.out.mono ?_
  rintro e w1 ⟨rfl, hr1, _, hf1⟩
  have hx1 := HX0.out.fr hf1 (by have := HRW.out; omega) (by simp)
  have HT1 := hide (HT0.out.fr hf1)
  have HF1 := hide (Fr.after HB0.out hf1)
  have HR1 := hide hr1
  have HX1 := hide hx1
  clear hf1 hx1 HS HT0 HX0 HB0 hr1
  have HN := hide (next_some w1 R b d ao cap T HR1.out HT1.out HLT.out)
  rw [HCC.out] at HN
  go_wp2_with fail
  refine HN.out.mono ?_
  rintro e w2 ⟨rfl, hB⟩
  have HX2 := hide (HX1.out.below hB)
  have HF2 := hide (HF1.out.then hB)
  have HR2 := hide (HR1.out.below hB)
  have HT2 := hide (HT1.out.fr (Fr.of hB))
  clear hB HX1 HR1 HT1 HF1 HN
  have HC := hide (nested_calls w2 R b d ao cap T r HR2.out HT2.out HD.out HLT.out HA.out)
  go_wp2_with fail
  refine HC.out.mono ?_
  intro e w3 hE
  cases r with
  | bad z e0 =>
    obtain ⟨he, hf⟩ := hE
    have HF := hide (HF2.out.trans hf (.inl rfl))
    rw [show e = _ from he]
    clear he hf
    go_wp2
    exact ⟨rfl, rfl, HF.out⟩
  | ok M z =>
    obtain ⟨lv, rfl, ho, hm, hr3, hf3⟩ := hE
    obtain ⟨va, vn, vc, rfl⟩ := ho.slice
    unfold vagg
    have hx3 := HX2.out.fr hf3 (by have := HRW.out; omega) (by simp)
    have HF3 := hide (HF2.out.trans hf3 (.inl rfl))
    have HR3 := hide hr3
    have HX3 := hide hx3
    have hox : (Value.slice va vn vc).ownBlock ≠ some w.heap.size := fun e => by
      have := (ho.lt _ e).1
      have := HX2.out.lt
      omega
    have HOX := hide hox
    have HO3 := hide (ho.mono (show w.heap.size ≤ w2.heap.size by have := HF2.out.size; omega))
    have HM := hide hm
    have x0 : w3.cell? ⟨w.heap.size, 0, none⟩ = some (.int .i64 0) := hx3.cell 0
    have x1 : w3.cell? ⟨w.heap.size, 1, none⟩ = some (.string ⟨#[]⟩) := hx3.cell 1
    have x2 : w3.cell? ⟨w.heap.size, 2, none⟩ = some (.slice none 0 0) := hx3.cell 2
    have x3 : w3.cell? ⟨w.heap.size, 3, none⟩ = some (.slice none 0 0) := hx3.cell 3
    have y0 := hx3.frozen 0
    have y1 := hx3.frozen 1
    have y2 := hx3.frozen 2
    have y3 := hx3.frozen 3
    have lX := hx3.lt
    clear hr3 hf3 hx3 HX2 HF2 HR2 HT2 ho hox hm
    go_wp2
    refine bodyPost_ret (results_jv rfl rfl ((((HX3.out.set 0 (.int .i64 5)).set 1 (.string ⟨#[]⟩)).set 2 (.slice none 0 0)).set 3 (.slice va vn vc))) rfl ?_
    exact ⟨_, rfl, (((HO3.out.set HOX.out).set HOX.out).set HOX.out).set HOX.out, HM.out, put4 (t := 0) (cs := #[]) (Nat.le_refl _) HRW.out HR3.out HF3.out _ _ _ _⟩

end Go.Proofs.YtbdpmpepmjpadaaGreatDoor

namespace Go.Proofs.YtbdpmpepmjpadaaGreatDoor
set_option linter.unusedVariables false
set_option linter.unusedSimpArgs false
set_option maxRecDepth 100000
open Go Go.RowKit Go.Shelf Go.Lib

theorem results_ft {fn : Func} {i : Tmp} (h : fn.results = #[.cell i 97]) {tmps : Array Value} {W : World} {b : Nat} {x y : Value} {t : TypeId} (hp : tmps.getD i undef = .pointer (some ⟨b, 0, none⟩)) (T : BoxC W b t #[x, y]) :
    (results fn tmps).run Tryz.prog W = .ok (.agg #[x, y]) W := by
  have c0 : W.cell? ⟨b, 0, none⟩ = some x := T.cell 0
  have c1 : W.cell? ⟨b, 1, none⟩ = some y := T.cell 1
  have hp' : tmps[i]?.getD undef = .pointer (some ⟨b, 0, none⟩) := by simpa using hp
  simp [results, h, hp', go_sem, c0, c1]

theorem assert_yes (W : World) (v : Value) : (Instr.typeAssert (.iface 97 v) 20 97 true).run Tryz.prog W = .ok (.tuple #[v, .bool true]) W := by kernel_rfl

set_option maxHeartbeats 4000000 in
theorem caught_calls (w : World) (p : Nat) (e : Int) :
    Calls Tryz.prog 47 #[faultV p e] w fun n w' => n = .returned (.agg #[.int .i64 (p : Int), .int .i64 e]) ∧ Below w.heap.size w w' := by
  have has := assert_yes
  unfold faultV
  go_enter Tryz.func47, Tryz.ntmps47
  go_wp2
  refine bodyPost_ret (results_ft rfl rfl ((BoxC.new w 97 #[.int .i64 (p : Int), .int .i64 e]).alloc _)) rfl ?_
  exact ⟨rfl, ((Below.refl _ w).alloc (Nat.le_refl _) _).alloc (by simp) _⟩

/-- What Parse answers into: three boxes. -/
structure ResJ (W : World) (A : Nat) (x y z u pv ev : Value) : Prop where
  v : BoxC W A 27 #[x, y, z, u]
  p : BoxC W (A + 1) 3 #[pv]
  e : BoxC W (A + 1 + 1) 66 #[ev]

theorem BoxC.drew {W : World} {B : Nat} {t : TypeId} {cs : Array Value} (h : BoxC W B t cs) : BoxC W.drew B t cs := h
theorem resJ_v {W : World} {A : Nat} {x y z u : Value} {t : TypeId} (h : BoxC W A t #[x, y, z, u]) (x' y' z' u' : Value) :
    BoxC ((((W.setCell ⟨A, 0, none⟩ x').setCell ⟨A, 1, none⟩ y').setCell ⟨A, 2, none⟩ z').setCell ⟨A, 3, none⟩ u') A t #[x', y', z', u'] := by
  have h1 : BoxC (W.setCell ⟨A, 0, none⟩ x') A t #[x', y, z, u] := h.set 0 x'
  have h2 : BoxC ((W.setCell ⟨A, 0, none⟩ x').setCell ⟨A, 1, none⟩ y') A t #[x', y', z, u] := h1.set 1 y'
  have h3 : BoxC (((W.setCell ⟨A, 0, none⟩ x').setCell ⟨A, 1, none⟩ y').setCell ⟨A, 2, none⟩ z') A t #[x', y', z', u] := h2.set 2 z'
  exact h3.set 3 u'
theorem box_off4 {W : World} {A B : Nat} {t : TypeId} {cs : Array Value} (h : BoxC W B t cs) (hne : B ≠ A) (x' y' z' u' : Value) :
    BoxC ((((W.setCell ⟨A, 0, none⟩ x').setCell ⟨A, 1, none⟩ y').setCell ⟨A, 2, none⟩ z').setCell ⟨A, 3, none⟩ u') B t cs :=
  (((h.other hne 0 x').other hne 1 y').other hne 2 z').other hne 3 u'
theorem resJ_put {W : World} {A : Nat} {x y z u pv ev : Value} (h : ResJ W A x y z u pv ev) (x' y' z' u' pv' ev' : Value) :
    ResJ ((((((W.setCell ⟨A, 0, none⟩ x').setCell ⟨A, 1, none⟩ y').setCell ⟨A, 2, none⟩ z').setCell ⟨A, 3, none⟩ u').setCell ⟨A + 1, 0, none⟩ pv').setCell ⟨A + 1 + 1, 0, none⟩ ev') A x' y' z' u' pv' ev' := by
  have n1 : A ≠ A + 1 := by omega
  have n2 : A ≠ A + 1 + 1 := by omega
  have n3 : A + 1 ≠ A + 1 + 1 := by omega
  refine ⟨((resJ_v h.v x' y' z' u').other n1 0 pv').other n2 0 ev', ?_, ?_⟩
  · have h1 := box_off4 h.p n1.symm x' y' z' u'
    have h2 : BoxC _ (A + 1) 3 #[pv'] := h1.set 0 pv'
    exact h2.other n3 0 ev'
  · have h1 := (box_off4 h.e n2.symm x' y' z' u').other n3.symm 0 pv'
    exact h1.set 0 ev'
theorem below_put {W w : World} {A n : Nat} (h : Below n w W) (h1 : n ≤ A) (x' y' z' u' pv' ev' : Value) :
    Below n w ((((((W.setCell ⟨A, 0, none⟩ x').setCell ⟨A, 1, none⟩ y').setCell ⟨A, 2, none⟩ z').setCell ⟨A, 3, none⟩ u').setCell ⟨A + 1, 0, none⟩ pv').setCell ⟨A + 1 + 1, 0, none⟩ ev') :=
  (((((h.setCell (p := ⟨A, 0, none⟩) h1 x').setCell (p := ⟨A, 1, none⟩) h1 y').setCell (p := ⟨A, 2, none⟩) h1 z').setCell (p := ⟨A, 3, none⟩) h1 u').setCell (p := ⟨A + 1, 0, none⟩) (Nat.le_succ_of_le h1) pv').setCell (p := ⟨A + 1 + 1, 0, none⟩) (Nat.le_succ_of_le (Nat.le_succ_of_le h1)) ev'
theorem resJ_drew {W : World} {A : Nat} {x y z u pv ev : Value} (h : ResJ W A x y z u pv ev) : ResJ W.drew A x y z u pv ev := ⟨h.v, h.p, h.e⟩

set_option maxHeartbeats 4000000 in
theorem parse1_pan (w : World) (A p : Nat) (e : Int) (x y z u pv ev : Value) (older : List PanicEntry) (h : ResJ w A x y z u pv ev) :
    CallsD Tryz.prog 46 #[.pointer (some ⟨A, 0, none⟩), .pointer (some ⟨A + 1, 0, none⟩), .pointer (some ⟨A + 1 + 1, 0, none⟩)] (.panicking ({ v := faultV p e, recovered := false } :: older)) w fun n u' w' =>
      n = .returned (.tuple #[]) ∧ u' = .panicking ({ v := faultV p e, recovered := true } :: older) ∧ ResJ w' A (.int .i64 0) (.string ⟨#[]⟩) (.slice none 0 0) (.slice none 0 0) (.int .i64 (p : Int)) (.int .i64 e) ∧ (∀ n, n ≤ A → n ≤ w.heap.size → Below n w w') := by
  refine callsD_of_wpS Tryz.func46 rfl fun c₀ cs hu => ?_
  apply wpS_seq
  apply wpS_region
  simp [wpOpsS, go_sem, recoverD, hu, Tryz.ntmps46, Exit.thenS]
  refine wpS_of_wp ?_
  have HC := hide (caught_calls w p e)
  have HH := hide h
  clear h
  unfold faultV at *
  simp only [Array.replicate_succ, Array.replicate_zero, List.push_toArray, List.append_toArray, List.nil_append, List.cons_append, List.setIfInBounds_toArray, List.set_cons_zero, List.set_cons_succ]
  go_wp2_with fail
  refine HC.out.mono ?_
  rintro n w1 ⟨rfl, hB⟩
  have hb2 := bel w1 (.cells #[.int .i64 (p : Int), .int .i64 e] 97)
  have hf2 := BoxC.new w1 97 #[.int .i64 (p : Int), .int .i64 e]
  have hv2 := (HH.out.v.below hB).below hb2
  have hp2 := (HH.out.p.below hB).below hb2
  have he2 := (HH.out.e.below hB).below hb2
  have HB2 : Hid (∀ n, n ≤ w.heap.size → Below n w (w1.alloc (.cells #[.int .i64 (p : Int), .int .i64 e] 97))) := fun n hn => (hB.mono hn).trans (hb2.mono (Nat.le_trans hn hB.size))
  have hlt : A + 1 + 1 < w1.heap.size := (HH.out.e.below hB).lt
  generalize hw2 : w1.alloc (.cells #[.int .i64 (p : Int), .int .i64 e] 97) = w2 at *
  generalize hBB : w1.heap.size = B at *
  have HW2 := hide hw2
  have HBB := hide hBB
  have a0 := hv2.cell 0
  have a1 := hv2.cell 1
  have a2 := hv2.cell 2
  have a3 := hv2.cell 3
  have b0 := hp2.cell 0
  have b1 := he2.cell 0
  have u0 := hf2.cell 0
  have u1 := hf2.cell 1
  simp only [List.getElem?_toArray, List.getElem?_cons_zero, List.getElem?_cons_succ, Nat.reduceAdd] at a0 a1 a2 a3 b0 b1 u0 u1
  have f0 := hv2.frozen 0
  have f1 := hv2.frozen 1
  have f2 := hv2.frozen 2
  have f3 := hv2.frozen 3
  have f4 := hp2.frozen 0
  have f5 := he2.frozen 0
  have HV := hide hv2
  have HP := hide hp2
  have HE := hide he2
  have n1 : ¬ A = B := by omega
  have n2 : ¬ A + 1 = B := by omega
  have n3 : ¬ A + 1 + 1 = B := by omega
  have m1 : ¬ B = A := by omega
  have m2 : ¬ B = A + 1 := by omega
  have m3 : ¬ B = A + 1 + 1 := by omega
  clear hB hb2 hf2 hv2 hp2 he2 hw2 hBB HC HH
  go_upto_region 3 with fail
  rw [HW2.out, HBB.out]
  clear HW2 HBB
  go_region
  show bodyPostS Tryz.prog Tryz.f46 c₀ cs _ _ _ _ _
  have hR := resJ_drew (resJ_put (W := w2) (A := A) ⟨HV.out, HP.out, HE.out⟩ (.int .i64 0) (.string ⟨#[]⟩) (.slice none 0 0) (.slice none 0 0) (.int .i64 (p : Int)) (.int .i64 e))
  have hBl := fun n (h1 : n ≤ A) (h2 : n ≤ w.heap.size) => (below_put (HB2.out n h2) h1 (.int .i64 0) (.string ⟨#[]⟩) (.slice none 0 0) (.slice none 0 0) (.int .i64 (p : Int)) (.int .i64 e)).drew
  exact ⟨rfl, _, rfl, .tuple #[], results_none rfl _ _ _, rfl, rfl, hR, hBl⟩

end Go.Proofs.YtbdpmpepmjpadaaGreatDoor

namespace Go.Proofs.YtbdpmpepmjpadaaGreatDoor
set_option linter.unusedVariables false
set_option linter.unusedSimpArgs false
set_option maxRecDepth 100000
open Go Go.RowKit Go.Shelf Go.Lib

set_option maxHeartbeats 1000000 in
theorem parse1_ret (w : World) (A B C : Addr) :
    CallsD Tryz.prog 46 #[.pointer (some A), .pointer (some B), .pointer (some C)] .returning w fun n u' w' => n = .returned (.tuple #[]) ∧ u' = .returning ∧ w' = w := by
  refine callsD_of_wpS Tryz.func46 rfl fun c₀ cs hu => ?_
  apply wpS_seq
  apply wpS_region
  simp [wpOpsS, go_sem, recoverD, hu, Tryz.ntmps46, Exit.thenS]
  refine wpS_of_wp ?_
  simp only [Array.replicate_succ, Array.replicate_zero, List.push_toArray, List.append_toArray, List.nil_append, List.cons_append, List.setIfInBounds_toArray, List.set_cons_zero, List.set_cons_succ]
  go_wp2
  show bodyPostS Tryz.prog Tryz.f46 c₀ cs _ _ _ _ _
  cases c₀
  simp at hu
  subst hu
  exact ⟨rfl, _, rfl, .tuple #[], results_none rfl _ _ _, rfl, rfl, rfl⟩

def valG (T : List Nat) (q : Nat) : Option VR := if q ≤ T.length then valN T q else none
theorem arr_calls (w : World) (R p d : Nat) (ao : Option Addr) (cap : Nat) (T : List Nat) (hr : RdJ w R (.slice ao T.length cap) p d) (hT : TxJ w R ao cap T) (hp : p ≤ T.length) (N : Nat) (r : AR) (hN : arrF (valG T) T N p [] = some r) :
    Calls Tryz.prog 68 #[.pointer (some ⟨R, 0, none⟩)] w (ArrJ r w R (.slice ao T.length cap) d) :=
  array_calls (valG T) w R p d ao cap T hr hT hp (fun W q r h hq hr hT => value_num W R q d ao cap T r (by unfold valG at h; rw [if_pos hq] at h; exact h) hr hT hq) (okN T) N r hN

theorem results_p3 {fn : Func} {i j k : Tmp} (h : fn.results = #[.cell i 27, .cell j 3, .cell k 66]) {tmps : Array Value} {W : World} {A : Nat} {x y z u pv ev : Value} (hi : tmps.getD i undef = .pointer (some ⟨A, 0, none⟩)) (hj : tmps.getD j undef = .pointer (some ⟨A + 1, 0, none⟩)) (hk : tmps.getD k undef = .pointer (some ⟨A + 1 + 1, 0, none⟩)) (T : ResJ W A x y z u pv ev) :
    (results fn tmps).run Tryz.prog W = .ok (.tuple #[.agg #[x, y, z, u], pv, ev]) W := by
  have c0 : W.cell? ⟨A, 0, none⟩ = some x := T.v.cell 0
  have c1 : W.cell? ⟨A, 1, none⟩ = some y := T.v.cell 1
  have c2 : W.cell? ⟨A, 2, none⟩ = some z := T.v.cell 2
  have c3 : W.cell? ⟨A, 3, none⟩ = some u := T.v.cell 3
  have c4 : W.cell? ⟨A + 1, 0, none⟩ = some pv := T.p.cell 0
  have c5 : W.cell? ⟨A + 1 + 1, 0, none⟩ = some ev := T.e.cell 0
  have hi' : tmps[i]?.getD undef = .pointer (some ⟨A, 0, none⟩) := by simpa using hi
  have hj' : tmps[j]?.getD undef = .pointer (some ⟨A + 1, 0, none⟩) := by simpa using hj
  have hk' : tmps[k]?.getD undef = .pointer (some ⟨A + 1 + 1, 0, none⟩) := by simpa using hk
  simp [results, h, hi', hj', hk', go_sem, c0, c1, c2, c3, c4, c5]

/-- What Parse answers: of an array of numbers, what is behind it being nothing. -/
def ParR (T : List Nat) (r : AR) (n₀ : Nat) (e : Ending) (w' : World) : Prop := match r with
  | .bad p n => e = .returned (.tuple #[.agg #[.int .i64 0, .string ⟨#[]⟩, .slice none 0 0, .slice none 0 0], .int .i64 (p : Int), .int .i64 n])
  | .ok M p => ∃ lv, e = .returned (.tuple #[vagg (5, ⟨#[]⟩, .slice none 0 0, lv), .int .i64 0, .int .i64 0]) ∧ OwnV n₀ w' lv M ∧ M.length ≤ 1000000

set_option maxHeartbeats 4000000 in
theorem parse_calls (w : World) (ao : Option Addr) (cap : Nat) (T : List Nat) (N F : Nat) (r : AR) (h : Byts w (.slice ao T.length cap) T) (hU : Utf8Tabs 0 1 w) (h1 : ∀ k, k < N → posL T k < T.length) (h2 : posL T N = T.length) (hv : ∀ k, k < N → runeAt T (posL T k) ≠ -1) (hlen : T.length ≤ 1000000) (hcap : T.length ≤ cap)
    (hb : blEnd T 0 < T.length) (hc : nth T (blEnd T 0) = 91) (hF : arrF (valG T) T F (blEnd T 0 + 1) [] = some r) (hend : ∀ M q, r = .ok M q → blEnd T q = T.length ∧ q ≤ T.length) :
    Calls Tryz.prog 23 #[.slice ao T.length cap] w fun e w' => ParR T r w.heap.size e w' ∧ Below w.heap.size w w' := by
  have hmf : ∀ (fn : Fn) (first cap : Array Value) (w : World), (Instr.makeFunc fn first cap).run Tryz.prog w = .ok (.func fn first cap) w := fun _ _ _ _ => rfl
  have hb0 : Below w.heap.size w (((w.alloc (.cells jv0 27)).alloc (.cells #[.int .i64 0] 3)).alloc (.cells #[.int .i64 0] 66)) := ((bel w _).alloc (by simp) _).alloc (by simp; omega) _
  have hv0 := ((BoxC.new w 27 jv0).alloc (.cells #[.int .i64 0] 3)).alloc (.cells #[.int .i64 0] 66)
  have hp0 := (BoxC.new (w.alloc (.cells jv0 27)) 3 #[.int .i64 0]).alloc (.cells #[.int .i64 0] 66)
  have he0 := BoxC.new ((w.alloc (.cells jv0 27)).alloc (.cells #[.int .i64 0] 3)) 66 #[.int .i64 0]
  rw [World.size_alloc] at hp0
  rw [World.size_alloc, World.size_alloc] at he0
  unfold jv0 at hb0 hv0 hp0 he0
  have hR0 : ResJ _ w.heap.size (.int .i64 0) (.string ⟨#[]⟩) (.slice none 0 0) (.slice none 0 0) (.int .i64 0) (.int .i64 0) := ⟨hv0, hp0, he0⟩
  have hs0 : (((w.alloc (.cells #[.int .i64 0, .string ⟨#[]⟩, .slice none 0 0, .slice none 0 0] 27)).alloc (.cells #[.int .i64 0] 3)).alloc (.cells #[.int .i64 0] 66)).heap.size = w.heap.size + 3 := by simp
  generalize hw0 : ((w.alloc (.cells #[.int .i64 0, .string ⟨#[]⟩, .slice none 0 0, .slice none 0 0] 27)).alloc (.cells #[.int .i64 0] 3)).alloc (.cells #[.int .i64 0] 66) = w0 at *
  have HVC := hide (valid_calls w0 ao cap T N (h.below hb0) (Utf8Tabs_below hU hb0) h1 h2 (by omega) hcap)
  have HR0 := hide hR0
  have HB0 := hide hb0
  have HS0 := hide hs0
  have HW0 := hide hw0
  have HH := hide h
  have HV := hide hv
  have HF := hide hF
  have HE := hide hend
  have HLN := hide hlen
  have HCP := hide hcap
  have HBB := hide hb
  have HCC := hide hc
  clear hb0 hv0 hp0 he0 hR0 hs0 hw0 h hU h1 h2 hv hlen hcap hb hc hF hend
  go_enter_defers Tryz.func23, Tryz.ntmps23
  go_wp2_with fail
  rw [HW0.out]
  clear HW0
  refine HVC.out.mono ?_
  rintro e w1 ⟨at', er, rfl, hTold, hB1⟩
  have ht : at' = 0 ∧ er = 0 := by
    rcases hTold with ⟨k, hk, _, hx, _⟩ | ⟨_, ha, he⟩
    · exact absurd hx (HV.out k hk)
    · exact ⟨ha, he⟩
  obtain ⟨rfl, rfl⟩ := ht
  have hB1' := hB1
  have hR1 := (⟨HR0.out.v.below hB1, HR0.out.p.below hB1, HR0.out.e.below hB1⟩ : ResJ w1 w.heap.size _ _ _ _ _ _)
  have hb2 := bel w1 (.cells #[.slice ao T.length cap, .int .i64 0, .int .i64 0] 101)
  have hr2 : RdJ (w1.alloc (.cells #[.slice ao T.length cap, .int .i64 0, .int .i64 0] 101)) w1.heap.size (.slice ao T.length cap) 0 0 := BoxC.new w1 101 #[.slice ao T.length cap, .int .i64 0, .int .i64 0]
  have hR2 := (⟨hR1.v.below hb2, hR1.p.below hb2, hR1.e.below hb2⟩ : ResJ (w1.alloc (.cells #[.slice ao T.length cap, .int .i64 0, .int .i64 0] 101)) w.heap.size _ _ _ _ _ _)
  have hB2 : Below w.heap.size w (w1.alloc (.cells #[.slice ao T.length cap, .int .i64 0, .int .i64 0] 101)) := (HB0.out.trans (hB1.mono HB0.out.size)).trans (hb2.mono (Nat.le_trans HB0.out.size hB1.size))
  have hlt : w.heap.size + 1 + 1 < w1.heap.size := hR1.e.lt
  have hT2 : TxJ (w1.alloc (.cells #[.slice ao T.length cap, .int .i64 0, .int .i64 0] 101)) w1.heap.size ao cap T := by
    refine ⟨HH.out.below hB2, fun a e => ?_, HLN.out, HCP.out⟩
    obtain ⟨ao', c', e', _, hx⟩ := HH.out
    cases e'
    have hpos := HBB.out
    obtain ⟨b, off, e2, hx⟩ := hx 0 (by omega)
    rw [e] at e2
    cases e2
    have := block_lt hx
    have := hlt
    show b ≠ _
    omega
  generalize hw2 : w1.alloc (.cells #[.slice ao T.length cap, .int .i64 0, .int .i64 0] 101) = w2 at *
  generalize hRR : w1.heap.size = R at *
  have HW2 := hide hw2
  have HRR := hide hRR
  have HVA := hide (value_arr w2 R 0 0 ao cap T r hr2 hT2 (Nat.zero_le _) HBB.out HCC.out (by omega) (fun W hr hT => arr_calls W R _ _ ao cap T hr hT HBB.out F r HF.out))
  have HR2 := hide hR2
  have HB2 := hide hB2
  have HT2 := hide hT2
  have HLT := hide hlt
  have HRL := hide hr2.lt
  clear hB1 hB1' hR1 hb2 hr2 hR2 hB2 hlt hT2 hw2 hRR HR0 HVC HS0 hTold HB0
  go_wp2_with fail
  rw [HW2.out, HRR.out]
  clear HW2 HRR
  refine HVA.out.mono ?_
  intro e w3 hE
  cases r with
  | bad z e0 =>
    obtain ⟨he, hf⟩ := hE
    have HF3 := hide hf
    have n1 : w.heap.size ≠ R := by have := HLT.out; omega
    have n2 : w.heap.size + 1 ≠ R := by have := HLT.out; omega
    have n3 : w.heap.size + 1 + 1 ≠ R := by have := HLT.out; omega
    have HR3 := hide (⟨HR2.out.v.fr hf n1 (by simp), HR2.out.p.fr hf n2 (by simp), HR2.out.e.fr hf n3 (by simp)⟩ : ResJ w3 w.heap.size _ _ _ _ _ _)
    have HB3 : Hid (Below w.heap.size w w3) := HB2.out.trans (hf.below (by have := HLT.out; omega) (fun k e => by cases e) HB2.out.size)
    rw [show e = _ from he]
    clear he hf
    go_wp2
    refine leaves_cons (f := 46) (args := #[.pointer (some ⟨w.heap.size, 0, none⟩), .pointer (some ⟨w.heap.size + 1, 0, none⟩), .pointer (some ⟨w.heap.size + 1 + 1, 0, none⟩)]) (by simp) (by simp [go_sem]) ?_
    refine (parse1_pan w3 w.heap.size z e0 _ _ _ _ _ _ [] HR3.out).mono ?_
    rintro e u' w4 ⟨rfl, rfl, hR4, hB4⟩
    show Leaves _ _ _ _ [] .returning _
    exact ⟨_, results_p3 rfl rfl rfl rfl hR4, rfl, HB3.out.trans (hB4 _ (Nat.le_refl _) HB3.out.size)⟩
  | ok M z =>
    obtain ⟨lv, rfl, ho, hm, hr3, hf⟩ := hE
    obtain ⟨va, vn, vc, rfl⟩ := ho.slice
    unfold vagg
    obtain ⟨hz1, hz2⟩ := HE.out M z rfl
    have n1 : w.heap.size ≠ R := by have := HLT.out; omega
    have n2 : w.heap.size + 1 ≠ R := by have := HLT.out; omega
    have n3 : w.heap.size + 1 + 1 ≠ R := by have := HLT.out; omega
    have hR3 := (⟨HR2.out.v.fr hf n1 (by simp), HR2.out.p.fr hf n2 (by simp), HR2.out.e.fr hf n3 (by simp)⟩ : ResJ w3 w.heap.size _ _ _ _ _ _)
    have hT3 := HT2.out.fr hf
    have hB3 : Below w.heap.size w w3 := HB2.out.trans (hf.below (by have := HLT.out; omega) (fun k e => by cases e) HB2.out.size)
    have hle2 : w.heap.size + 1 + 1 < w2.heap.size := HR2.out.e.lt
    have hox : (Value.slice va vn vc).ownBlock ≠ some w.heap.size := fun e => by have := (ho.lt _ e).1; omega
    have hox1 : (Value.slice va vn vc).ownBlock ≠ some (w.heap.size + 1) := fun e => by have := (ho.lt _ e).1; omega
    have hox2 : (Value.slice va vn vc).ownBlock ≠ some (w.heap.size + 1 + 1) := fun e => by have := (ho.lt _ e).1; omega
    have a0 := hR3.v.cell 0
    have a1 := hR3.v.cell 1
    have a2 := hR3.v.cell 2
    have a3 := hR3.v.cell 3
    simp only [List.getElem?_toArray, List.getElem?_cons_zero, List.getElem?_cons_succ, Nat.reduceAdd] at a0 a1 a2 a3
    have f0 := hR3.v.frozen 0
    have f1 := hR3.v.frozen 1
    have f2 := hR3.v.frozen 2
    have f3 := hR3.v.frozen 3
    have lA := hR3.v.lt
    have hv4 := resJ_v hR3.v (.int .i64 5) (.string ⟨#[]⟩) (.slice none 0 0) (.slice va vn vc)
    have hp4 := box_off4 hR3.p (show w.heap.size + 1 ≠ w.heap.size by omega) (.int .i64 5) (.string ⟨#[]⟩) (.slice none 0 0) (.slice va vn vc)
    have he4 := box_off4 hR3.e (show w.heap.size + 1 + 1 ≠ w.heap.size by omega) (.int .i64 5) (.string ⟨#[]⟩) (.slice none 0 0) (.slice va vn vc)
    have hr4 := box_off4 hr3 n1.symm (.int .i64 5) (.string ⟨#[]⟩) (.slice none 0 0) (.slice va vn vc)
    have ho4 := (((ho.set hox (i := 0) (x := .int .i64 5)).set hox (i := 1) (x := .string ⟨#[]⟩)).set hox (i := 2) (x := .slice none 0 0)).set hox (i := 3) (x := .slice va vn vc)
    have hB4 : Below w.heap.size w ((((w3.setCell ⟨w.heap.size, 0, none⟩ (.int .i64 5)).setCell ⟨w.heap.size, 1, none⟩ (.string ⟨#[]⟩)).setCell ⟨w.heap.size, 2, none⟩ (.slice none 0 0)).setCell ⟨w.heap.size, 3, none⟩ (.slice va vn vc)) :=
      (((hB3.setCell (p := ⟨w.heap.size, 0, none⟩) (Nat.le_refl _) _).setCell (p := ⟨w.heap.size, 1, none⟩) (Nat.le_refl _) _).setCell (p := ⟨w.heap.size, 2, none⟩) (Nat.le_refl _) _).setCell (p := ⟨w.heap.size, 3, none⟩) (Nat.le_refl _) _
    have hT4 : TxJ ((((w3.setCell ⟨w.heap.size, 0, none⟩ (.int .i64 5)).setCell ⟨w.heap.size, 1, none⟩ (.string ⟨#[]⟩)).setCell ⟨w.heap.size, 2, none⟩ (.slice none 0 0)).setCell ⟨w.heap.size, 3, none⟩ (.slice va vn vc)) R ao cap T := ⟨HH.out.below hB4, hT3.off, hT3.len, hT3.cap⟩
    generalize hw4 : (((w3.setCell ⟨w.heap.size, 0, none⟩ (.int .i64 5)).setCell ⟨w.heap.size, 1, none⟩ (.string ⟨#[]⟩)).setCell ⟨w.heap.size, 2, none⟩ (.slice none 0 0)).setCell ⟨w.heap.size, 3, none⟩ (.slice va vn vc) = w4 at *
    have HW4 := hide hw4
    have HSK := hide (skipBlanks_calls w4 R z 0 ao cap T hr4 hT4 hz2)
    rw [hz1] at HSK
    have HV4 := hide hv4
    have HP4 := hide hp4
    have HE4 := hide he4
    have HO4 := hide ho4
    have HB4 := hide hB4
    have HM := hide hm
    have HOX := hide hox
    have HOX1 := hide hox1
    have HOX2 := hide hox2
    clear ho hm hr3 hf hR3 hT3 hB3 hle2 hv4 hp4 he4 hr4 ho4 hB4 hT4 hw4 hz1 hz2 hox hox1 hox2 HR2 HB2 HT2 n1 n2 n3
    go_wp2_with fail
    rw [HW4.out]
    clear HW4 a0 a1 a2 a3 f0 f1 f2 f3 lA
    refine HSK.out.mono ?_
    rintro e w5 ⟨rfl, hr5, _, hf5⟩
    have n1 : w.heap.size ≠ R := by have := HLT.out; omega
    have n2 : w.heap.size + 1 ≠ R := by have := HLT.out; omega
    have n3 : w.heap.size + 1 + 1 ≠ R := by have := HLT.out; omega
    have hv5 := HV4.out.fr hf5 n1 (by simp)
    have hp5 := HP4.out.fr hf5 n2 (by simp)
    have he5 := HE4.out.fr hf5 n3 (by simp)
    have ho5 := HO4.out.keep (fun j e => hf5.block (HO4.out.lt j e).2 (fun q => by have := (HO4.out.lt j e).1; have := HRL.out; omega) (by simp))
    have hB5 := HB4.out.trans (hf5.below (by have := HLT.out; omega) (fun k e => by cases e) HB4.out.size)
    have c1 : w5.cell? ⟨R, 1, none⟩ = some (.int .i64 (T.length : Int)) := hr5.cell 1
    have lR := hr5.lt
    have a0 := hv5.cell 0
    have a1 := hv5.cell 1
    have a2 := hv5.cell 2
    have a3 := hv5.cell 3
    have b0 := hp5.cell 0
    have b1 := he5.cell 0
    simp only [List.getElem?_toArray, List.getElem?_cons_zero, List.getElem?_cons_succ, Nat.reduceAdd] at a0 a1 a2 a3 b0 b1
    have f0 := hv5.frozen 0
    have f1 := hv5.frozen 1
    have f2 := hv5.frozen 2
    have f3 := hv5.frozen 3
    have f4 := hp5.frozen 0
    have f5 := he5.frozen 0
    have lA := hv5.lt
    have dlt : ¬ (T.length : Int) < (T.length : Int) := by omega
    have HR5 : Hid (ResJ w5 w.heap.size (.int .i64 5) (.string ⟨#[]⟩) (.slice none 0 0) (.slice va vn vc) (.int .i64 0) (.int .i64 0)) := ⟨hv5, hp5, he5⟩
    have HO5 := hide (ho5.mono (show w.heap.size ≤ w2.heap.size by have := HRL.out; have := HLT.out; omega))
    have HB5 := hide hB5
    clear hr5 hf5 hv5 hp5 he5 ho5 hB5 HV4 HP4 HE4 HO4 HB4 n1 n2 n3 HSK
    go_wp2
    have HR6 := resJ_put HR5.out (.int .i64 5) (.string ⟨#[]⟩) (.slice none 0 0) (.slice va vn vc) (.int .i64 0) (.int .i64 0)
    have HB6 := below_put HB5.out (Nat.le_refl _) (.int .i64 5) (.string ⟨#[]⟩) (.slice none 0 0) (.slice va vn vc) (.int .i64 0) (.int .i64 0)
    have HO6 := (((((HO5.out.set HOX.out (i := 0) (x := .int .i64 5)).set HOX.out (i := 1) (x := .string ⟨#[]⟩)).set HOX.out (i := 2) (x := .slice none 0 0)).set HOX.out (i := 3) (x := .slice va vn vc)).set HOX1.out (i := 0) (x := .int .i64 0)).set HOX2.out (i := 0) (x := .int .i64 0)
    refine leaves_cons (f := 46) (args := #[.pointer (some ⟨w.heap.size, 0, none⟩), .pointer (some ⟨w.heap.size + 1, 0, none⟩), .pointer (some ⟨w.heap.size + 1 + 1, 0, none⟩)]) (by simp) (by simp [go_sem]) ?_
    refine (parse1_ret _ _ _ _).mono ?_
    rintro e u' w6 ⟨rfl, rfl, hw6⟩
    rw [hw6]
    clear hw6
    show Leaves _ _ _ _ [] .returning _
    exact ⟨_, results_p3 rfl rfl rfl rfl HR6, ⟨_, rfl, HO6, HM.out⟩, HB6⟩

end Go.Proofs.YtbdpmpepmjpadaaGreatDoor

namespace Go.Proofs.YtbdpmpepmjpadaaGreatDoor
set_option linter.unusedVariables false
set_option linter.unusedSimpArgs false
set_option maxRecDepth 100000
open Go Go.RowKit Go.Shelf Go.Lib

/-- Is a block one of bytes? -/
def IsU8 (o : Option Obj) : Prop := ∃ cs z, o = some (.cells cs 5 z)
/-- Nothing is other than it was but block B, and blocks of bytes from n₀ on. -/
structure FrW (n₀ B : Nat) (w w' : World) : Prop where
  os : w'.os = w.os
  tape : w'.tape = w.tape
  output : w'.output = w.output
  size : w.heap.size ≤ w'.heap.size
  block : ∀ k, k < w.heap.size → k ≠ B → (k < n₀ ∨ ¬ IsU8 w.heap[k]?) → w'.heap[k]? = w.heap[k]?
theorem FrW.refl (n₀ B : Nat) (w : World) : FrW n₀ B w w := ⟨rfl, rfl, rfl, Nat.le_refl _, fun _ _ _ _ => rfl⟩
theorem FrW.trans {n₀ B : Nat} {a b c : World} (h : FrW n₀ B a b) (k : FrW n₀ B b c) : FrW n₀ B a c := by
  refine ⟨k.os.trans h.os, k.tape.trans h.tape, k.output.trans h.output, Nat.le_trans h.size k.size, fun i hi hne hc => ?_⟩
  have e := h.block i hi hne hc
  exact (k.block i (Nat.lt_of_lt_of_le hi h.size) hne (by rw [e]; exact hc)).trans e
theorem FrW.of {n₀ B : Nat} {w w' : World} (h : Below w.heap.size w w') : FrW n₀ B w w' := ⟨h.os, h.tape, h.output, h.size, fun k hk _ _ => h.block k hk⟩
theorem FrW.set {n₀ B : Nat} {w w' : World} (h : FrW n₀ B w w') (i : Nat) (x : Value) : FrW n₀ B w (w'.setCell ⟨B, i, none⟩ x) :=
  ⟨h.os, h.tape, h.output, by rw [World.size_setCell]; exact h.size, fun k hk hne hc => (Below.heap_setCell w' ⟨B, i, none⟩ x k hne).trans (h.block k hk hne hc)⟩
theorem FrW.grown {n₀ B : Nat} {w w' : World} {v : Value} {T : List Nat} (ho : OwnB n₀ w v T) (hg : w.grownBy w' v.ownBlock) : FrW n₀ B w w' := by
  have b := (Below.refl 0 w).grown hg (Nat.zero_le _) (fun _ _ => Nat.zero_le _)
  refine ⟨b.os, b.tape, b.output, b.size, fun k hk _ hc => hg.block k hk (fun e => ?_)⟩
  obtain ⟨c, fz, hkk⟩ := Lib.ownsRow_kind ho k e.symm
  have := (World.ownsRow.lt ho k e.symm).1
  rcases hc with h1 | h1
  · omega
  · exact h1 ⟨_, _, hkk⟩
theorem FrW.below {n₀ B n : Nat} {w w' : World} (h : FrW n₀ B w w') (hn : n ≤ n₀) (hB : n ≤ B) (hs : n ≤ w.heap.size) : Below n w w' :=
  ⟨h.os, h.tape, h.output, h.size, fun k hk => h.block k (by omega) (by omega) (.inl (by omega))⟩
theorem BoxC.frw {n₀ B C : Nat} {w w' : World} {t : TypeId} {cs : Array Value} (h : BoxC w C t cs) (k : FrW n₀ B w w') (hne : C ≠ B) (ht : t ≠ 5) : BoxC w' C t cs := by
  refine (k.block C h.lt hne (.inr ?_)).trans h
  rintro ⟨cs', z, e⟩
  rw [show w.heap[C]? = _ from h] at e
  cases e
  exact ht rfl
theorem OwnV.frw {n₀ n₁ B : Nat} {w w' : World} {v : Value} {M : List JC} {t : TypeId} {cs : Array Value} (h : OwnV n₁ w v M) (k : FrW n₀ B w w') (hB : BoxC w B t cs) (ht : t ≠ 27) : OwnV n₁ w' v M := by
  refine h.keep fun j e => k.block j (h.lt j e).2 (fun q => h.ne hB ht (by rw [e, q])) (.inr ?_)
  rintro ⟨cs', z, e'⟩
  obtain ⟨c, fz, hk⟩ := Lib.ownsRow_kind h j e
  rw [hk] at e'
  cases e'

theorem strCells_of (S : List Nat) (hS : ∀ x ∈ S, x < 256) : strCells (strOf S) = u8s S := by
  unfold strCells u8s strOf
  simp only [List.map_map]
  apply List.map_congr_left
  intro x hx
  have := hS x hx
  simp
  omega

end Go.Proofs.YtbdpmpepmjpadaaGreatDoor

namespace Go.Proofs.YtbdpmpepmjpadaaGreatDoor
set_option linter.unusedVariables false
set_option linter.unusedSimpArgs false
set_option maxRecDepth 100000
open Go Go.RowKit Go.Shelf Go.Lib

/-- A number's text. -/
def NumT (S : List Nat) : Prop := (∀ x ∈ S, x < 256) ∧ S.length ≤ 1000000 ∧ numEnd S 0 = (S.length, true)

set_option maxHeartbeats 2000000 in
theorem isNumber_calls (w : World) (S : List Nat) (h : NumT S) :
    Calls Tryz.prog 75 #[.string (strOf S)] w fun e w' => e = .returned (.bool true) ∧ Below w.heap.size w w' := by
  obtain ⟨cp, w1, hcv, hby, hcp, hb1, _⟩ := conv_str w S h.1
  have HN := hide (numberEnd_calls w1 _ _ 0 S hby (Nat.zero_le _) (by have := h.2.1; omega))
  rw [h.2.2] at HN
  have hsz := strOf_size S
  have HB := hide hb1
  clear hby hcp hb1 h
  generalize strOf S = s at *
  have deq : ((S.length : Int) == (S.length : Int)) = true := by simp
  go_enter Tryz.func75, Tryz.ntmps75
  go_wp2_with fail
  refine HN.out.mono ?_
  rintro e w2 ⟨rfl, hw⟩
  rw [hw]
  clear hw
  go_wp2
  go_ret
  exact ⟨rfl, HB.out⟩

end Go.Proofs.YtbdpmpepmjpadaaGreatDoor

namespace Go.Proofs.YtbdpmpepmjpadaaGreatDoor
set_option linter.unusedVariables false
set_option linter.unusedSimpArgs false
set_option maxRecDepth 100000
open Go Go.RowKit Go.Shelf Go.Lib

/-- Texts, parted by commas. -/
def joinT : List (List Nat) → List Nat
  | [] => []
  | x :: l => x ++ l.flatMap (44 :: ·)
theorem joinT_snoc (l : List (List Nat)) (x : List Nat) : joinT (l ++ [x]) = if l = [] then x else joinT l ++ 44 :: x := by
  cases l with
  | nil => simp [joinT]
  | cons y r => simp [joinT]
theorem joinT_take {X : List (List Nat)} {i : Nat} (h : i < X.length) : joinT (X.take (i + 1)) = (if i = 0 then [] else joinT (X.take i) ++ [44]) ++ X[i] := by
  rw [List.take_add_one, List.getElem?_eq_getElem h]
  show joinT (X.take i ++ [X[i]]) = _
  rw [joinT_snoc]
  by_cases e : i = 0
  · subst e; simp
  · have : X.take i ≠ [] := by
      intro q
      have := congrArg List.length q
      rw [List.length_take, List.length_nil] at this
      omega
    simp [this, e]
theorem joinT_len (X : List (List Nat)) (i : Nat) : (joinT (X.take i)).length ≤ (joinT X).length := by
  cases X with
  | nil => simp
  | cons x l =>
    cases i with
    | zero => simp [joinT]
    | succ i =>
      rw [List.take_succ_cons]
      show (x ++ (l.take i).flatMap (44 :: ·)).length ≤ (x ++ l.flatMap (44 :: ·)).length
      have e : l.flatMap (fun x => 44 :: x) = (l.take i).flatMap (44 :: ·) ++ (l.drop i).flatMap (44 :: ·) := by
        rw [← List.flatMap_append, List.take_append_drop]
      rw [List.length_append, List.length_append, e, List.length_append]
      omega

end Go.Proofs.YtbdpmpepmjpadaaGreatDoor

namespace Go.Proofs.YtbdpmpepmjpadaaGreatDoor
set_option linter.unusedVariables false
set_option linter.unusedSimpArgs false
set_option maxRecDepth 100000
open Go Go.RowKit Go.Shelf Go.Lib

theorem BoxC.ne {w : World} {A B : Nat} {t t' : TypeId} {cs cs' : Array Value} (h : BoxC w A t cs) (k : BoxC w B t' cs') (ht : t ≠ t') : A ≠ B := fun e => by
  subst e
  unfold BoxC at h k
  rw [h] at k
  cases k
  exact ht rfl
def numsV (X : List (List Nat)) : List JC := X.map (fun S => nC (strOf S))
theorem numsV_len (X : List (List Nat)) : (numsV X).length = X.length := by simp [numsV]
theorem OwnV.frw2 {n₀ n₁ B : Nat} {w w' : World} {v : Value} {M : List JC} (h : OwnV n₁ w v M) (k : FrW n₀ B w w') (hB : v.ownBlock ≠ some B) : OwnV n₁ w' v M := by
  refine h.keep fun j e => k.block j (h.lt j e).2 (fun q => hB (by rw [e, q])) (.inr ?_)
  rintro ⟨cs', z, e'⟩
  obtain ⟨c, fz, hk⟩ := Lib.ownsRow_kind h j e
  rw [hk] at e'
  cases e'

end Go.Proofs.YtbdpmpepmjpadaaGreatDoor

namespace Go.Proofs.YtbdpmpepmjpadaaGreatDoor
set_option linter.unusedVariables false
set_option linter.unusedSimpArgs false
set_option maxRecDepth 100000
open Go Go.RowKit Go.Shelf Go.Lib

theorem results_p2 {fn : Func} {i j : Tmp} (h : fn.results = #[.cell i 22, .cell j 66]) {tmps : Array Value} {W : World} {A C : Nat} {x y : Value} {t t' : TypeId} (hi : tmps.getD i undef = .pointer (some ⟨A, 0, none⟩)) (hj : tmps.getD j undef = .pointer (some ⟨C, 0, none⟩)) (T : BoxC W A t #[x]) (T' : BoxC W C t' #[y]) :
    (results fn tmps).run Tryz.prog W = .ok (.tuple #[x, y]) W := by
  have c0 : W.cell? ⟨A, 0, none⟩ = some x := T.cell 0
  have c1 : W.cell? ⟨C, 0, none⟩ = some y := T'.cell 0
  have hi' : tmps[i]?.getD undef = .pointer (some ⟨A, 0, none⟩) := by simpa using hi
  have hj' : tmps[j]?.getD undef = .pointer (some ⟨C, 0, none⟩) := by simpa using hj
  simp [results, h, hi', hj', go_sem, c0, c1]

end Go.Proofs.YtbdpmpepmjpadaaGreatDoor

namespace Go.Proofs.YtbdpmpepmjpadaaGreatDoor
set_option linter.unusedVariables false
set_option linter.unusedSimpArgs false
set_option maxRecDepth 100000
open Go Go.RowKit Go.Shelf Go.Lib

def ex1 : List Nat := [91, 49, 44, 32, 45, 48, 46, 53, 101, 51, 93]
def ex2 : List Nat := [91, 48, 49, 93]
def ex1X : List (List Nat) := [[49], [45, 48, 46, 53, 101, 51]]
theorem ex1_small : ∀ x ∈ ex1, x < 256 := by decide
theorem ex2_small : ∀ x ∈ ex2, x < 256 := by decide
theorem ex1_pos : ∀ k, k < 11 → posL ex1 k < ex1.length := by decide
theorem ex2_pos : ∀ k, k < 4 → posL ex2 k < ex2.length := by decide
theorem ex1_end : posL ex1 11 = ex1.length := by decide
theorem ex2_end : posL ex2 4 = ex2.length := by decide
theorem ex1_rune : ∀ k, k < 11 → runeAt ex1 (posL ex1 k) ≠ -1 := by decide
theorem ex2_rune : ∀ k, k < 4 → runeAt ex2 (posL ex2 k) ≠ -1 := by decide
theorem ex1_arr : arrF (valG ex1) ex1 5 (blEnd ex1 0 + 1) [] = some (.ok (numsV ex1X) 11) := by kernel_rfl
theorem ex2_arr : arrF (valG ex2) ex2 5 (blEnd ex2 0 + 1) [] = some (.bad 2 6) := by kernel_rfl
theorem ex1_num : ∀ S ∈ ex1X, NumT S := by
  intro S hS
  simp only [ex1X, List.mem_cons, List.not_mem_nil, or_false] at hS
  rcases hS with rfl | rfl
  · exact ⟨by decide, by decide, by decide⟩
  · exact ⟨by decide, by decide, by decide⟩


theorem OwnB.byts {n₀ : Nat} {W : World} {v : Value} {T : List Nat} (hT : ∀ x ∈ T, x < 256) (h : OwnB n₀ W v T) : Byts W v T := by
  obtain ⟨ao, cap, rfl, hb, _⟩ := own_byts hT h
  exact hb

end Go.Proofs.YtbdpmpepmjpadaaGreatDoor

namespace Go.Proofs.YtbdpmpepmjpadaaGreatDoor
set_option linter.unusedVariables false
set_option linter.unusedSimpArgs false
set_option maxRecDepth 100000
open Go Go.RowKit Go.Shelf Go.Lib

/-- The digits of a small number. -/
def smallS : Nat → ByteArray
  | 0 => ⟨#[48]⟩
  | 1 => ⟨#[49]⟩
  | 2 => ⟨#[50]⟩
  | 3 => ⟨#[51]⟩
  | 4 => ⟨#[52]⟩
  | 5 => ⟨#[53]⟩
  | 6 => ⟨#[54]⟩
  | 7 => ⟨#[55]⟩
  | 8 => ⟨#[56]⟩
  | 9 => ⟨#[57]⟩
  | 10 => ⟨#[49, 48]⟩
  | 11 => ⟨#[49, 49]⟩
  | 12 => ⟨#[49, 50]⟩
  | 13 => ⟨#[49, 51]⟩
  | 14 => ⟨#[49, 52]⟩
  | 15 => ⟨#[49, 53]⟩
  | 16 => ⟨#[49, 54]⟩
  | 17 => ⟨#[49, 55]⟩
  | 18 => ⟨#[49, 56]⟩
  | 19 => ⟨#[49, 57]⟩
  | _ => ⟨#[]⟩
set_option maxHeartbeats 8000000 in
theorem itoa_calls (w : World) : ∀ i : Nat, i < 20 → Calls Tryz.prog 62 #[.int .i64 (i : Int)] w fun e w' => e = .returned (.string (smallS i)) ∧ w' = w
  | 0, _ => by
    go_enter Tryz.func62, Tryz.ntmps62
    go_wp2
    go_ret
    exact ⟨rfl, rfl⟩
  | 1, _ => by
    go_enter Tryz.func62, Tryz.ntmps62
    go_wp2
    go_ret
    exact ⟨rfl, rfl⟩
  | 2, _ => by
    go_enter Tryz.func62, Tryz.ntmps62
    go_wp2
    go_ret
    exact ⟨rfl, rfl⟩
  | 3, _ => by
    go_enter Tryz.func62, Tryz.ntmps62
    go_wp2
    go_ret
    exact ⟨rfl, rfl⟩
  | 4, _ => by
    go_enter Tryz.func62, Tryz.ntmps62
    go_wp2
    go_ret
    exact ⟨rfl, rfl⟩
  | 5, _ => by
    go_enter Tryz.func62, Tryz.ntmps62
    go_wp2
    go_ret
    exact ⟨rfl, rfl⟩
  | 6, _ => by
    go_enter Tryz.func62, Tryz.ntmps62
    go_wp2
    go_ret
    exact ⟨rfl, rfl⟩
  | 7, _ => by
    go_enter Tryz.func62, Tryz.ntmps62
    go_wp2
    go_ret
    exact ⟨rfl, rfl⟩
  | 8, _ => by
    go_enter Tryz.func62, Tryz.ntmps62
    go_wp2
    go_ret
    exact ⟨rfl, rfl⟩
  | 9, _ => by
    go_enter Tryz.func62, Tryz.ntmps62
    go_wp2
    go_ret
    exact ⟨rfl, rfl⟩
  | 10, _ => by
    go_enter Tryz.func62, Tryz.ntmps62
    go_wp2
    go_ret
    exact ⟨rfl, rfl⟩
  | 11, _ => by
    go_enter Tryz.func62, Tryz.ntmps62
    go_wp2
    go_ret
    exact ⟨rfl, rfl⟩
  | 12, _ => by
    go_enter Tryz.func62, Tryz.ntmps62
    go_wp2
    go_ret
    exact ⟨rfl, rfl⟩
  | 13, _ => by
    go_enter Tryz.func62, Tryz.ntmps62
    go_wp2
    go_ret
    exact ⟨rfl, rfl⟩
  | 14, _ => by
    go_enter Tryz.func62, Tryz.ntmps62
    go_wp2
    go_ret
    exact ⟨rfl, rfl⟩
  | 15, _ => by
    go_enter Tryz.func62, Tryz.ntmps62
    go_wp2
    go_ret
    exact ⟨rfl, rfl⟩
  | 16, _ => by
    go_enter Tryz.func62, Tryz.ntmps62
    go_wp2
    go_ret
    exact ⟨rfl, rfl⟩
  | 17, _ => by
    go_enter Tryz.func62, Tryz.ntmps62
    go_wp2
    go_ret
    exact ⟨rfl, rfl⟩
  | 18, _ => by
    go_enter Tryz.func62, Tryz.ntmps62
    go_wp2
    go_ret
    exact ⟨rfl, rfl⟩
  | 19, _ => by
    go_enter Tryz.func62, Tryz.ntmps62
    go_wp2
    go_ret
    exact ⟨rfl, rfl⟩
  | n + 20, h => absurd h (by omega)

set_option maxHeartbeats 2000000 in
theorem of_calls (w : World) (i : Nat) (hi : i < 20) :
    Calls Tryz.prog 37 #[.int .i64 (i : Int)] w fun e w' => e = .returned (vagg (nC (smallS i))) ∧ Below w.heap.size w w' := by
  have HI := hide (fun W => itoa_calls W i hi)
  have hb := bel w (.cells jv0 27)
  have hx := BoxC.new w 27 jv0
  unfold jv0 at hb hx
  generalize hw0 : w.alloc (.cells #[.int .i64 0, .string ⟨#[]⟩, .slice none 0 0, .slice none 0 0] 27) = w0 at *
  have x0 : w0.cell? ⟨w.heap.size, 0, none⟩ = some (.int .i64 0) := hx.cell 0
  have x1 : w0.cell? ⟨w.heap.size, 1, none⟩ = some (.string ⟨#[]⟩) := hx.cell 1
  have x2 : w0.cell? ⟨w.heap.size, 2, none⟩ = some (.slice none 0 0) := hx.cell 2
  have x3 : w0.cell? ⟨w.heap.size, 3, none⟩ = some (.slice none 0 0) := hx.cell 3
  have y0 := hx.frozen 0
  have y1 := hx.frozen 1
  have y2 := hx.frozen 2
  have y3 := hx.frozen 3
  have lX := hx.lt
  have HX := hide hx
  have HB := hide hb
  have HW := hide hw0
  generalize hs : smallS i = s at *
  clear hx hb hw0 hs hi
  go_enter Tryz.func37, Tryz.ntmps37
  go_wp2_with fail
  rw [HW.out]
  clear HW
  refine (HI.out _).mono ?_
  rintro e w1 ⟨rfl, hw⟩
  rw [hw]
  clear hw
  go_wp2
  refine bodyPost_ret (results_jv rfl rfl (resJ_v HX.out (.int .i64 3) (.string s) (.slice none 0 0) (.slice none 0 0))) rfl ?_
  exact ⟨rfl, (((HB.out.setCell (p := ⟨w.heap.size, 0, none⟩) (Nat.le_refl _) _).setCell (p := ⟨w.heap.size, 1, none⟩) (Nat.le_refl _) _).setCell (p := ⟨w.heap.size, 2, none⟩) (Nat.le_refl _) _).setCell (p := ⟨w.heap.size, 3, none⟩) (Nat.le_refl _) _⟩

set_option maxHeartbeats 2000000 in
theorem text_calls (w : World) (s : ByteArray) :
    Calls Tryz.prog 38 #[.string s] w fun e w' => e = .returned (vagg (4, s, .slice none 0 0, .slice none 0 0)) ∧ Below w.heap.size w w' := by
  go_enter Tryz.func38, Tryz.ntmps38
  go_wp2
  refine bodyPost_ret (results_jv rfl rfl (BoxC.new w 27 #[.int .i64 4, .string s, .slice none 0 0, .slice none 0 0])) rfl ?_
  exact ⟨rfl, bel w _⟩

set_option maxHeartbeats 2000000 in
theorem plain_calls (w : World) (s : ByteArray) :
    Calls Tryz.prog 72 #[vagg (nC s)] w fun e w' => e = .returned (vagg (nC s)) ∧ Below w.heap.size w w' := by
  unfold nC vagg
  simp only
  go_enter Tryz.func72, Tryz.ntmps72
  go_wp2
  have hx := BoxC.new (w.alloc (.cells #[.int .i64 3, .string s, .slice none 0 0, .slice none 0 0] 27)) 27 #[.int .i64 3, .string s, .slice none 0 0, .slice none 0 0]
  rw [World.size_alloc] at hx
  refine bodyPost_ret (results_jv rfl rfl hx) rfl ?_
  exact ⟨rfl, (bel w _).alloc (by simp) _⟩

theorem below4 {W w : World} {A n : Nat} (h : Below n w W) (h1 : n ≤ A) (x' y' z' u' : Value) :
    Below n w ((((W.setCell ⟨A, 0, none⟩ x').setCell ⟨A, 1, none⟩ y').setCell ⟨A, 2, none⟩ z').setCell ⟨A, 3, none⟩ u') :=
  (((h.setCell (p := ⟨A, 0, none⟩) h1 x').setCell (p := ⟨A, 1, none⟩) h1 y').setCell (p := ⟨A, 2, none⟩) h1 z').setCell (p := ⟨A, 3, none⟩) h1 u'
set_option maxHeartbeats 2000000 in
theorem seq_nil (w : World) : Calls Tryz.prog 78 #[.slice none 0 0, .slice none 0 0] w fun e w' => e = .returned (.bool true) ∧ w' = w := by
  go_enter Tryz.func78, Tryz.ntmps78
  go_wp2
  go_loopw [13] (fun iv wr => iv = .int .i64 0 ∧ wr = w) (fun _ _ => 0)
  case atStart => exact ⟨rfl, rfl⟩
  case round =>
    obtain ⟨rfl, rfl⟩ := hrel
    go_wp2
    go_ret
    exact ⟨rfl, rfl⟩
set_option maxHeartbeats 2000000 in
theorem efn_nil (w : World) : Calls Tryz.prog 79 #[.slice none 0 0, .slice none 0 0, .func (.func 53) #[] #[]] w fun e w' => e = .returned (.bool true) ∧ w' = w := by
  go_enter Tryz.func79, Tryz.ntmps79
  go_wp2
  go_loopw [17] (fun iv wr => iv = .int .i64 0 ∧ wr = w) (fun _ _ => 0)
  case atStart => exact ⟨rfl, rfl⟩
  case round =>
    obtain ⟨rfl, rfl⟩ := hrel
    go_wp2
    go_ret
    exact ⟨rfl, rfl⟩

set_option maxHeartbeats 8000000 in
theorem equal_num (w : World) (s : ByteArray) :
    Calls Tryz.prog 53 #[vagg (nC s), vagg (nC s)] w fun e w' => e = .returned (.bool true) ∧ Below w.heap.size w w' := by
  have HC := hide (fun W => plain_calls W s)
  unfold nC vagg at *
  simp only at *
  have hb : Below w.heap.size w ((w.alloc (.cells #[.int .i64 3, .string s, .slice none 0 0, .slice none 0 0] 27)).alloc (.cells #[.int .i64 3, .string s, .slice none 0 0, .slice none 0 0] 27)) := (bel w _).alloc (by simp) _
  have hp := (BoxC.new w 27 #[.int .i64 3, .string s, .slice none 0 0, .slice none 0 0]).alloc (.cells #[.int .i64 3, .string s, .slice none 0 0, .slice none 0 0] 27)
  have hq := BoxC.new (w.alloc (.cells #[.int .i64 3, .string s, .slice none 0 0, .slice none 0 0] 27)) 27 #[.int .i64 3, .string s, .slice none 0 0, .slice none 0 0]
  rw [World.size_alloc] at hq
  generalize hw0 : (w.alloc (.cells #[.int .i64 3, .string s, .slice none 0 0, .slice none 0 0] 27)).alloc (.cells #[.int .i64 3, .string s, .slice none 0 0, .slice none 0 0] 27) = w0 at *
  have HW0 := hide hw0
  have HP := hide hp
  have HQ := hide hq
  have HB := hide hb
  have HPD : Hid (BoxC w0.drew w.heap.size 27 #[.int .i64 3, .string s, .slice none 0 0, .slice none 0 0]) := hp
  have HQD : Hid (BoxC w0.drew (w.heap.size + 1) 27 #[.int .i64 3, .string s, .slice none 0 0, .slice none 0 0]) := hq
  have HBD : Hid (Below w.heap.size w w0.drew) := hb.drew
  have HS : Hid (∀ X0 : World, BoxC X0 w.heap.size 27 #[.int .i64 3, .string s, .slice none 0 0, .slice none 0 0] → BoxC X0 (w.heap.size + 1) 27 #[.int .i64 3, .string s, .slice none 0 0, .slice none 0 0] → (X0.cell? ⟨w.heap.size, 0, none⟩ = some (.int .i64 3) ∧ X0.cell? ⟨w.heap.size, 1, none⟩ = some (.string s) ∧ X0.cell? ⟨w.heap.size, 2, none⟩ = some (.slice none 0 0) ∧ X0.cell? ⟨w.heap.size, 3, none⟩ = some (.slice none 0 0) ∧ X0.cell? ⟨w.heap.size + 1, 0, none⟩ = some (.int .i64 3) ∧ X0.cell? ⟨w.heap.size + 1, 1, none⟩ = some (.string s) ∧ X0.cell? ⟨w.heap.size + 1, 2, none⟩ = some (.slice none 0 0) ∧ X0.cell? ⟨w.heap.size + 1, 3, none⟩ = some (.slice none 0 0))) := fun X0 h k => ⟨h.cell 0, h.cell 1, h.cell 2, h.cell 3, k.cell 0, k.cell 1, k.cell 2, k.cell 3⟩
  clear hw0 hp hq hb
  go_enter Tryz.func53, Tryz.ntmps53
  go_upto_region 1 with fail
  rw [HW0.out]
  clear HW0
  refine wp_region_held_drew (S := fun X0 : World => X0.cell? ⟨w.heap.size, 0, none⟩ = some (.int .i64 3) ∧ X0.cell? ⟨w.heap.size, 1, none⟩ = some (.string s) ∧ X0.cell? ⟨w.heap.size, 2, none⟩ = some (.slice none 0 0) ∧ X0.cell? ⟨w.heap.size, 3, none⟩ = some (.slice none 0 0) ∧ X0.cell? ⟨w.heap.size + 1, 0, none⟩ = some (.int .i64 3) ∧ X0.cell? ⟨w.heap.size + 1, 1, none⟩ = some (.string s) ∧ X0.cell? ⟨w.heap.size + 1, 2, none⟩ = some (.slice none 0 0) ∧ X0.cell? ⟨w.heap.size + 1, 3, none⟩ = some (.slice none 0 0)) (by kernel_rfl) (HS.out _ HP.out HQ.out) (fun hHeld => ?_)
  refine takeD (i := 0) (v := ?v1) (some 5) rfl (by kernel_rfl) (by kernel_rfl) (by kernel_rfl) (fun _ _ _ h => h) (Or.inl ⟨by rfl, ?hy1⟩) (HS.out _ HPD.out HQD.out) (by rfl) ?rest1
  case hy1 => first | (intro w hSw; (try dsimp only at hSw); obtain ⟨s0, s1, s2, s3, s4, s5, s6, s7⟩ := hSw; go_simp; done) | (intro w hSw; (try dsimp only at hSw); obtain ⟨s0, s1, s2, s3, s4, s5, s6, s7⟩ := hSw; go_simp; with_reducible rfl)
  try simp only [Act.put, List.setIfInBounds_toArray, List.set_cons_zero, List.set_cons_succ]
  refine takeD (i := 2) (v := ?v2) (some 7) rfl (by kernel_rfl) (by kernel_rfl) (by kernel_rfl) (fun _ _ _ h => h) (Or.inl ⟨by rfl, ?hy2⟩) (HS.out _ HPD.out HQD.out) (by rfl) ?rest2
  case hy2 => first | (intro w hSw; (try dsimp only at hSw); obtain ⟨s0, s1, s2, s3, s4, s5, s6, s7⟩ := hSw; go_simp; done) | (intro w hSw; (try dsimp only at hSw); obtain ⟨s0, s1, s2, s3, s4, s5, s6, s7⟩ := hSw; go_simp; with_reducible rfl)
  try simp only [Act.put, List.setIfInBounds_toArray, List.set_cons_zero, List.set_cons_succ]
  refine wpAnyH_ready (rs := [1]) (by kernel_rfl) (by simp) ?_
  refine AllReadyH.cons rfl (fun K hK => ?_) AllReadyH.nil
  go_simp
  refine (HC.out _).mono ?_
  rintro e w1 ⟨rfl, hB1⟩
  have HP1 := hide (HPD.out.below hB1)
  have HQ1 := hide (HQD.out.below hB1)
  have HB1 := hide (HBD.out.trans (hB1.mono HBD.out.size))
  have hs1 := HS.out _ HP1.out HQ1.out
  refine hK.out _ _ hs1 (fun hHeld => ?_)
  clear hK K hB1 hs1
  try simp only [Act.put, List.setIfInBounds_toArray, List.set_cons_zero, List.set_cons_succ]
  refine wpAnyH_ready (rs := [3]) (by kernel_rfl) (by simp) ?_
  refine AllReadyH.cons rfl (fun K hK => ?_) AllReadyH.nil
  go_simp
  refine (HC.out _).mono ?_
  rintro e w2 ⟨rfl, hB2⟩
  have HP2 := hide (HP1.out.below hB2)
  have HQ2 := hide (HQ1.out.below hB2)
  have HB2 := hide (HB1.out.trans (hB2.mono HB1.out.size))
  have hs2 := HS.out _ HP2.out HQ2.out
  refine hK.out _ _ hs2 (fun hHeld => ?_)
  clear hK K hB2 hs2
  try simp only [Act.put, List.setIfInBounds_toArray, List.set_cons_zero, List.set_cons_succ]
  have pf0 := HP2.out.frozen 0
  have pf1 := HP2.out.frozen 1
  have pf2 := HP2.out.frozen 2
  have pf3 := HP2.out.frozen 3
  have pc0 : w2.cell? ⟨w.heap.size, 0, none⟩ = some (.int .i64 3) := HP2.out.cell 0
  have pc1 : w2.cell? ⟨w.heap.size, 1, none⟩ = some (.string s) := HP2.out.cell 1
  have pc2 : w2.cell? ⟨w.heap.size, 2, none⟩ = some (.slice none 0 0) := HP2.out.cell 2
  have pc3 : w2.cell? ⟨w.heap.size, 3, none⟩ = some (.slice none 0 0) := HP2.out.cell 3
  have pl := HP2.out.lt
  have qf0 := HQ2.out.frozen 0
  have qf1 := HQ2.out.frozen 1
  have qf2 := HQ2.out.frozen 2
  have qf3 := HQ2.out.frozen 3
  have qc0 : w2.cell? ⟨w.heap.size + 1, 0, none⟩ = some (.int .i64 3) := HQ2.out.cell 0
  have qc1 : w2.cell? ⟨w.heap.size + 1, 1, none⟩ = some (.string s) := HQ2.out.cell 1
  have qc2 : w2.cell? ⟨w.heap.size + 1, 2, none⟩ = some (.slice none 0 0) := HQ2.out.cell 2
  have qc3 : w2.cell? ⟨w.heap.size + 1, 3, none⟩ = some (.slice none 0 0) := HQ2.out.cell 3
  have ql := HQ2.out.lt
  refine wpAnyH_ready (rs := [4]) (by kernel_rfl) (by simp) ?_
  refine AllReadyH.cons rfl (fun K hK => ?_) AllReadyH.nil
  go_simp
  have HP3 := hide (resJ_v HP2.out (.int .i64 3) (.string s) (.slice none 0 0) (.slice none 0 0))
  have HQ3 := hide (box_off4 HQ2.out (show w.heap.size + 1 ≠ w.heap.size by omega) (.int .i64 3) (.string s) (.slice none 0 0) (.slice none 0 0))
  have HB3 := hide (below4 HB2.out (Nat.le_refl _) (.int .i64 3) (.string s) (.slice none 0 0) (.slice none 0 0))
  refine hK.out _ _ (HS.out _ HP3.out HQ3.out) (fun hHeld => ?_)
  clear hK K
  try simp only [Act.put, List.setIfInBounds_toArray, List.set_cons_zero, List.set_cons_succ]
  generalize ((((w2.setCell ⟨w.heap.size, 0, none⟩ (.int .i64 3)).setCell ⟨w.heap.size, 1, none⟩ (.string s)).setCell ⟨w.heap.size, 2, none⟩ (.slice none 0 0)).setCell ⟨w.heap.size, 3, none⟩ (.slice none 0 0)) = w3 at *
  clear pf0 pf1 pf2 pf3 pc0 pc1 pc2 pc3 qf0 qf1 qf2 qf3 qc0 qc1 qc2 qc3 pl ql
  have pf0 := HP3.out.frozen 0
  have pf1 := HP3.out.frozen 1
  have pf2 := HP3.out.frozen 2
  have pf3 := HP3.out.frozen 3
  have pc0 : w3.cell? ⟨w.heap.size, 0, none⟩ = some (.int .i64 3) := HP3.out.cell 0
  have pc1 : w3.cell? ⟨w.heap.size, 1, none⟩ = some (.string s) := HP3.out.cell 1
  have pc2 : w3.cell? ⟨w.heap.size, 2, none⟩ = some (.slice none 0 0) := HP3.out.cell 2
  have pc3 : w3.cell? ⟨w.heap.size, 3, none⟩ = some (.slice none 0 0) := HP3.out.cell 3
  have pl := HP3.out.lt
  have qf0 := HQ3.out.frozen 0
  have qf1 := HQ3.out.frozen 1
  have qf2 := HQ3.out.frozen 2
  have qf3 := HQ3.out.frozen 3
  have qc0 : w3.cell? ⟨w.heap.size + 1, 0, none⟩ = some (.int .i64 3) := HQ3.out.cell 0
  have qc1 : w3.cell? ⟨w.heap.size + 1, 1, none⟩ = some (.string s) := HQ3.out.cell 1
  have qc2 : w3.cell? ⟨w.heap.size + 1, 2, none⟩ = some (.slice none 0 0) := HQ3.out.cell 2
  have qc3 : w3.cell? ⟨w.heap.size + 1, 3, none⟩ = some (.slice none 0 0) := HQ3.out.cell 3
  have ql := HQ3.out.lt
  refine wpAnyH_ready (rs := [5]) (by kernel_rfl) (by simp) ?_
  refine AllReadyH.cons rfl (fun K hK => ?_) AllReadyH.nil
  go_simp
  have HQ4 := hide (resJ_v HQ3.out (.int .i64 3) (.string s) (.slice none 0 0) (.slice none 0 0))
  have HP4 := hide (box_off4 HP3.out (show w.heap.size ≠ w.heap.size + 1 by omega) (.int .i64 3) (.string s) (.slice none 0 0) (.slice none 0 0))
  have HB4 := hide (below4 HB3.out (Nat.le_succ _) (.int .i64 3) (.string s) (.slice none 0 0) (.slice none 0 0))
  refine hK.out _ _ (HS.out _ HP4.out HQ4.out) (fun hHeld => ?_)
  clear hK K
  try simp only [Act.put, List.setIfInBounds_toArray, List.set_cons_zero, List.set_cons_succ]
  generalize ((((w3.setCell ⟨w.heap.size + 1, 0, none⟩ (.int .i64 3)).setCell ⟨w.heap.size + 1, 1, none⟩ (.string s)).setCell ⟨w.heap.size + 1, 2, none⟩ (.slice none 0 0)).setCell ⟨w.heap.size + 1, 3, none⟩ (.slice none 0 0)) = w4 at *
  clear pf0 pf1 pf2 pf3 pc0 pc1 pc2 pc3 qf0 qf1 qf2 qf3 qc0 qc1 qc2 qc3 pl ql hHeld
  refine wpAnyH_done (by kernel_rfl) ?_ _
  have pf0 := HP4.out.frozen 0
  have pf1 := HP4.out.frozen 1
  have pf2 := HP4.out.frozen 2
  have pf3 := HP4.out.frozen 3
  have pc0 : w4.cell? ⟨w.heap.size, 0, none⟩ = some (.int .i64 3) := HP4.out.cell 0
  have pc1 : w4.cell? ⟨w.heap.size, 1, none⟩ = some (.string s) := HP4.out.cell 1
  have pc2 : w4.cell? ⟨w.heap.size, 2, none⟩ = some (.slice none 0 0) := HP4.out.cell 2
  have pc3 : w4.cell? ⟨w.heap.size, 3, none⟩ = some (.slice none 0 0) := HP4.out.cell 3
  have pl := HP4.out.lt
  have qf0 := HQ4.out.frozen 0
  have qf1 := HQ4.out.frozen 1
  have qf2 := HQ4.out.frozen 2
  have qf3 := HQ4.out.frozen 3
  have qc0 : w4.cell? ⟨w.heap.size + 1, 0, none⟩ = some (.int .i64 3) := HQ4.out.cell 0
  have qc1 : w4.cell? ⟨w.heap.size + 1, 1, none⟩ = some (.string s) := HQ4.out.cell 1
  have qc2 : w4.cell? ⟨w.heap.size + 1, 2, none⟩ = some (.slice none 0 0) := HQ4.out.cell 2
  have qc3 : w4.cell? ⟨w.heap.size + 1, 3, none⟩ = some (.slice none 0 0) := HQ4.out.cell 3
  have ql := HQ4.out.lt
  have hse : (s.toList == s.toList) = true := by simp
  go_wp2_with fail
  refine (seq_nil w4).mono ?_
  rintro e w5 ⟨rfl, hw⟩
  rw [hw]
  clear hw
  go_wp2_with fail
  refine (efn_nil w4).mono ?_
  rintro e w5 ⟨rfl, hw⟩
  rw [hw]
  clear hw
  go_wp2
  go_ret
  exact ⟨rfl, HB4.out⟩

end Go.Proofs.YtbdpmpepmjpadaaGreatDoor

namespace Go.Proofs.YtbdpmpepmjpadaaGreatDoor
set_option linter.unusedVariables false
set_option linter.unusedSimpArgs false
set_option maxRecDepth 100000
open Go Go.RowKit Go.Shelf Go.Lib

set_option maxHeartbeats 1000000 in
theorem cloneS_nil (w : World) : Calls Tryz.prog 73 #[.slice none 0 0] w fun e w' => e = .returned (.slice none 0 0) ∧ w' = w := by
  have heq : (binOp .eql 24 (.slice none 0 0) (.slice none 0 0)).run Tryz.prog w = .ok (.bool true) w := by kernel_rfl
  go_enter Tryz.func73, Tryz.ntmps73
  go_wp2
  go_ret
  exact ⟨rfl, rfl⟩
set_option maxHeartbeats 1000000 in
theorem cloneV_nil (w : World) : Calls Tryz.prog 74 #[.slice none 0 0] w fun e w' => e = .returned (.slice none 0 0) ∧ w' = w := by
  have heq : (binOp .eql 25 (.slice none 0 0) (.slice none 0 0)).run Tryz.prog w = .ok (.bool true) w := by kernel_rfl
  go_enter Tryz.func74, Tryz.ntmps74
  go_wp2
  go_ret
  exact ⟨rfl, rfl⟩

set_option maxHeartbeats 4000000 in
theorem clone_num (w : World) (s : ByteArray) :
    Calls Tryz.prog 51 #[vagg (nC s)] w fun e w' => e = .returned (vagg (nC s)) ∧ Below w.heap.size w w' := by
  have HC := hide (fun W => plain_calls W s)
  unfold nC vagg at *
  simp only at *
  have hb : Below w.heap.size w ((w.alloc (.cells #[.int .i64 3, .string s, .slice none 0 0, .slice none 0 0] 27)).alloc (.cells #[.int .i64 0, .string ⟨#[]⟩, .slice none 0 0, .slice none 0 0] 27)) := (bel w _).alloc (by simp) _
  have hp := (BoxC.new w 27 #[.int .i64 3, .string s, .slice none 0 0, .slice none 0 0]).alloc (.cells #[.int .i64 0, .string ⟨#[]⟩, .slice none 0 0, .slice none 0 0] 27)
  have hq := BoxC.new (w.alloc (.cells #[.int .i64 3, .string s, .slice none 0 0, .slice none 0 0] 27)) 27 #[.int .i64 0, .string ⟨#[]⟩, .slice none 0 0, .slice none 0 0]
  rw [World.size_alloc] at hq
  generalize hw0 : (w.alloc (.cells #[.int .i64 3, .string s, .slice none 0 0, .slice none 0 0] 27)).alloc (.cells #[.int .i64 0, .string ⟨#[]⟩, .slice none 0 0, .slice none 0 0] 27) = w0 at *
  have p0 : w0.cell? ⟨w.heap.size, 0, none⟩ = some (.int .i64 3) := hp.cell 0
  have p1 : w0.cell? ⟨w.heap.size, 1, none⟩ = some (.string s) := hp.cell 1
  have p2 : w0.cell? ⟨w.heap.size, 2, none⟩ = some (.slice none 0 0) := hp.cell 2
  have p3 : w0.cell? ⟨w.heap.size, 3, none⟩ = some (.slice none 0 0) := hp.cell 3
  have lp := hp.lt
  have HW0 := hide hw0
  have HP := hide hp
  have HQ := hide hq
  have HB := hide hb
  clear hw0 hp hq hb
  go_enter Tryz.func51, Tryz.ntmps51
  go_upto_region 1 with fail
  rw [HW0.out]
  clear HW0
  go_wp2_with fail
  refine (HC.out _).mono ?_
  rintro e w1 ⟨rfl, hB1⟩
  have HP1 := hide (resJ_v (HP.out.below hB1) (.int .i64 3) (.string s) (.slice none 0 0) (.slice none 0 0))
  have HQ1 := hide (box_off4 (HQ.out.below hB1) (show w.heap.size + 1 ≠ w.heap.size by omega) (.int .i64 3) (.string s) (.slice none 0 0) (.slice none 0 0))
  have HB1 := hide (below4 (HB.out.trans (hB1.mono HB.out.size)) (Nat.le_refl _) (.int .i64 3) (.string s) (.slice none 0 0) (.slice none 0 0))
  have hp1 := HP.out.below hB1
  have f0 := hp1.frozen 0
  have f1 := hp1.frozen 1
  have f2 := hp1.frozen 2
  have f3 := hp1.frozen 3
  have c0 : w1.cell? ⟨w.heap.size, 0, none⟩ = some (.int .i64 3) := hp1.cell 0
  have c1 : w1.cell? ⟨w.heap.size, 1, none⟩ = some (.string s) := hp1.cell 1
  have c2 : w1.cell? ⟨w.heap.size, 2, none⟩ = some (.slice none 0 0) := hp1.cell 2
  have c3 : w1.cell? ⟨w.heap.size, 3, none⟩ = some (.slice none 0 0) := hp1.cell 3
  have lp1 := hp1.lt
  clear hB1 hp1 p0 p1 p2 p3 lp
  go_upto_region 2 with fail
  generalize (((w1.setCell ⟨w.heap.size, 0, none⟩ (.int .i64 3)).setCell ⟨w.heap.size, 1, none⟩ (.string s)).setCell ⟨w.heap.size, 2, none⟩ (.slice none 0 0)).setCell ⟨w.heap.size, 3, none⟩ (.slice none 0 0) = w2 at *
  clear c0 c1 c2 c3 f0 f1 f2 f3 lp1
  have q2 : w2.cell? ⟨w.heap.size, 2, none⟩ = some (.slice none 0 0) := HP1.out.cell 2
  have g2 := HP1.out.frozen 2
  have l2 := HP1.out.lt
  go_wp2_with fail
  refine (cloneS_nil w2).mono ?_
  rintro e w3 ⟨rfl, hw⟩
  rw [hw]
  clear hw
  have HP2 : Hid (BoxC (w2.setCell ⟨w.heap.size, 2, none⟩ (.slice none 0 0)) w.heap.size 27 #[.int .i64 3, .string s, .slice none 0 0, .slice none 0 0]) := HP1.out.set 2 _
  have HQ2 := hide (HQ1.out.other (show w.heap.size + 1 ≠ w.heap.size by omega) 2 (.slice none 0 0))
  have HB2 := hide (HB1.out.setCell (p := ⟨w.heap.size, 2, none⟩) (Nat.le_refl _) (.slice none 0 0))
  go_upto_region 3 with fail
  generalize w2.setCell ⟨w.heap.size, 2, none⟩ (.slice none 0 0) = w4 at *
  clear q2 g2 l2
  have q3 : w4.cell? ⟨w.heap.size, 3, none⟩ = some (.slice none 0 0) := HP2.out.cell 3
  have g3 := HP2.out.frozen 3
  have l3 := HP2.out.lt
  go_wp2_with fail
  refine (cloneV_nil w4).mono ?_
  rintro e w5 ⟨rfl, hw⟩
  rw [hw]
  clear hw
  have HP3 : Hid (BoxC (w4.setCell ⟨w.heap.size, 3, none⟩ (.slice none 0 0)) w.heap.size 27 #[.int .i64 3, .string s, .slice none 0 0, .slice none 0 0]) := HP2.out.set 3 _
  have HQ3 := hide (HQ2.out.other (show w.heap.size + 1 ≠ w.heap.size by omega) 3 (.slice none 0 0))
  have HB3 := hide (HB2.out.setCell (p := ⟨w.heap.size, 3, none⟩) (Nat.le_refl _) (.slice none 0 0))
  go_upto_region 4 with fail
  generalize w4.setCell ⟨w.heap.size, 3, none⟩ (.slice none 0 0) = w6 at *
  clear q3 g3 l3
  have r0 : w6.cell? ⟨w.heap.size, 0, none⟩ = some (.int .i64 3) := HP3.out.cell 0
  have r1 : w6.cell? ⟨w.heap.size, 1, none⟩ = some (.string s) := HP3.out.cell 1
  have r2 : w6.cell? ⟨w.heap.size, 2, none⟩ = some (.slice none 0 0) := HP3.out.cell 2
  have r3 : w6.cell? ⟨w.heap.size, 3, none⟩ = some (.slice none 0 0) := HP3.out.cell 3
  have t0 : w6.cell? ⟨w.heap.size + 1, 0, none⟩ = some (.int .i64 0) := HQ3.out.cell 0
  have t1 : w6.cell? ⟨w.heap.size + 1, 1, none⟩ = some (.string ⟨#[]⟩) := HQ3.out.cell 1
  have t2 : w6.cell? ⟨w.heap.size + 1, 2, none⟩ = some (.slice none 0 0) := HQ3.out.cell 2
  have t3 : w6.cell? ⟨w.heap.size + 1, 3, none⟩ = some (.slice none 0 0) := HQ3.out.cell 3
  have u0 := HQ3.out.frozen 0
  have u1 := HQ3.out.frozen 1
  have u2 := HQ3.out.frozen 2
  have u3 := HQ3.out.frozen 3
  have lr := HP3.out.lt
  have lt := HQ3.out.lt
  go_wp2
  go_loopw [18] (fun iv wr => iv = .int .i64 0 ∧ wr = w6) (fun _ _ => 0)
  case atStart => exact ⟨rfl, rfl⟩
  case round =>
    obtain ⟨rfl, rfl⟩ := hrel
    go_wp2
    refine bodyPost_ret (results_jv rfl rfl (resJ_v HQ3.out (.int .i64 3) (.string s) (.slice none 0 0) (.slice none 0 0))) rfl ?_
    exact ⟨rfl, below4 HB3.out (Nat.le_succ _) _ _ _ _⟩

end Go.Proofs.YtbdpmpepmjpadaaGreatDoor

namespace Go.Proofs.YtbdpmpepmjpadaaGreatDoor
set_option linter.unusedVariables false
set_option linter.unusedSimpArgs false
set_option maxRecDepth 100000
open Go Go.RowKit Go.Shelf Go.Lib

/-- Strings in a row of one's own. -/
def OwnS (n₀ : Nat) (W : World) (v : Value) (K : List ByteArray) : Prop := W.ownsRow n₀ 9 1 v K.length (K.map Value.string)
theorem infoStr : (Tryz.prog.info? 9).map (fun i => (i.zero, i.size, i.bytes)) = some (some (.string ⟨#[]⟩), 1, 16) := by kernel_rfl
theorem ownS_nil (n₀ : Nat) (W : World) : OwnS n₀ W (.slice none 0 0) [] := World.ownsRow_nil _ _ _ _
theorem OwnS.lt {n₀ : Nat} {w : World} {v : Value} {K : List ByteArray} (h : OwnS n₀ w v K) : ∀ j, v.ownBlock = some j → n₀ ≤ j ∧ j < w.heap.size := World.ownsRow.lt h
theorem OwnS.len {n₀ : Nat} {w : World} {v : Value} {K : List ByteArray} (h : OwnS n₀ w v K) : ∃ ao c, v = .slice ao K.length c ∧ K.length ≤ c := by
  rcases id h.2 with ⟨rfl, h0⟩ | ⟨g, cap, cur, rfl, hg, hh, hn, hm, hc, ht⟩
  · exact ⟨none, 0, by rw [h0], by rw [h0]; exact Nat.le_refl _⟩
  · exact ⟨_, _, rfl, hn⟩
theorem OwnS.keep {n₀ : Nat} {w w' : World} {v : Value} {K : List ByteArray} (h : OwnS n₀ w v K) (k : ∀ j, v.ownBlock = some j → w'.heap[j]? = w.heap[j]?) : OwnS n₀ w' v K := by
  rcases id h.2 with ⟨rfl, h0⟩ | ⟨g, cap, cur, rfl, hg, hh, hn, hm, hc, ht⟩
  · exact ⟨h.1, .inl ⟨rfl, h0⟩⟩
  · exact ⟨h.1, .inr ⟨g, cap, cur, rfl, hg, by rw [k g rfl, hh], hn, hm, hc, ht⟩⟩
theorem OwnS.set {n₀ B i : Nat} {w : World} {v x : Value} {K : List ByteArray} (h : OwnS n₀ w v K) (hB : v.ownBlock ≠ some B) : OwnS n₀ (w.setCell ⟨B, i, none⟩ x) v K := h.keep fun j e => Below.heap_setCell w ⟨B, i, none⟩ x j (fun q => hB (by rw [e, q]))
theorem OwnS.off {n₀ B : Nat} {w : World} {v : Value} {K : List ByteArray} (h : OwnS n₀ w v K) (hB : B < n₀) : v.ownBlock ≠ some B := fun e => by
  have := (h.lt B e).1
  omega
theorem OwnS.cell {n₀ : Nat} {w : World} {ao : Option Addr} {n c : Nat} {K : List ByteArray} (h : OwnS n₀ w (.slice ao n c) K) {i : Nat} {x : ByteArray} (hx : K[i]? = some x) : ∃ g, ao = some ⟨g, 0, none⟩ ∧ w.cell? ⟨g, i, none⟩ = some (.string x) := by
  have hi : i < K.length := (List.getElem?_eq_some_iff.1 hx).1
  rcases id h.2 with ⟨hv, h0⟩ | ⟨g, cap, cur, hv, hg, hh, hn, hm, hc, ht⟩
  · omega
  · cases hv
    refine ⟨g, rfl, ?_⟩
    have h1 := World.ownsRow.cellAt h (j := i) (by omega)
    rw [h1]
    simp [hx]
/-- Rows of two kinds lie apart. -/
theorem ownSV {n m : Nat} {w : World} {v u : Value} {K : List ByteArray} {M : List JC} (h : OwnS n w v K) (k : OwnV m w u M) : ∀ j, v.ownBlock = some j → u.ownBlock ≠ some j := by
  intro j e q
  obtain ⟨c, fz, h1⟩ := Lib.ownsRow_kind h j e
  obtain ⟨c', fz', h2⟩ := Lib.ownsRow_kind k j q
  rw [h1] at h2
  cases h2

/-- A pair's cells: a key, and a number. -/
def pcell (x : ByteArray × ByteArray) : List Value := [.string x.1, .int .i64 3, .string x.2, .slice none 0 0, .slice none 0 0]
def pcells (P : List (ByteArray × ByteArray)) : List Value := P.flatMap pcell
theorem pcells_append (A B : List (ByteArray × ByteArray)) : pcells (A ++ B) = pcells A ++ pcells B := by simp [pcells]
theorem pcells_get : ∀ (P : List (ByteArray × ByteArray)) (i : Nat) (x : ByteArray × ByteArray) (r : Nat), P[i]? = some x → r < 5 → (pcells P)[i * 5 + r]? = (pcell x)[r]? := by
  intro P
  induction P with
  | nil => intro i x r h; simp at h
  | cons a l ih =>
    intro i x r h hr
    have e : pcells (a :: l) = pcell a ++ pcells l := rfl
    have hl : (pcell a).length = 5 := rfl
    cases i with
    | zero =>
      simp at h
      subst h
      rw [e, Nat.zero_mul, Nat.zero_add, List.getElem?_append_left (by omega)]
    | succ i =>
      rw [e, List.getElem?_append_right (by omega), hl, show (i + 1) * 5 + r - 5 = i * 5 + r by omega]
      exact ih i x r (by simpa using h) hr
def OwnP (n₀ : Nat) (W : World) (v : Value) (P : List (ByteArray × ByteArray)) : Prop := W.ownsRow n₀ 85 5 v P.length (pcells P)
theorem infoPair : (Tryz.prog.info? 85).map (fun i => (i.zero, i.size, i.bytes)) = some (some (.agg #[.string ⟨#[]⟩, .int .i64 0, .string ⟨#[]⟩, .slice none 0 0, .slice none 0 0]), 5, 88) := by kernel_rfl
theorem OwnP.lt {n₀ : Nat} {w : World} {v : Value} {P : List (ByteArray × ByteArray)} (h : OwnP n₀ w v P) : ∀ j, v.ownBlock = some j → n₀ ≤ j ∧ j < w.heap.size := World.ownsRow.lt h
theorem OwnP.len {n₀ : Nat} {w : World} {v : Value} {P : List (ByteArray × ByteArray)} (h : OwnP n₀ w v P) : ∃ ao c, v = .slice ao P.length c ∧ P.length ≤ c := by
  rcases id h.2 with ⟨rfl, h0⟩ | ⟨g, cap, cur, rfl, hg, hh, hn, hm, hc, ht⟩
  · exact ⟨none, 0, by rw [h0], by rw [h0]; exact Nat.le_refl _⟩
  · exact ⟨_, _, rfl, hn⟩
theorem OwnP.keep {n₀ : Nat} {w w' : World} {v : Value} {P : List (ByteArray × ByteArray)} (h : OwnP n₀ w v P) (k : ∀ j, v.ownBlock = some j → w'.heap[j]? = w.heap[j]?) : OwnP n₀ w' v P := by
  rcases id h.2 with ⟨rfl, h0⟩ | ⟨g, cap, cur, rfl, hg, hh, hn, hm, hc, ht⟩
  · exact ⟨h.1, .inl ⟨rfl, h0⟩⟩
  · exact ⟨h.1, .inr ⟨g, cap, cur, rfl, hg, by rw [k g rfl, hh], hn, hm, hc, ht⟩⟩
theorem OwnP.below {n₀ : Nat} {w w' : World} {v : Value} {P : List (ByteArray × ByteArray)} (h : OwnP n₀ w v P) (hb : Below w.heap.size w w') : OwnP n₀ w' v P := h.keep fun j e => hb.block j (h.lt j e).2
theorem OwnP.cell {n₀ : Nat} {w : World} {ao : Option Addr} {n c : Nat} {P : List (ByteArray × ByteArray)} (h : OwnP n₀ w (.slice ao n c) P) {i : Nat} {x : ByteArray × ByteArray} (hx : P[i]? = some x) : ∃ g, ao = some ⟨g, 0, none⟩ ∧ ∀ r, r < 5 → w.cell? ⟨g, i * 5 + r, none⟩ = (pcell x)[r]? := by
  have hi : i < P.length := (List.getElem?_eq_some_iff.1 hx).1
  rcases id h.2 with ⟨hv, h0⟩ | ⟨g, cap, cur, hv, hg, hh, hn, hm, hc, ht⟩
  · omega
  · cases hv
    refine ⟨g, rfl, fun r hr => ?_⟩
    have h1 := World.ownsRow.cellAt h (j := i * 5 + r) (by omega)
    rw [h1]
    exact pcells_get P i x r hx hr

/-- An object on its way. -/
structure MadeJ (w W : World) (kv lv : Value) (K : List ByteArray) (M : List JC) : Prop where
  box : BoxC W (w.heap.size + 1) 27 #[.int .i64 6, .string ⟨#[]⟩, kv, lv]
  ks : OwnS (w.heap.size + 2) W kv K
  vs : OwnV (w.heap.size + 2) W lv M
  low : Below w.heap.size w W
  res : BoxC W w.heap.size 27 #[.int .i64 0, .string ⟨#[]⟩, .slice none 0 0, .slice none 0 0]
theorem MadeJ.below {w W W' : World} {kv lv : Value} {K : List ByteArray} {M : List JC} (h : MadeJ w W kv lv K M) (hb : Below W.heap.size W W') : MadeJ w W' kv lv K M :=
  ⟨h.box.below hb, h.ks.keep (fun j e => hb.block j (h.ks.lt j e).2), h.vs.keep (fun j e => hb.block j (h.vs.lt j e).2), h.low.trans (hb.mono h.low.size), h.res.below hb⟩
theorem MadeJ.putK {w W W' : World} {kv lv kv' : Value} {K K' : List ByteArray} {M : List JC} (h : MadeJ w W kv lv K M) (hg : W.grownBy W' kv.ownBlock) (ho : OwnS (w.heap.size + 2) W' kv' K') : MadeJ w (W'.setCell ⟨w.heap.size + 1, 2, none⟩ kv') kv' lv K' M := by
  have n1 : some (w.heap.size + 1) ≠ kv.ownBlock := fun e => by have := (h.ks.lt _ e.symm).1; omega
  have n2 : some w.heap.size ≠ kv.ownBlock := fun e => by have := (h.ks.lt _ e.symm).1; omega
  refine ⟨(h.box.kept hg n1).set 2 kv', ho.set (ho.off (by omega)), ?_, ?_, (h.res.kept hg n2).other (by omega) 2 kv'⟩
  · have hv : OwnV (w.heap.size + 2) W' lv M := h.vs.keep (fun j e => hg.block j (h.vs.lt j e).2 (fun q => ownSV h.ks h.vs j q.symm e))
    exact hv.set (hv.off (by omega))
  · exact (h.low.grown hg h.low.size (fun j e => by have := (h.ks.lt j e).1; omega)).setCell (p := ⟨w.heap.size + 1, 2, none⟩) (Nat.le_succ _) kv'
theorem MadeJ.putV {w W W' : World} {kv lv lv' : Value} {K : List ByteArray} {M M' : List JC} (h : MadeJ w W kv lv K M) (hg : W.grownBy W' lv.ownBlock) (ho : OwnV (w.heap.size + 2) W' lv' M') : MadeJ w (W'.setCell ⟨w.heap.size + 1, 3, none⟩ lv') kv lv' K M' := by
  have n1 : some (w.heap.size + 1) ≠ lv.ownBlock := fun e => by have := (h.vs.lt _ e.symm).1; omega
  have n2 : some w.heap.size ≠ lv.ownBlock := fun e => by have := (h.vs.lt _ e.symm).1; omega
  refine ⟨(h.box.kept hg n1).set 3 lv', ?_, ho.set (ho.off (by omega)), ?_, (h.res.kept hg n2).other (by omega) 3 lv'⟩
  · have hk : OwnS (w.heap.size + 2) W' kv K := h.ks.keep (fun j e => hg.block j (h.ks.lt j e).2 (fun q => ownSV h.ks h.vs j e q.symm))
    exact hk.set (hk.off (by omega))
  · exact (h.low.grown hg h.low.size (fun j e => by have := (h.vs.lt j e).1; omega)).setCell (p := ⟨w.heap.size + 1, 3, none⟩) (Nat.le_succ _) lv'
/-- A key more. -/
theorem MadeJ.key {w W : World} {kv lv : Value} {K : List ByteArray} {M : List JC} (h : MadeJ w W kv lv K M) (s : ByteArray) (hlen : K.length ≤ 1000000) :
    ∃ va vn vc w', (Builtin.append_ #[24, 24] 24 #[kv, .slice (some ⟨W.heap.size, 0, none⟩) 1 1]).run Tryz.prog (W.alloc (.cells #[.string s] 9)) = .ok (.slice va vn vc) w' ∧ MadeJ w (w'.setCell ⟨w.heap.size + 1, 2, none⟩ (.slice va vn vc)) (.slice va vn vc) lv (K ++ [s]) M ∧
      w'.cell? ⟨w.heap.size + 1, 2, none⟩ = some kv ∧ w'.frozen? ⟨w.heap.size + 1, 2, none⟩ = false ∧ w.heap.size + 1 < w'.heap.size ∧ (∀ B cs, BoxC W B 85 cs → BoxC w' B 85 cs) := by
  obtain ⟨i0, hi, hz0, hz1, hz2⟩ := info_parts infoStr
  have hb := bel W (.cells #[.string s] 9)
  have h1 := h.below hb
  have hx := BoxC.new W 9 #[.string s]
  have hbase := h1.box.lt
  obtain ⟨v', w', hr, h2, h3, _, h5⟩ := run_append_own_at (P := Tryz.prog) (W.alloc (.cells #[.string s] 9)) (w.heap.size + 2) 24 24 9 i0 (.string ⟨#[]⟩) 1 16 Tryz.underlying24 hi hz0 hz1 hz2 rfl (by decide) kv K.length (K.map Value.string) h1.ks ⟨W.heap.size, 0, none⟩ 1 1 [.string s] rfl (by
      intro j u hj
      have := hx.cell j
      rw [addr_plus, Nat.zero_add, this]
      simpa using hj) (by
      intro u hu
      simp only [List.mem_cons, List.not_mem_nil, or_false] at hu
      subst hu
      rfl) (by unfold maxLen; omega) (by omega) (by omega)
  have ho : OwnS (w.heap.size + 2) w' v' (K ++ [s]) := by
    unfold OwnS
    rw [List.length_append, List.map_append]
    exact h2
  obtain ⟨va, vc, rfl, _⟩ := ho.len
  have n1 : some (w.heap.size + 1) ≠ kv.ownBlock := fun e => by have := (h.ks.lt _ e.symm).1; omega
  have hbk := h1.box.kept h3 n1
  refine ⟨_, _, _, w', hr, h1.putK h3 ho, hbk.cell 2, hbk.frozen 2, hbk.lt, fun B cs hB => (hB.below hb).kept h3 (fun e => ?_)⟩
  obtain ⟨c, fz, hk⟩ := Lib.ownsRow_kind h1.ks B e.symm
  rw [show (W.alloc (.cells #[.string s] 9)).heap[B]? = _ from hB.below hb] at hk
  cases hk

end Go.Proofs.YtbdpmpepmjpadaaGreatDoor

namespace Go.Proofs.YtbdpmpepmjpadaaGreatDoor
set_option linter.unusedVariables false
set_option linter.unusedSimpArgs false
set_option maxRecDepth 100000
open Go Go.RowKit Go.Shelf Go.Lib

set_option maxHeartbeats 16000000 in
theorem made_calls (n₁ : Nat) (w : World) (pv : Value) (P : List (ByteArray × ByteArray)) (hP : OwnP n₁ w pv P) (hlen : P.length ≤ 1000000) :
    Calls Tryz.prog 36 #[pv] w fun e w' => ∃ kv lv, e = .returned (vagg (6, ⟨#[]⟩, kv, lv)) ∧ OwnS w.heap.size w' kv (P.map Prod.fst) ∧ OwnV w.heap.size w' lv (P.map (fun x => nC x.2)) ∧ Below w.heap.size w w' := by
  obtain ⟨pa, pc, rfl, hpc⟩ := hP.len
  obtain ⟨K, hK⟩ : ∃ K, P.map Prod.fst = K := ⟨_, rfl⟩
  obtain ⟨M, hM⟩ : ∃ M, P.map (fun x => nC x.2) = M := ⟨_, rfl⟩
  have hKl : K.length = P.length := by rw [← hK]; simp
  have hMl : M.length = P.length := by rw [← hM]; simp
  have hb0 := bel w (.cells jv0 27)
  have hx0 := BoxC.new w 27 jv0
  have hb1 : Below w.heap.size w ((w.alloc (.cells jv0 27)).alloc (.cells #[.int .i64 6, .string ⟨#[]⟩, .slice none 0 0, .slice none 0 0] 27)) := hb0.alloc (by simp) _
  have hx1 := hx0.alloc (.cells #[.int .i64 6, .string ⟨#[]⟩, .slice none 0 0, .slice none 0 0] 27)
  have hv1 := BoxC.new (w.alloc (.cells jv0 27)) 27 #[.int .i64 6, .string ⟨#[]⟩, .slice none 0 0, .slice none 0 0]
  rw [World.size_alloc] at hv1
  unfold jv0 at hb1 hx1 hv1
  have HI : Hid (∃ (i : Nat) (kv lv : Value), i ≤ P.length ∧ Value.int .i64 0 = .int .i64 (i : Int) ∧ MadeJ w ((w.alloc (.cells #[.int .i64 0, .string ⟨#[]⟩, .slice none 0 0, .slice none 0 0] 27)).alloc (.cells #[.int .i64 6, .string ⟨#[]⟩, .slice none 0 0, .slice none 0 0] 27)) kv lv (K.take i) (M.take i)) := ⟨0, _, _, Nat.zero_le _, rfl, hv1, ownS_nil _ _, ownV_nil _ _, hb1, hx1⟩
  have HP := hide hP
  have HL := hide hlen
  have HKL := hide hKl
  have HML := hide hMl
  have HK := hide hK
  have HMM := hide hM
  rw [hK, hM]
  obtain ⟨n, hn⟩ : ∃ n, P.length = n := ⟨_, rfl⟩
  rw [hn] at hP HP HL HKL HML HI ⊢
  have HN := hide hn
  clear hP hlen hKl hMl hK hM hb0 hx0 hb1 hx1 hv1 hn hpc
  go_enter Tryz.func36, Tryz.ntmps36
  go_wp2
  go_loopw [9] (fun iv wr => ∃ (i : Nat) (kv lv : Value), i ≤ n ∧ iv = .int .i64 (i : Int) ∧ MadeJ w wr kv lv (K.take i) (M.take i)) (fun iv _ => n - (RowKit.intOf iv).toNat)
  case atStart => exact HI.out
  case round =>
    obtain ⟨i, kv, lv, hi, rfl, hm⟩ := hrel
    obtain ⟨ka, kc, hkv, _⟩ := hm.ks.len
    obtain ⟨la, lc, hlv, _⟩ := hm.vs.len
    generalize (K.take i).length = kn at *
    generalize (M.take i).length = ln at *
    subst hkv hlv
    have HM0 := hide hm
    have HNI := hide hi
    clear HI hm
    generalize wr = wo at *
    by_cases hlt : i < n
    · have hPi : i < P.length := by have := HN.out; omega
      obtain ⟨⟨xk, xs⟩, hPx⟩ : ∃ x, P[i]? = some x := ⟨_, List.getElem?_eq_getElem hPi⟩
      obtain ⟨G, rfl, hc⟩ := HP.out.cell hPx
      have hlowG : G < w.heap.size := block_lt (show w.cell? ⟨G, i * 5 + 0, none⟩ = some _ from hc 0 (by omega))
      have HKX : Hid (K[i]? = some xk) := by rw [← HK.out]; show _ = _; rw [List.getElem?_map, hPx]; rfl
      have HMX : Hid (M[i]? = some (nC xs)) := by rw [← HMM.out]; show _ = _; rw [List.getElem?_map, hPx]; rfl
      have hcc : ∀ r, r < 5 → wo.cell? ⟨G, i * 5 + r, none⟩ = (pcell (xk, xs))[r]? := fun r hr => (HM0.out.low.cell (p := ⟨G, i * 5 + r, none⟩) hlowG).trans (hc r hr)
      have k0 := hcc 0 (by omega)
      have k1 := hcc 1 (by omega)
      have k2 := hcc 2 (by omega)
      have k3 := hcc 3 (by omega)
      have k4 := hcc 4 (by omega)
      simp only [pcell, List.getElem?_cons_zero, List.getElem?_cons_succ, Nat.add_zero] at k0 k1 k2 k3 k4
      have d1 : (i : Int) < (n : Int) := by omega
      have d0 : (0 : Int) ≤ (i : Int) := by omega
      have HIL := hide hlt
      obtain ⟨i1, hi1⟩ : ∃ i1, i + 1 = i1 := ⟨_, rfl⟩
      have e1 : (i : Int) + 1 = (i1 : Int) := by omega
      have g1 : (i1 : Int) ≤ 1000000000 := by have := HL.out; omega
      have HI1 := hide hi1
      have HTK : Hid (K.take i1 = K.take i ++ [xk]) := by show _ = _; rw [← HI1.out, List.take_add_one, HKX.out]; rfl
      have HTM : Hid (M.take i1 = M.take i ++ [nC xs]) := by show _ = _; rw [← HI1.out, List.take_add_one, HMX.out]; rfl
      have HLN : Hid (n ≤ 1000000) := HL.out
      have lG : G < wo.heap.size := Nat.lt_of_lt_of_le hlowG HM0.out.low.size
      have hb2 := bel wo (.cells #[.string xk, .int .i64 3, .string xs, .slice none 0 0, .slice none 0 0] 85)
      have hx2 := BoxC.new wo 85 #[.string xk, .int .i64 3, .string xs, .slice none 0 0, .slice none 0 0]
      have hm2 := HM0.out.below hb2
      have HBP : Hid (w.heap.size + 1 < wo.heap.size) := HM0.out.box.lt
      clear hPi hPx hc hlowG hcc hlt hi hi1
      go_upto_region 5 with fail
      generalize hBP : wo.heap.size = BP at *
      generalize wo.alloc (.cells #[.string xk, .int .i64 3, .string xs, .slice none 0 0, .slice none 0 0] 85) = w2 at *
      clear k0 k1 k2 k3 k4 lG hb2 hBP
      obtain ⟨va0, vn0, vc0, w3, hr3, hm3, cV3, fV3, lV3, hkeep⟩ := hm2.key xk (by rw [List.length_take]; have := HLN.out; omega)
      have hx3 := hkeep BP _ hx2
      have b0 : w2.cell? ⟨BP, 0, none⟩ = some (.string xk) := hx2.cell 0
      have lb0 := hx2.lt
      have cK : w2.cell? ⟨w.heap.size + 1, 2, none⟩ = some (.slice ka kn kc) := hm2.box.cell 2
      have lK := hm2.box.lt
      have HM3 := hide hm3
      have HX3 := hide (hx3.other (show BP ≠ w.heap.size + 1 by have := HBP.out; omega) 2 (.slice va0 vn0 vc0))
      clear hm2 hx2 hm3 hx3 hkeep HM0
      go_wp2_with (at_builtin; go_must (refine Lib.wpList_append_run _ rfl _ _ _ _ rfl _ _ rfl rfl _ _ hr3 ?_))
      generalize hw7 : w3.setCell ⟨w.heap.size + 1, 2, none⟩ (.slice va0 vn0 vc0) = w7 at *
      clear hw7 cV3 fV3 lV3 b0 lb0 cK lK hr3
      have HSX : Hid (∀ X0 : World, BoxC X0 BP 85 #[.string xk, .int .i64 3, .string xs, .slice none 0 0, .slice none 0 0] → (X0.cell? ⟨BP, 0, none⟩ = some (.string xk) ∧ X0.cell? ⟨BP, 1, none⟩ = some (.int .i64 3) ∧ X0.cell? ⟨BP, 2, none⟩ = some (.string xs) ∧ X0.cell? ⟨BP, 3, none⟩ = some (.slice none 0 0) ∧ X0.cell? ⟨BP, 4, none⟩ = some (.slice none 0 0))) := fun X0 h => ⟨h.cell 0, h.cell 1, h.cell 2, h.cell 3, h.cell 4⟩
      refine wp_region_held_drew (S := fun X0 : World => X0.cell? ⟨BP, 0, none⟩ = some (.string xk) ∧ X0.cell? ⟨BP, 1, none⟩ = some (.int .i64 3) ∧ X0.cell? ⟨BP, 2, none⟩ = some (.string xs) ∧ X0.cell? ⟨BP, 3, none⟩ = some (.slice none 0 0) ∧ X0.cell? ⟨BP, 4, none⟩ = some (.slice none 0 0)) (by kernel_rfl) (HSX.out _ HX3.out) (fun hHeld => ?_)
      have hdr : Below w7.heap.size w7 w7.drew := (Below.refl _ _).drew
      have HMD := hide (HM3.out.below hdr)
      have HBD := hide (HX3.out.below hdr)
      clear hdr HM3 HX3
      generalize w7.drew = w8 at *
      refine takeD (i := 0) (v := ?v1) (some 20) rfl (by kernel_rfl) (by kernel_rfl) (by kernel_rfl) (fun _ _ _ h => h) (Or.inl ⟨by rfl, ?hy1⟩) (HSX.out _ HBD.out) (by rfl) ?rest1
      case hy1 => first | (intro w hSw; (try dsimp only at hSw); obtain ⟨s0, s1, s2, s3, s4⟩ := hSw; go_simp; done) | (intro w hSw; (try dsimp only at hSw); obtain ⟨s0, s1, s2, s3, s4⟩ := hSw; go_simp; with_reducible rfl)
      try simp only [Act.put, List.setIfInBounds_toArray, List.set_cons_zero, List.set_cons_succ]
      refine takeD (i := 2) (v := ?v2) (some 22) rfl (by kernel_rfl) (by kernel_rfl) (by kernel_rfl) (fun _ _ _ h => h) (Or.inl ⟨by rfl, ?hy2⟩) (HSX.out _ HBD.out) (by rfl) ?rest2
      case hy2 => first | (intro w hSw; (try dsimp only at hSw); obtain ⟨s0, s1, s2, s3, s4⟩ := hSw; go_simp; done) | (intro w hSw; (try dsimp only at hSw); obtain ⟨s0, s1, s2, s3, s4⟩ := hSw; go_simp; with_reducible rfl)
      try simp only [Act.put, List.setIfInBounds_toArray, List.set_cons_zero, List.set_cons_succ]
      refine takeD (i := 3) (v := ?v3) (some 23) rfl (by kernel_rfl) (by kernel_rfl) (by kernel_rfl) (fun _ _ _ h => h) (Or.inl ⟨by rfl, ?hy3⟩) (HSX.out _ HBD.out) (by rfl) ?rest3
      case hy3 => first | (intro w hSw; (try dsimp only at hSw); obtain ⟨s0, s1, s2, s3, s4⟩ := hSw; go_simp; done) | (intro w hSw; (try dsimp only at hSw); obtain ⟨s0, s1, s2, s3, s4⟩ := hSw; go_simp; with_reducible rfl)
      try simp only [Act.put, List.setIfInBounds_toArray, List.set_cons_zero, List.set_cons_succ]
      refine wpAnyH_ready (rs := [1, 4]) (by kernel_rfl) (by simp) ?_
      refine AllReadyH.cons rfl (fun K hK => ?_) (AllReadyH.cons rfl (fun K hK => ?_) AllReadyH.nil)
      · have clw8 : w8.cell? ⟨w.heap.size + 1, 3, none⟩ = some (.slice la ln lc) := HMD.out.box.cell 3
        go_simp
        refine hK.out _ _ (HSX.out _ HBD.out) (fun _ => ?_)
        clear hK K
        try simp only [Act.put, List.setIfInBounds_toArray, List.set_cons_zero, List.set_cons_succ]
        refine wpAnyH_ready (rs := [4]) (by kernel_rfl) (by simp) ?_
        refine AllReadyH.cons rfl (fun K hK => ?_) AllReadyH.nil
        go_simp
        refine (clone_num w8 xs).mono ?_
        rintro e w4 ⟨rfl, hB4⟩
        have HM4 := hide (HMD.out.below hB4)
        have HB4 := hide (HBD.out.below hB4)
        refine hK.out _ _ (HSX.out _ HB4.out) (fun _ => ?_)
        clear hK K hB4
        try simp only [Act.put, List.setIfInBounds_toArray, List.set_cons_zero, List.set_cons_succ, vagg, nC]
        refine wpAnyH_ready (rs := [5]) (by kernel_rfl) (by simp) ?_
        refine AllReadyH.cons rfl (fun K hK => ?_) AllReadyH.nil
        go_simp
        have hbl := bel w4 (.cells #[.int .i64 3, .string xs, .slice none 0 0, .slice none 0 0] 27)
        have hbx := BoxC.new w4 27 #[.int .i64 3, .string xs, .slice none 0 0, .slice none 0 0]
        have HM5 := hide (HM4.out.below hbl)
        have HB5 := hide (HB4.out.below hbl)
        refine hK.out _ _ (HSX.out _ HB5.out) (fun _ => ?_)
        clear hK K hbl
        try simp only [Act.put, List.setIfInBounds_toArray, List.set_cons_zero, List.set_cons_succ]
        generalize hBn : w4.heap.size = BN at *
        generalize hw5 : w4.alloc (.cells #[.int .i64 3, .string xs, .slice none 0 0, .slice none 0 0] 27) = w5 at *
        have HBX := hide hbx
        clear hbx hw5
        refine wpAnyH_ready (rs := [6]) (by kernel_rfl) (by simp) ?_
        refine AllReadyH.cons rfl (fun K hK => ?_) AllReadyH.nil
        refine wp_appV _ (.tmp 21) (.tmp 25) rfl (w.heap.size + 2) (.slice la ln lc) (M.take i) rfl HM5.out.vs BN _ (nC xs) rfl HBX.out ⟨rfl, rfl⟩ (by rw [List.length_take]; have := HLN.out; omega) (by have := HM5.out.box.lt; omega) ?_
        intro lv' w6 hown hgrow hrow
        obtain ⟨va, vn, vc, rfl⟩ := hown.slice
        have hm6 := HM5.out.putV hgrow hown
        have hnb : ∀ cs, BoxC w5 BP 85 cs → BoxC w6 BP 85 cs := fun cs hB => hB.kept hgrow (fun e => HM5.out.vs.ne hB (by decide) e.symm)
        have HB6 := hide (hnb _ HB5.out)
        have n1 : some (w.heap.size + 1) ≠ (Value.slice la ln lc).ownBlock := fun e => by have := (HM5.out.vs.lt _ e.symm).1; omega
        have lV6 : w.heap.size + 1 < w6.heap.size := (HM5.out.box.kept hgrow n1).lt
        have cV6 : w6.cell? ⟨w.heap.size + 1, 3, none⟩ = some (.slice la ln lc) := (HM5.out.box.kept hgrow n1).cell 3
        have fV6 : w6.frozen? ⟨w.heap.size + 1, 3, none⟩ = false := (HM5.out.box.kept hgrow n1).frozen 3
        have HM6 := hide hm6
        refine hK.out _ _ (HSX.out _ HB6.out) (fun _ => ?_)
        clear hK K hown hgrow hrow hm6 hnb n1
        try simp only [Act.put, List.setIfInBounds_toArray, List.set_cons_zero, List.set_cons_succ]
        refine takeD (i := 7) (v := ?v4) (some 27) rfl (by kernel_rfl) (by kernel_rfl) (by kernel_rfl) (fun _ _ _ h => h) (Or.inl ⟨by rfl, ?hy4⟩) (HSX.out _ HB6.out) (by rfl) ?rest4
        case hy4 => first | (intro w hSw; (try dsimp only at hSw); obtain ⟨s0, s1, s2, s3, s4⟩ := hSw; go_simp; done) | (intro w hSw; (try dsimp only at hSw); obtain ⟨s0, s1, s2, s3, s4⟩ := hSw; go_simp; with_reducible rfl)
        try simp only [Act.put, List.setIfInBounds_toArray, List.set_cons_zero, List.set_cons_succ]
        refine wpAnyH_ready (rs := [8]) (by kernel_rfl) (by simp) ?_
        refine AllReadyH.cons rfl (fun K hK => ?_) AllReadyH.nil
        go_simp
        have HB7 := hide (HB6.out.other (show BP ≠ w.heap.size + 1 by have := HBP.out; omega) 3 (.slice va vn vc))
        refine hK.out _ _ (HSX.out _ HB7.out) (fun _ => ?_)
        clear hK K
        try simp only [Act.put, List.setIfInBounds_toArray, List.set_cons_zero, List.set_cons_succ]
        refine wpAnyH_done (by kernel_rfl) ?_ _
        go_wp2
        go_roundw
        case rel =>
          refine ⟨i1, .slice va0 vn0 vc0, .slice va vn vc, by have := HIL.out; have := HI1.out; omega, by first | rfl | go_num, ?_⟩
          rw [HTK.out, HTM.out]
          exact HM6.out
        case measure => have := HIL.out; have := HI1.out; simp [RowKit.intOf]; omega
      · go_simp
        refine (clone_num w8 xs).mono ?_
        rintro e w4 ⟨rfl, hB4⟩
        have HM4 := hide (HMD.out.below hB4)
        have HB4 := hide (HBD.out.below hB4)
        refine hK.out _ _ (HSX.out _ HB4.out) (fun _ => ?_)
        clear hK K hB4
        try simp only [Act.put, List.setIfInBounds_toArray, List.set_cons_zero, List.set_cons_succ, vagg, nC]
        refine wpAnyH_ready (rs := [1, 5]) (by kernel_rfl) (by simp) ?_
        refine AllReadyH.cons rfl (fun K hK => ?_) (AllReadyH.cons rfl (fun K hK => ?_) AllReadyH.nil)
        · have clw4 : w4.cell? ⟨w.heap.size + 1, 3, none⟩ = some (.slice la ln lc) := HM4.out.box.cell 3
          go_simp
          refine hK.out _ _ (HSX.out _ HB4.out) (fun _ => ?_)
          clear hK K
          try simp only [Act.put, List.setIfInBounds_toArray, List.set_cons_zero, List.set_cons_succ]
          refine wpAnyH_ready (rs := [5]) (by kernel_rfl) (by simp) ?_
          refine AllReadyH.cons rfl (fun K hK => ?_) AllReadyH.nil
          go_simp
          have hbl := bel w4 (.cells #[.int .i64 3, .string xs, .slice none 0 0, .slice none 0 0] 27)
          have hbx := BoxC.new w4 27 #[.int .i64 3, .string xs, .slice none 0 0, .slice none 0 0]
          have HM5 := hide (HM4.out.below hbl)
          have HB5 := hide (HB4.out.below hbl)
          refine hK.out _ _ (HSX.out _ HB5.out) (fun _ => ?_)
          clear hK K hbl
          try simp only [Act.put, List.setIfInBounds_toArray, List.set_cons_zero, List.set_cons_succ]
          generalize hBn : w4.heap.size = BN at *
          generalize hw5 : w4.alloc (.cells #[.int .i64 3, .string xs, .slice none 0 0, .slice none 0 0] 27) = w5 at *
          have HBX := hide hbx
          clear hbx hw5
          refine wpAnyH_ready (rs := [6]) (by kernel_rfl) (by simp) ?_
          refine AllReadyH.cons rfl (fun K hK => ?_) AllReadyH.nil
          refine wp_appV _ (.tmp 21) (.tmp 25) rfl (w.heap.size + 2) (.slice la ln lc) (M.take i) rfl HM5.out.vs BN _ (nC xs) rfl HBX.out ⟨rfl, rfl⟩ (by rw [List.length_take]; have := HLN.out; omega) (by have := HM5.out.box.lt; omega) ?_
          intro lv' w6 hown hgrow hrow
          obtain ⟨va, vn, vc, rfl⟩ := hown.slice
          have hm6 := HM5.out.putV hgrow hown
          have hnb : ∀ cs, BoxC w5 BP 85 cs → BoxC w6 BP 85 cs := fun cs hB => hB.kept hgrow (fun e => HM5.out.vs.ne hB (by decide) e.symm)
          have HB6 := hide (hnb _ HB5.out)
          have n1 : some (w.heap.size + 1) ≠ (Value.slice la ln lc).ownBlock := fun e => by have := (HM5.out.vs.lt _ e.symm).1; omega
          have lV6 : w.heap.size + 1 < w6.heap.size := (HM5.out.box.kept hgrow n1).lt
          have cV6 : w6.cell? ⟨w.heap.size + 1, 3, none⟩ = some (.slice la ln lc) := (HM5.out.box.kept hgrow n1).cell 3
          have fV6 : w6.frozen? ⟨w.heap.size + 1, 3, none⟩ = false := (HM5.out.box.kept hgrow n1).frozen 3
          have HM6 := hide hm6
          refine hK.out _ _ (HSX.out _ HB6.out) (fun _ => ?_)
          clear hK K hown hgrow hrow hm6 hnb n1
          try simp only [Act.put, List.setIfInBounds_toArray, List.set_cons_zero, List.set_cons_succ]
          refine takeD (i := 7) (v := ?v5) (some 27) rfl (by kernel_rfl) (by kernel_rfl) (by kernel_rfl) (fun _ _ _ h => h) (Or.inl ⟨by rfl, ?hy5⟩) (HSX.out _ HB6.out) (by rfl) ?rest5
          case hy5 => first | (intro w hSw; (try dsimp only at hSw); obtain ⟨s0, s1, s2, s3, s4⟩ := hSw; go_simp; done) | (intro w hSw; (try dsimp only at hSw); obtain ⟨s0, s1, s2, s3, s4⟩ := hSw; go_simp; with_reducible rfl)
          try simp only [Act.put, List.setIfInBounds_toArray, List.set_cons_zero, List.set_cons_succ]
          refine wpAnyH_ready (rs := [8]) (by kernel_rfl) (by simp) ?_
          refine AllReadyH.cons rfl (fun K hK => ?_) AllReadyH.nil
          go_simp
          have HB7 := hide (HB6.out.other (show BP ≠ w.heap.size + 1 by have := HBP.out; omega) 3 (.slice va vn vc))
          refine hK.out _ _ (HSX.out _ HB7.out) (fun _ => ?_)
          clear hK K
          try simp only [Act.put, List.setIfInBounds_toArray, List.set_cons_zero, List.set_cons_succ]
          refine wpAnyH_done (by kernel_rfl) ?_ _
          go_wp2
          go_roundw
          case rel =>
            refine ⟨i1, .slice va0 vn0 vc0, .slice va vn vc, by have := HIL.out; have := HI1.out; omega, by first | rfl | go_num, ?_⟩
            rw [HTK.out, HTM.out]
            exact HM6.out
          case measure => have := HIL.out; have := HI1.out; simp [RowKit.intOf]; omega
        · go_simp
          have hbl := bel w4 (.cells #[.int .i64 3, .string xs, .slice none 0 0, .slice none 0 0] 27)
          have hbx := BoxC.new w4 27 #[.int .i64 3, .string xs, .slice none 0 0, .slice none 0 0]
          have HM5 := hide (HM4.out.below hbl)
          have HB5 := hide (HB4.out.below hbl)
          refine hK.out _ _ (HSX.out _ HB5.out) (fun _ => ?_)
          clear hK K hbl
          try simp only [Act.put, List.setIfInBounds_toArray, List.set_cons_zero, List.set_cons_succ]
          generalize hBn : w4.heap.size = BN at *
          generalize hw5 : w4.alloc (.cells #[.int .i64 3, .string xs, .slice none 0 0, .slice none 0 0] 27) = w5 at *
          have HBX := hide hbx
          clear hbx hw5
          refine wpAnyH_ready (rs := [1]) (by kernel_rfl) (by simp) ?_
          refine AllReadyH.cons rfl (fun K hK => ?_) AllReadyH.nil
          have clw5 : w5.cell? ⟨w.heap.size + 1, 3, none⟩ = some (.slice la ln lc) := HM5.out.box.cell 3
          go_simp
          refine hK.out _ _ (HSX.out _ HB5.out) (fun _ => ?_)
          clear hK K
          try simp only [Act.put, List.setIfInBounds_toArray, List.set_cons_zero, List.set_cons_succ]
          refine wpAnyH_ready (rs := [6]) (by kernel_rfl) (by simp) ?_
          refine AllReadyH.cons rfl (fun K hK => ?_) AllReadyH.nil
          refine wp_appV _ (.tmp 21) (.tmp 25) rfl (w.heap.size + 2) (.slice la ln lc) (M.take i) rfl HM5.out.vs BN _ (nC xs) rfl HBX.out ⟨rfl, rfl⟩ (by rw [List.length_take]; have := HLN.out; omega) (by have := HM5.out.box.lt; omega) ?_
          intro lv' w6 hown hgrow hrow
          obtain ⟨va, vn, vc, rfl⟩ := hown.slice
          have hm6 := HM5.out.putV hgrow hown
          have hnb : ∀ cs, BoxC w5 BP 85 cs → BoxC w6 BP 85 cs := fun cs hB => hB.kept hgrow (fun e => HM5.out.vs.ne hB (by decide) e.symm)
          have HB6 := hide (hnb _ HB5.out)
          have n1 : some (w.heap.size + 1) ≠ (Value.slice la ln lc).ownBlock := fun e => by have := (HM5.out.vs.lt _ e.symm).1; omega
          have lV6 : w.heap.size + 1 < w6.heap.size := (HM5.out.box.kept hgrow n1).lt
          have cV6 : w6.cell? ⟨w.heap.size + 1, 3, none⟩ = some (.slice la ln lc) := (HM5.out.box.kept hgrow n1).cell 3
          have fV6 : w6.frozen? ⟨w.heap.size + 1, 3, none⟩ = false := (HM5.out.box.kept hgrow n1).frozen 3
          have HM6 := hide hm6
          refine hK.out _ _ (HSX.out _ HB6.out) (fun _ => ?_)
          clear hK K hown hgrow hrow hm6 hnb n1
          try simp only [Act.put, List.setIfInBounds_toArray, List.set_cons_zero, List.set_cons_succ]
          refine takeD (i := 7) (v := ?v6) (some 27) rfl (by kernel_rfl) (by kernel_rfl) (by kernel_rfl) (fun _ _ _ h => h) (Or.inl ⟨by rfl, ?hy6⟩) (HSX.out _ HB6.out) (by rfl) ?rest6
          case hy6 => first | (intro w hSw; (try dsimp only at hSw); obtain ⟨s0, s1, s2, s3, s4⟩ := hSw; go_simp; done) | (intro w hSw; (try dsimp only at hSw); obtain ⟨s0, s1, s2, s3, s4⟩ := hSw; go_simp; with_reducible rfl)
          try simp only [Act.put, List.setIfInBounds_toArray, List.set_cons_zero, List.set_cons_succ]
          refine wpAnyH_ready (rs := [8]) (by kernel_rfl) (by simp) ?_
          refine AllReadyH.cons rfl (fun K hK => ?_) AllReadyH.nil
          go_simp
          have HB7 := hide (HB6.out.other (show BP ≠ w.heap.size + 1 by have := HBP.out; omega) 3 (.slice va vn vc))
          refine hK.out _ _ (HSX.out _ HB7.out) (fun _ => ?_)
          clear hK K
          try simp only [Act.put, List.setIfInBounds_toArray, List.set_cons_zero, List.set_cons_succ]
          refine wpAnyH_done (by kernel_rfl) ?_ _
          go_wp2
          go_roundw
          case rel =>
            refine ⟨i1, .slice va0 vn0 vc0, .slice va vn vc, by have := HIL.out; have := HI1.out; omega, by first | rfl | go_num, ?_⟩
            rw [HTK.out, HTM.out]
            exact HM6.out
          case measure => have := HIL.out; have := HI1.out; simp [RowKit.intOf]; omega
    · obtain rfl : i = n := by omega
      have hk2 : K.take i = K := List.take_of_length_le (by rw [HKL.out]; exact Nat.le_refl _)
      have hm2 : M.take i = M := List.take_of_length_le (by rw [HML.out]; exact Nat.le_refl _)
      rw [hk2, hm2] at HM0
      have d1 : ¬ (i : Int) < (i : Int) := by omega
      have v0 : wo.cell? ⟨w.heap.size + 1, 0, none⟩ = some (.int .i64 6) := HM0.out.box.cell 0
      have v1 : wo.cell? ⟨w.heap.size + 1, 1, none⟩ = some (.string ⟨#[]⟩) := HM0.out.box.cell 1
      have v2 : wo.cell? ⟨w.heap.size + 1, 2, none⟩ = some (.slice ka kn kc) := HM0.out.box.cell 2
      have v3 : wo.cell? ⟨w.heap.size + 1, 3, none⟩ = some (.slice la ln lc) := HM0.out.box.cell 3
      have x0 : wo.cell? ⟨w.heap.size, 0, none⟩ = some (.int .i64 0) := HM0.out.res.cell 0
      have x1 : wo.cell? ⟨w.heap.size, 1, none⟩ = some (.string ⟨#[]⟩) := HM0.out.res.cell 1
      have x2 : wo.cell? ⟨w.heap.size, 2, none⟩ = some (.slice none 0 0) := HM0.out.res.cell 2
      have x3 : wo.cell? ⟨w.heap.size, 3, none⟩ = some (.slice none 0 0) := HM0.out.res.cell 3
      have y0 := HM0.out.res.frozen 0
      have y1 := HM0.out.res.frozen 1
      have y2 := HM0.out.res.frozen 2
      have y3 := HM0.out.res.frozen 3
      have lX := HM0.out.res.lt
      have lV := HM0.out.box.lt
      clear hk2 hm2 hlt hi
      go_wp2
      refine bodyPost_ret (results_jv rfl rfl (resJ_v HM0.out.res (.int .i64 6) (.string ⟨#[]⟩) (.slice ka kn kc) (.slice la ln lc))) rfl ?_
      have q1 : (Value.slice ka kn kc).ownBlock ≠ some w.heap.size := HM0.out.ks.off (by omega)
      have q2 : (Value.slice la ln lc).ownBlock ≠ some w.heap.size := HM0.out.vs.off (by omega)
      refine ⟨_, _, rfl, ?_, ((((HM0.out.vs.set q2).set q2).set q2).set q2).mono (by omega), below4 HM0.out.low (Nat.le_refl _) _ _ _ _⟩
      have hk := (((HM0.out.ks.set (i := 0) (x := .int .i64 6) q1).set (i := 1) (x := .string ⟨#[]⟩) q1).set (i := 2) (x := .slice ka kn kc) q1).set (i := 3) (x := .slice la ln lc) q1
      rcases hk.2 with h | ⟨g, cap, cur, h1, h2, h3⟩
      · exact ⟨hk.1, .inl h⟩
      · exact ⟨hk.1, .inr ⟨g, cap, cur, h1, by omega, h3⟩⟩

end Go.Proofs.YtbdpmpepmjpadaaGreatDoor

namespace Go.Proofs.YtbdpmpepmjpadaaGreatDoor
set_option linter.unusedVariables false
set_option linter.unusedSimpArgs false
set_option maxRecDepth 100000
open Go Go.RowKit Go.Shelf Go.Lib

def nthS (K : List ByteArray) (j : Nat) : ByteArray := K[j]?.getD ⟨#[]⟩
/-- Strings that came in. -/
def StrsIn (W : World) (v : Value) (K : List ByteArray) : Prop := ∃ ao cap, v = .slice ao K.length cap ∧ ∀ j, j < K.length → ∃ b off, ao = some ⟨b, off, none⟩ ∧ W.cell? ⟨b, off + j, none⟩ = some (.string (nthS K j))
theorem StrsIn.below {W W' : World} {v : Value} {K : List ByteArray} (h : StrsIn W v K) (hb : Below W.heap.size W W') : StrsIn W' v K := by
  obtain ⟨ao, cap, h1, h3⟩ := h
  refine ⟨ao, cap, h1, fun j hj => ?_⟩
  obtain ⟨b, off, h4, h5⟩ := h3 j hj
  exact ⟨b, off, h4, (hb.cell (p := ⟨b, off + j, none⟩) (block_lt h5)).trans h5⟩
/-- The pairs that are made. -/
def prs (K : List ByteArray) : List (ByteArray × ByteArray) := (List.range K.length).map (fun j => (nthS K j, smallS j))
theorem prs_len (K : List ByteArray) : (prs K).length = K.length := by simp [prs]
theorem prs_get {K : List ByteArray} {i : Nat} (h : i < K.length) : (prs K)[i]? = some (nthS K i, smallS i) := by simp [prs, h]

/-- Appending a pair to one's own, in a region that draws. -/
theorem wp_appP (w : World) {o : Oper} {a : Act} {K : Act → World → Prop} {Q : Exit → Act → World → Prop} (s x : Operand)
    (ho : o.op = .call { callee := .builtin .append, args := #[s, x], argTypes := #[114, 114] })
    (n₀ : Nat) (v : Value) (P : List (ByteArray × ByteArray)) (hs : a.eval s = v) (hown : OwnP n₀ w v P) (b c : Nat) (y : ByteArray × ByteArray) (hx : a.eval x = .slice (some ⟨b, 0, none⟩) 1 c) (hl : BoxC w b 85 (pcell y).toArray) (hsum : P.length ≤ 1000000) (hbase : n₀ ≤ w.heap.size)
    (h : ∀ v' w', OwnP n₀ w' v' (P ++ [y]) → w.grownBy w' v.ownBlock → K (a.put o.dst v') w') : o.wp Tryz.prog a w K Q := by
  obtain ⟨i0, hi, hz0, hz1, hz2⟩ := info_parts infoPair
  obtain ⟨v', w', hr, h2, h3', _, h5⟩ := run_append_own_at (P := Tryz.prog) w n₀ 114 o.type 85 i0 _ 5 88 Tryz.underlying114 hi hz0 hz1 hz2 rfl (by decide) v P.length (pcells P) hown ⟨b, 0, none⟩ 1 c (pcell y) rfl (by
      intro j u hj
      have := hl.cell j
      rw [addr_plus, Nat.zero_add, this]
      simpa using hj) (by
      intro u hu
      simp only [pcell, List.mem_cons, List.not_mem_nil, or_false] at hu
      rcases hu with rfl | rfl | rfl | rfl | rfl <;> rfl) (by unfold maxLen; omega) (by omega) hbase
  have h2' : OwnP n₀ w' v' (P ++ [y]) := by
    unfold OwnP
    rw [List.length_append, pcells_append]
    exact h2
  unfold Oper.wp execOp
  simp only [ho, resolve, invoke, builtin, Sem.run_bind, Sem.run_pure, Result.andThen_ok, List.map_toArray, List.map_cons, List.map_nil, hs, hx, hr]
  exact h v' w' h2' h3'

end Go.Proofs.YtbdpmpepmjpadaaGreatDoor

namespace Go.Proofs.YtbdpmpepmjpadaaGreatDoor
set_option linter.unusedVariables false
set_option linter.unusedSimpArgs false
set_option maxRecDepth 100000
open Go Go.RowKit Go.Shelf Go.Lib

inductive JT where
  | mk (k : Int) (s : ByteArray) (K : List ByteArray) (L : List JT)

/-- Strings, in blocks of which something is so. -/
def StrsS (W : World) (S : Nat → Prop) (v : Value) (K : List ByteArray) : Prop := ∃ ao cap, v = .slice ao K.length cap ∧ ∀ j, j < K.length → ∃ b off, ao = some ⟨b, off, none⟩ ∧ S b ∧ W.cell? ⟨b, off + j, none⟩ = some (.string (nthS K j))
/-- A value and all that it is made of, in blocks of which something is so. -/
inductive TIn (W : World) (S : Nat → Prop) : JC → JT → Prop where
  | mk (k : Int) (s : ByteArray) (kv : Value) (la : Option Addr) (lc : Nat) (K : List ByteArray) (L : List JT) (xs : Nat → JC)
      (hK : StrsS W S kv K)
      (hc : ∀ i, i < L.length → ∃ b off, la = some ⟨b, off, none⟩ ∧ S b ∧ ∀ r, r < 4 → W.cell? ⟨b, off + (i * 4 + r), none⟩ = (vcell (xs i))[r]?)
      (hsl : ∀ i, i < L.length → IsSl (xs i).2.2.1 ∧ IsSl (xs i).2.2.2)
      (ht : ∀ i (h : i < L.length), TIn W S (xs i) L[i]) : TIn W S (k, s, kv, .slice la L.length lc) (.mk k s K L)
theorem StrsS.keep {W W' : World} {S S' : Nat → Prop} {v : Value} {K : List ByteArray} (h : StrsS W S v K) (hb : ∀ b, S b → b < W.heap.size → S' b ∧ W'.heap[b]? = W.heap[b]?) : StrsS W' S' v K := by
  obtain ⟨ao, cap, h1, h2⟩ := h
  refine ⟨ao, cap, h1, fun j hj => ?_⟩
  obtain ⟨b, off, e, hs, hc⟩ := h2 j hj
  have hlt := block_lt hc
  exact ⟨b, off, e, (hb b hs hlt).1, (World.cell?_of_block (a := ⟨b, off + j, none⟩) (hb b hs hlt).2).trans hc⟩
theorem TIn.keep {W W' : World} {S S' : Nat → Prop} {x : JC} {T : JT} (h : TIn W S x T) (hb : ∀ b, S b → b < W.heap.size → S' b ∧ W'.heap[b]? = W.heap[b]?) : TIn W' S' x T := by
  induction h with
  | mk k s kv la lc K L xs hK hc hsl ht ih =>
    refine .mk k s kv la lc K L xs (hK.keep hb) (fun i hi => ?_) hsl (fun i hi => ih i hi)
    obtain ⟨b, off, e, hs, hx⟩ := hc i hi
    have h0 := hx 0 (by omega)
    simp only [vcell, List.getElem?_cons_zero] at h0
    have hlt := block_lt h0
    exact ⟨b, off, e, (hb b hs hlt).1, fun r hr => (World.cell?_of_block (a := ⟨b, off + (i * 4 + r), none⟩) (hb b hs hlt).2).trans (hx r hr)⟩
theorem TIn.bel {W W' : World} {S : Nat → Prop} {x : JC} {T : JT} (h : TIn W S x T) (hb : Below W.heap.size W W') : TIn W' S x T := h.keep fun b hs hlt => ⟨hs, hb.block b hlt⟩
/-- Trees that are small enough. -/
inductive LtT : JT → Prop where
  | mk (k : Int) (s : ByteArray) (K : List ByteArray) (L : List JT) (hK : K.length ≤ 1000000) (hL : L.length ≤ 1000000) (hs : k = 3 → s.size ≤ 100000) (ht : ∀ i (h : i < L.length), LtT L[i]) : LtT (.mk k s K L)

end Go.Proofs.YtbdpmpepmjpadaaGreatDoor

namespace Go.Proofs.YtbdpmpepmjpadaaGreatDoor
set_option linter.unusedVariables false
set_option linter.unusedSimpArgs false
set_option maxRecDepth 100000
open Go Go.RowKit Go.Shelf Go.Lib

def LightR (T : JT) (w : World) (e : Ending) (w' : World) : Prop := ∃ b : Bool, e = .returned (.bool b) ∧ (b = true → LtT T) ∧ Below w.heap.size w w'
theorem lightR_false {T : JT} {w w' : World} (hb : Below w.heap.size w w') : LightR T w (.returned (.bool false)) w' := ⟨false, rfl, fun h => (by cases h), hb⟩

end Go.Proofs.YtbdpmpepmjpadaaGreatDoor

namespace Go.Proofs.YtbdpmpepmjpadaaGreatDoor
set_option linter.unusedVariables false
set_option linter.unusedSimpArgs false
set_option maxRecDepth 100000
open Go Go.RowKit Go.Shelf Go.Lib

/-- Values in a row of one's own. -/
def OwnQ (n₀ : Nat) (W : World) (v : Value) (M : List JC) : Prop := W.ownsRow n₀ 36 4 v M.length (vcells M)
theorem infoQ : (Tryz.prog.info? 36).map (fun i => (i.zero, i.size, i.bytes)) = some (some (.agg #[.int .i64 0, .string ⟨#[]⟩, .slice none 0 0, .slice none 0 0]), 4, 72) := by kernel_rfl
theorem ownQ_nil (n₀ : Nat) (W : World) : OwnQ n₀ W (.slice none 0 0) [] := World.ownsRow_nil _ _ _ _
theorem OwnQ.slice {n₀ : Nat} {w : World} {v : Value} {M : List JC} (h : OwnQ n₀ w v M) : ∃ ao n c, v = .slice ao n c := by
  rcases id h.2 with ⟨rfl, h0⟩ | ⟨g, cap, cur, rfl, hg, hh, hn, hm, hc, ht⟩
  · exact ⟨none, 0, 0, rfl⟩
  · exact ⟨_, _, _, rfl⟩
/-- Its length, whatever it is. -/
theorem OwnQ.len {n₀ : Nat} {w : World} {v : Value} {M : List JC} (h : OwnQ n₀ w v M) : ∃ ao c, v = .slice ao M.length c ∧ M.length ≤ c := by
  rcases id h.2 with ⟨rfl, h0⟩ | ⟨g, cap, cur, rfl, hg, hh, hn, hm, hc, ht⟩
  · exact ⟨none, 0, by rw [h0], by rw [h0]; exact Nat.le_refl _⟩
  · exact ⟨_, _, rfl, hn⟩
theorem OwnQ.keep {n₀ : Nat} {w w' : World} {v : Value} {M : List JC} (h : OwnQ n₀ w v M) (k : ∀ j, v.ownBlock = some j → w'.heap[j]? = w.heap[j]?) : OwnQ n₀ w' v M := by
  rcases id h.2 with ⟨rfl, h0⟩ | ⟨g, cap, cur, rfl, hg, hh, hn, hm, hc, ht⟩
  · exact ⟨h.1, .inl ⟨rfl, h0⟩⟩
  · exact ⟨h.1, .inr ⟨g, cap, cur, rfl, hg, by rw [k g rfl, hh], hn, hm, hc, ht⟩⟩
theorem OwnQ.lt {n₀ : Nat} {w : World} {v : Value} {M : List JC} (h : OwnQ n₀ w v M) : ∀ j, v.ownBlock = some j → n₀ ≤ j ∧ j < w.heap.size := World.ownsRow.lt h
theorem OwnQ.mono {n m : Nat} {w : World} {v : Value} {M : List JC} (h : OwnQ m w v M) (k : n ≤ m) : OwnQ n w v M := by
  rcases id h.2 with ⟨rfl, h0⟩ | ⟨g, cap, cur, rfl, hg, hh, hn, hm, hc, ht⟩
  · exact ⟨h.1, .inl ⟨rfl, h0⟩⟩
  · exact ⟨h.1, .inr ⟨g, cap, cur, rfl, Nat.le_trans k hg, hh, hn, hm, hc, ht⟩⟩
theorem OwnQ.off {n₀ B : Nat} {w : World} {v : Value} {M : List JC} (h : OwnQ n₀ w v M) (hB : B < n₀) : v.ownBlock ≠ some B := fun e => by
  have := (h.lt B e).1
  omega
theorem OwnQ.set {n₀ B i : Nat} {w : World} {v x : Value} {M : List JC} (h : OwnQ n₀ w v M) (hB : v.ownBlock ≠ some B) : OwnQ n₀ (w.setCell ⟨B, i, none⟩ x) v M := h.keep fun j e => Below.heap_setCell w ⟨B, i, none⟩ x j (fun q => hB (by rw [e, q]))
/-- The block of a row of values is no other kind of block. -/
theorem OwnQ.ne {n₀ B : Nat} {w : World} {v : Value} {M : List JC} {t : TypeId} {cs : Array Value} (h : OwnQ n₀ w v M) (hb : BoxC w B t cs) (ht : t ≠ 36) : v.ownBlock ≠ some B := by
  intro e
  obtain ⟨c, fz, hk⟩ := Lib.ownsRow_kind h B e
  rw [show w.heap[B]? = _ from hb] at hk
  cases hk
  exact ht rfl
theorem OwnQ.cell {n₀ : Nat} {w : World} {ao : Option Addr} {n c : Nat} {M : List JC} (h : OwnQ n₀ w (.slice ao n c) M) {i : Nat} {x : JC} (hx : M[i]? = some x) : ∃ g, ao = some ⟨g, 0, none⟩ ∧ ∀ r, r < 4 → w.cell? ⟨g, i * 4 + r, none⟩ = (vcell x)[r]? := by
  have hi : i < M.length := (List.getElem?_eq_some_iff.1 hx).1
  rcases id h.2 with ⟨hv, h0⟩ | ⟨g, cap, cur, hv, hg, hh, hn, hm, hc, ht⟩
  · omega
  · cases hv
    refine ⟨g, rfl, fun r hr => ?_⟩
    have h1 := World.ownsRow.cellAt h (j := i * 4 + r) (by omega)
    rw [h1]
    have key : ∀ (M : List JC) (i : Nat), M[i]? = some x → (vcells M)[i * 4 + r]? = (vcell x)[r]? := by
      intro M
      induction M with
      | nil => intro i h; simp at h
      | cons a l ih =>
        intro i h
        have e : vcells (a :: l) = vcell a ++ vcells l := rfl
        have hl : (vcell a).length = 4 := rfl
        cases i with
        | zero =>
          simp at h
          subst h
          rw [e, Nat.zero_mul, Nat.zero_add, List.getElem?_append_left (by omega)]
        | succ i =>
          rw [e, List.getElem?_append_right (by omega), hl, show (i + 1) * 4 + r - 4 = i * 4 + r by omega]
          exact ih i (by simpa using h)
    exact key M i hx

/-- Appending values to one's own, in a region that draws. -/
theorem wp_appQ (w : World) {o : Oper} {a : Act} {K : Act → World → Prop} {Q : Exit → Act → World → Prop} (s x : Operand)
    (ho : o.op = .call { callee := .builtin .append, args := #[s, x], argTypes := #[34, 34] })
    (n₀ : Nat) (v : Value) (M : List JC) (hs : a.eval s = v) (hown : OwnQ n₀ w v M) (b c : Nat) (y : JC) (hx : a.eval x = .slice (some ⟨b, 0, none⟩) 1 c) (hl : BoxC w b 36 (vcell y).toArray) (h1 : y.2.2.1.oneCell' = true ∧ y.2.2.2.oneCell' = true) (hsum : M.length ≤ 1000000000) (hbase : n₀ ≤ w.heap.size)
    (h : ∀ v' w', OwnQ n₀ w' v' (M ++ [y]) → w.grownBy w' v.ownBlock → (v'.ownBlock = v.ownBlock ∨ v'.ownBlock = some w.heap.size) → K (a.put o.dst v') w') : o.wp Tryz.prog a w K Q := by
  obtain ⟨i0, hi, hz0, hz1, hz2⟩ := info_parts infoQ
  obtain ⟨v', w', hr, h2, h3', _, h5⟩ := run_append_own_at (P := Tryz.prog) w n₀ 34 o.type 36 i0 _ 4 72 Tryz.underlying34 hi hz0 hz1 hz2 rfl (by decide) v M.length (vcells M) hown ⟨b, 0, none⟩ 1 c (vcell y) rfl (by
      intro j u hj
      have := hl.cell j
      rw [addr_plus, Nat.zero_add, this]
      simpa using hj) (by
      intro u hu
      simp only [vcell, List.mem_cons, List.not_mem_nil, or_false] at hu
      rcases hu with rfl | rfl | rfl | rfl
      · rfl
      · rfl
      · exact h1.1
      · exact h1.2) (by unfold maxLen; omega) (by omega) hbase
  have h2' : OwnQ n₀ w' v' (M ++ [y]) := by
    unfold OwnQ
    rw [List.length_append, vcells_append]
    exact h2
  unfold Oper.wp execOp
  simp only [ho, resolve, invoke, builtin, Sem.run_bind, Sem.run_pure, Result.andThen_ok, List.map_toArray, List.map_cons, List.map_nil, hs, hx, hr]
  exact h v' w' h2' h3' h5

theorem results_rv {fn : Func} {i : Tmp} (h : fn.results = #[.cell i 36]) {tmps : Array Value} {W : World} {b : Nat} {x y z u : Value} {t : TypeId} (hp : tmps.getD i undef = .pointer (some ⟨b, 0, none⟩)) (T : BoxC W b t #[x, y, z, u]) :
    (results fn tmps).run Tryz.prog W = .ok (.agg #[x, y, z, u]) W := by
  have c0 : W.cell? ⟨b, 0, none⟩ = some x := T.cell 0
  have c1 : W.cell? ⟨b, 1, none⟩ = some y := T.cell 1
  have c2 : W.cell? ⟨b, 2, none⟩ = some z := T.cell 2
  have c3 : W.cell? ⟨b, 3, none⟩ = some u := T.cell 3
  have hp' : tmps[i]?.getD undef = .pointer (some ⟨b, 0, none⟩) := by simpa using hp
  simp [results, h, hp', go_sem, c0, c1, c2, c3]

end Go.Proofs.YtbdpmpepmjpadaaGreatDoor

namespace Go.Proofs.YtbdpmpepmjpadaaGreatDoor
set_option linter.unusedVariables false
set_option linter.unusedSimpArgs false
set_option maxRecDepth 100000
open Go Go.RowKit Go.Shelf Go.Lib

/-- Where a tree of a call's own may lie. -/
def LiesQ (N : Nat) (w : World) (lv : Value) (b : Nat) : Prop := (b < N ∨ w.heap.size + 3 ≤ b) ∧ lv.ownBlock ≠ some b
/-- A copy on its way. -/
structure OfJQ (N : Nat) (w W : World) (k : Int) (s : ByteArray) (kv iv lv : Value) (L : List JT) (M : List JC) : Prop where
  inb : BoxC W w.heap.size 27 #[.int .i64 k, .string s, kv, iv]
  res : BoxC W (w.heap.size + 1) 36 #[.int .i64 0, .string ⟨#[]⟩, .slice none 0 0, .slice none 0 0]
  box : BoxC W (w.heap.size + 2) 36 #[.int .i64 k, .string s, kv, lv]
  vs : OwnQ (w.heap.size + 3) W lv M
  low : Below w.heap.size w W
  ps : ∀ (q : Nat) (x : JC) (T : JT), M[q]? = some x → L[q]? = some T → TIn W (LiesQ N w lv) x T ∧ IsSl x.2.2.1 ∧ IsSl x.2.2.2
theorem OfJQ.below {N : Nat} {w W W' : World} {k : Int} {s : ByteArray} {kv iv lv : Value} {L : List JT} {M : List JC} (h : OfJQ N w W k s kv iv lv L M) (hb : Below W.heap.size W W') : OfJQ N w W' k s kv iv lv L M :=
  ⟨h.inb.below hb, h.res.below hb, h.box.below hb, h.vs.keep (fun j e => hb.block j (h.vs.lt j e).2), h.low.trans (hb.mono h.low.size), fun q x T hx hT => ⟨(h.ps q x T hx hT).1.bel hb, (h.ps q x T hx hT).2⟩⟩
theorem OfJQ.put {N : Nat} {w W W' : World} {k : Int} {s : ByteArray} {kv iv lv lv' : Value} {L : List JT} {M : List JC} {y : JC} {T : JT} (h : OfJQ N w W k s kv iv lv L M) (hN : N ≤ w.heap.size) (hg : W.grownBy W' lv.ownBlock) (ho : OwnQ (w.heap.size + 3) W' lv' (M ++ [y])) (hrow : lv'.ownBlock = lv.ownBlock ∨ lv'.ownBlock = some W.heap.size)
    (hT : L[M.length]? = some T) (hy : TIn W (LiesQ N w lv) y T) (hy2 : IsSl y.2.2.1) (hy3 : IsSl y.2.2.2) : OfJQ N w (W'.setCell ⟨w.heap.size + 2, 3, none⟩ lv') k s kv iv lv' L (M ++ [y]) := by
  have n0 : some w.heap.size ≠ lv.ownBlock := fun e => by have := (h.vs.lt _ e.symm).1; omega
  have n1 : some (w.heap.size + 1) ≠ lv.ownBlock := fun e => by have := (h.vs.lt _ e.symm).1; omega
  have n2 : some (w.heap.size + 2) ≠ lv.ownBlock := fun e => by have := (h.vs.lt _ e.symm).1; omega
  have hkeep : ∀ b, LiesQ N w lv b → b < W.heap.size → LiesQ N w lv' b ∧ (W'.setCell ⟨w.heap.size + 2, 3, none⟩ lv').heap[b]? = W.heap[b]? := by
    intro b hs hlt
    obtain ⟨h1, h2⟩ := hs
    refine ⟨⟨h1, ?_⟩, ?_⟩
    · rcases hrow with e | e
      · rw [e]
        exact h2
      · rw [e]
        intro q
        simp only [Option.some.injEq] at q
        omega
    · rw [Below.heap_setCell W' ⟨w.heap.size + 2, 3, none⟩ lv' b (by simp only [ne_eq]; omega)]
      exact hg.block b hlt (fun q => h2 q.symm)
  refine ⟨(h.inb.kept hg n0).other (by omega) 3 lv', (h.res.kept hg n1).other (by omega) 3 lv', (h.box.kept hg n2).set 3 lv', ho.set (ho.off (by omega)), (h.low.grown hg h.low.size (fun j e => by have := (h.vs.lt j e).1; omega)).setCell (p := ⟨w.heap.size + 2, 3, none⟩) (by show w.heap.size ≤ w.heap.size + 2; omega) lv', ?_⟩
  intro q x T' hx hT'
  rcases Nat.lt_or_ge q M.length with hq | hq
  · rw [List.getElem?_append_left hq] at hx
    exact ⟨(h.ps q x T' hx hT').1.keep hkeep, (h.ps q x T' hx hT').2⟩
  · rw [List.getElem?_append_right hq] at hx
    obtain rfl : q = M.length := by
      have := (List.getElem?_eq_some_iff.1 hx).1
      simp at this
      omega
    simp at hx
    subst hx
    rw [hT] at hT'
    cases hT'
    exact ⟨hy.keep hkeep, hy2, hy3⟩

theorem OfJQ.lies {N : Nat} {w W : World} {k : Int} {s : ByteArray} {kv iv lv : Value} {L : List JT} {M : List JC} (h : OfJQ N w W k s kv iv lv L M) (hN : N ≤ w.heap.size) (b : Nat) (hb : b < N ∨ W.heap.size ≤ b) : LiesQ N w lv b := by
  have hV := h.box.lt
  refine ⟨?_, fun e => ?_⟩
  · rcases hb with h | h
    · exact .inl h
    · exact .inr (by omega)
  · have := h.vs.lt b e
    rcases hb with h | h <;> omega
theorem OfJQ.mid {N : Nat} {w W W' : World} {k : Int} {s : ByteArray} {kv iv lv : Value} {L : List JT} {M : List JC} (h : OfJQ N w W k s kv iv lv L M) (hg : W.grownBy W' lv.ownBlock) : BoxC W' w.heap.size 27 #[.int .i64 k, .string s, kv, iv] ∧ Below w.heap.size w W' ∧ BoxC W' (w.heap.size + 2) 36 #[.int .i64 k, .string s, kv, lv] :=
  ⟨h.inb.kept hg (fun e => by have := (h.vs.lt _ e.symm).1; omega), h.low.grown hg h.low.size (fun j e => by have := (h.vs.lt j e).1; omega), h.box.kept hg (fun e => by have := (h.vs.lt _ e.symm).1; omega)⟩
theorem OfJQ.tree {N : Nat} {w W : World} {k : Int} {s : ByteArray} {kv iv lv : Value} {K : List ByteArray} {L : List JT} {M : List JC} (h : OfJQ N w W k s kv iv lv L M) (hM : M.length = L.length) (hN : N ≤ w.heap.size) (hK : StrsS w (fun b => b < N) kv K) (x' y' z' u' : Value) :
    TIn ((((W.setCell ⟨w.heap.size + 1, 0, none⟩ x').setCell ⟨w.heap.size + 1, 1, none⟩ y').setCell ⟨w.heap.size + 1, 2, none⟩ z').setCell ⟨w.heap.size + 1, 3, none⟩ u') (fun b => b < N ∨ w.heap.size ≤ b) (k, s, kv, lv) (.mk k s K L) := by
  obtain ⟨ya, yc, hlv, _⟩ := h.vs.len
  have hown := h.vs
  have hps := h.ps
  rw [hM] at hlv
  subst hlv
  have hk : ∀ b, b ≠ w.heap.size + 1 → ((((W.setCell ⟨w.heap.size + 1, 0, none⟩ x').setCell ⟨w.heap.size + 1, 1, none⟩ y').setCell ⟨w.heap.size + 1, 2, none⟩ z').setCell ⟨w.heap.size + 1, 3, none⟩ u').heap[b]? = W.heap[b]? := fun b hb => by
    rw [Below.heap_setCell _ ⟨w.heap.size + 1, 3, none⟩ u' b hb, Below.heap_setCell _ ⟨w.heap.size + 1, 2, none⟩ z' b hb, Below.heap_setCell _ ⟨w.heap.size + 1, 1, none⟩ y' b hb, Below.heap_setCell _ ⟨w.heap.size + 1, 0, none⟩ x' b hb]
  generalize ((((W.setCell ⟨w.heap.size + 1, 0, none⟩ x').setCell ⟨w.heap.size + 1, 1, none⟩ y').setCell ⟨w.heap.size + 1, 2, none⟩ z').setCell ⟨w.heap.size + 1, 3, none⟩ u') = W' at *
  have hex : ∀ i (h : i < L.length), M[i]? = some (M[i]'(by omega)) := fun i h => List.getElem?_eq_getElem (by omega)
  refine .mk k s kv ya yc K L (fun i => (M[i]?).getD (0, ⟨#[]⟩, kv, kv)) (hK.keep fun b hs hlt => ⟨.inl hs, (hk b (by omega)).trans (h.low.block b hlt)⟩) (fun i hi => ?_) (fun i hi => ?_) (fun i hi => ?_)
  · obtain ⟨g, hg, hcl⟩ := hown.cell (hex i hi)
    subst hg
    have hlow := (hown.lt g rfl).1
    refine ⟨g, 0, rfl, .inr (by omega), fun r hr => ?_⟩
    rw [hex i hi, Nat.zero_add]
    exact (World.cell?_of_block (a := ⟨g, i * 4 + r, none⟩) (hk g (by omega))).trans (hcl r hr)
  · rw [hex i hi]
    exact (hps i _ _ (hex i hi) (List.getElem?_eq_getElem hi)).2
  · rw [hex i hi]
    refine (hps i _ _ (hex i hi) (List.getElem?_eq_getElem hi)).1.keep fun b hs hlt => ⟨?_, hk b ?_⟩
    · rcases hs.1 with h | h
      · exact .inl h
      · exact .inr (by omega)
    · rcases hs.1 with h | h
      · omega
      · omega

/-- What it answers. -/
def OfRQ (N : Nat) (w : World) (T : JT) (e : Ending) (w' : World) : Prop := ∃ x : JC, e = .returned (vagg x) ∧ Below w.heap.size w w' ∧ TIn w' (fun b => b < N ∨ w.heap.size ≤ b) x T ∧ IsSl x.2.2.1 ∧ IsSl x.2.2.2

set_option maxHeartbeats 16000000 in
theorem of_any {W : World} {S : Nat → Prop} {x : JC} {T : JT} (h : TIn W S x T) (hl : LtT T) : ∀ (w : World), Below W.heap.size W w → Calls Tryz.prog 10 #[vagg x] w (OfRQ W.heap.size w T) := by
  induction h with
  | mk k s kv la lc K L xs hK hc hsl ht ih =>
    intro w hW
    obtain ⟨_, _, _, _, hKl, hLl, hsz, hll⟩ := hl
    unfold vagg
    simp only
    have hNw := hW.size
    have hKk := hK.keep (W' := w) (S' := fun b => b < W.heap.size) (fun b _ hlt => ⟨hlt, hW.block b hlt⟩)
    obtain ⟨ka, kc, rfl, hKc⟩ := hK
    obtain ⟨kn, hkn⟩ : ∃ kn, K.length = kn := ⟨_, rfl⟩
    obtain ⟨ln, hln⟩ : ∃ ln, L.length = ln := ⟨_, rfl⟩
    rw [hkn] at hKk
    rw [hln] at hLl hc hsl
    rw [hkn, hln]
    have HI : Hid (OfJQ W.heap.size w (((w.alloc (.cells #[.int .i64 k, .string s, .slice ka kn kc, .slice la ln lc] 27)).alloc (.cells #[.int .i64 0, .string ⟨#[]⟩, .slice none 0 0, .slice none 0 0] 36)).alloc (.cells #[.int .i64 k, .string s, .slice ka kn kc, .slice none 0 0] 36)) k s (.slice ka kn kc) (.slice la ln lc) (.slice none 0 0) L []) := by
      have h1 := BoxC.new w 27 #[.int .i64 k, .string s, .slice ka kn kc, .slice la ln lc]
      have h2 := BoxC.new (w.alloc (.cells #[.int .i64 k, .string s, .slice ka kn kc, .slice la ln lc] 27)) 36 #[.int .i64 0, .string ⟨#[]⟩, .slice none 0 0, .slice none 0 0]
      have h3 := BoxC.new ((w.alloc (.cells #[.int .i64 k, .string s, .slice ka kn kc, .slice la ln lc] 27)).alloc (.cells #[.int .i64 0, .string ⟨#[]⟩, .slice none 0 0, .slice none 0 0] 36)) 36 #[.int .i64 k, .string s, .slice ka kn kc, .slice none 0 0]
      simp only [World.size_alloc] at h2 h3
      exact ⟨(h1.alloc _).alloc _, h2.alloc _, h3, ownQ_nil _ _, ((bel w _).alloc (by simp) _).alloc (by simp only [World.size_alloc]; omega) _, fun q x T hx => by simp at hx⟩
    have HPS : Hid (∀ w2, Below w.heap.size w w2 → ∀ i, i < ln → ∃ b off, la = some ⟨b, off, none⟩ ∧ ∀ r, r < 4 → w2.cell? ⟨b, off + (i * 4 + r), none⟩ = (vcell (xs i))[r]?) := fun w2 h2 i hi => by
      obtain ⟨b, off, e, _, hx⟩ := hc i hi
      have hW2 := hW.trans (h2.mono hW.size)
      refine ⟨b, off, e, fun r hr => ?_⟩
      have h0 := hx 0 (by omega)
      simp only [vcell, List.getElem?_cons_zero] at h0
      exact (hW2.cell (p := ⟨b, off + (i * 4 + r), none⟩) (block_lt h0)).trans (hx r hr)
    have HIH : Hid (∀ i (hi : i < L.length) w2, Below w.heap.size w w2 → Calls Tryz.prog 10 #[vagg (xs i)] w2 (OfRQ W.heap.size w2 L[i])) := fun i hi w2 h2 => ih i hi (hll i hi) w2 (hW.trans (h2.mono hW.size))
    have HSL := hide hsl
    have HKK := hide hKk
    have HNW := hide hNw
    have HKN := hide hkn
    have HLN := hide hln
    have HLL := hide hLl
    clear hKc hc hsl ht ih hll hsz hKl hKk hNw hkn hln hLl hW
    go_enter Tryz.func10, Tryz.ntmps10
    go_wp2
    go_loopw [4] (fun iv wr => ∃ (i : Nat) (lv : Value) (M : List JC), i ≤ ln ∧ iv = .int .i64 (i : Int) ∧ M.length = i ∧ OfJQ W.heap.size w wr k s (.slice ka kn kc) (.slice la ln lc) lv L M) (fun iv _ => ln - (RowKit.intOf iv).toNat)
    case atStart => exact ⟨0, _, [], Nat.zero_le _, rfl, rfl, HI.out⟩
    case round =>
      obtain ⟨i, lv, M, hi, rfl, hM, hm⟩ := hrel
      have v3 : wr.cell? ⟨w.heap.size, 3, none⟩ = some (.slice la ln lc) := hm.inb.cell 3
      obtain ⟨ya, yc, hlv, _⟩ := hm.vs.len
      have HMI := hide hM
      have HNI := hide hi
      have HM0 := hide hm
      clear HI hm hM
      subst hlv
      obtain ⟨yl, hyl⟩ : ∃ yl, M.length = yl := ⟨_, rfl⟩
      rw [hyl] at HM0
      have HYL := hide hyl
      clear hyl
      by_cases hlt : i < ln
      · obtain ⟨b, off, rfl, _⟩ := HPS.out w (Below.refl _ _) i hlt
        obtain ⟨hs2, hs3⟩ := HSL.out i hlt
        obtain ⟨Ti, hTi⟩ : ∃ Ti, L[i]? = some Ti := ⟨L[i]'(by have := HLN.out; omega), List.getElem?_eq_getElem _⟩
        have hcall : ∀ w2, Below w.heap.size w w2 → Calls Tryz.prog 10 #[vagg (xs i)] w2 (OfRQ W.heap.size w2 Ti) := fun w2 h2 => by
          obtain ⟨h, rfl⟩ := List.getElem?_eq_some_iff.1 hTi
          exact HIH.out i h w2 h2
        have hparts : ∀ w2, Below w.heap.size w w2 → ∀ r, r < 4 → w2.cell? ⟨b, off + (i * 4 + r), none⟩ = (vcell (xs i))[r]? := fun w2 h2 => by
          obtain ⟨b', off', e, h⟩ := HPS.out w2 h2 i hlt
          cases e
          exact h
        generalize xs i = y at *
        obtain ⟨yk, ys, yK, yL⟩ := y
        simp only [vagg, vcell] at hcall hparts hs2 hs3
        obtain ⟨ka', kl', kc', rfl⟩ := hs2
        obtain ⟨la', ll', lc', rfl⟩ := hs3
        have HSX : Hid (∀ X0 : World, BoxC X0 w.heap.size 27 #[.int .i64 k, .string s, .slice ka kn kc, .slice (some ⟨b, off, none⟩) ln lc] → Below w.heap.size w X0 → (X0.cell? ⟨w.heap.size, 3, none⟩ = some (.slice (some ⟨b, off, none⟩) ln lc) ∧ X0.cell? ⟨b, off + i * 4, none⟩ = some (.int .i64 yk) ∧ X0.cell? ⟨b, off + i * 4 + 1, none⟩ = some (.string ys) ∧ X0.cell? ⟨b, off + i * 4 + 2, none⟩ = some (.slice ka' kl' kc') ∧ X0.cell? ⟨b, off + i * 4 + 3, none⟩ = some (.slice la' ll' lc'))) := fun X0 h1 h2 => by
          have x0 := hparts X0 h2 0 (by omega)
          have x1 := hparts X0 h2 1 (by omega)
          have x2 := hparts X0 h2 2 (by omega)
          have x3 := hparts X0 h2 3 (by omega)
          simp only [List.getElem?_cons_zero, List.getElem?_cons_succ, ← Nat.add_assoc, Nat.add_zero] at x0 x1 x2 x3
          exact ⟨h1.cell 3, x0, x1, x2, x3⟩
        have HCALL := hide hcall
        have HTI := hide hTi
        obtain ⟨i1, hi1⟩ : ∃ i1, i + 1 = i1 := ⟨_, rfl⟩
        have e1 : (i : Int) + 1 = (i1 : Int) := by omega
        have g1 : (i1 : Int) ≤ 1000000000 := by have := HLL.out; omega
        have d1 : (i : Int) < (ln : Int) := by omega
        have d0 : (0 : Int) ≤ (i : Int) := by omega
        have HI1 := hide hi1
        have HIL := hide hlt
        clear hcall hTi hi1 hlt hi hparts
        go_upto_region 5 with fail
        refine wp_region_held_drew (S := fun X0 : World => X0.cell? ⟨w.heap.size, 3, none⟩ = some (.slice (some ⟨b, off, none⟩) ln lc) ∧ X0.cell? ⟨b, off + i * 4, none⟩ = some (.int .i64 yk) ∧ X0.cell? ⟨b, off + i * 4 + 1, none⟩ = some (.string ys) ∧ X0.cell? ⟨b, off + i * 4 + 2, none⟩ = some (.slice ka' kl' kc') ∧ X0.cell? ⟨b, off + i * 4 + 3, none⟩ = some (.slice la' ll' lc')) (by kernel_rfl) (HSX.out _ HM0.out.inb HM0.out.low.drew) (fun hHeld => ?_)
        have hdr : Below wr.heap.size wr wr.drew := (Below.refl _ _).drew
        have HMD := hide (HM0.out.below hdr)
        clear hdr v3
        generalize wr.drew = w8 at *
        refine takeD (i := 0) (v := ?v1) (some 19) rfl (by kernel_rfl) (by kernel_rfl) (by kernel_rfl) (fun _ _ _ h => h) (Or.inl ⟨by rfl, ?hy1⟩) (HSX.out _ HMD.out.inb HMD.out.low) (by rfl) ?rest1
        case hy1 => first | (intro w hSw; (try dsimp only at hSw); obtain ⟨s0, s1, s2, s3, s4⟩ := hSw; go_simp; done) | (intro w hSw; (try dsimp only at hSw); obtain ⟨s0, s1, s2, s3, s4⟩ := hSw; go_simp; with_reducible rfl)
        try simp only [Act.put, List.setIfInBounds_toArray, List.set_cons_zero, List.set_cons_succ, vagg]
        refine takeD (i := 2) (v := ?v2) (some 21) rfl (by kernel_rfl) (by kernel_rfl) (by kernel_rfl) (fun _ _ _ h => h) (Or.inl ⟨by rfl, ?hy2⟩) (HSX.out _ HMD.out.inb HMD.out.low) (by rfl) ?rest2
        case hy2 => first | (intro w hSw; (try dsimp only at hSw); obtain ⟨s0, s1, s2, s3, s4⟩ := hSw; go_simp; done) | (intro w hSw; (try dsimp only at hSw); obtain ⟨s0, s1, s2, s3, s4⟩ := hSw; go_simp; with_reducible rfl)
        try simp only [Act.put, List.setIfInBounds_toArray, List.set_cons_zero, List.set_cons_succ, vagg]
        refine takeD (i := 3) (v := ?v3) (some 22) rfl (by kernel_rfl) (by kernel_rfl) (by kernel_rfl) (fun _ _ _ h => h) (Or.inl ⟨by rfl, ?hy3⟩) (HSX.out _ HMD.out.inb HMD.out.low) (by rfl) ?rest3
        case hy3 => first | (intro w hSw; (try dsimp only at hSw); obtain ⟨s0, s1, s2, s3, s4⟩ := hSw; go_simp; done) | (intro w hSw; (try dsimp only at hSw); obtain ⟨s0, s1, s2, s3, s4⟩ := hSw; go_simp; with_reducible rfl)
        try simp only [Act.put, List.setIfInBounds_toArray, List.set_cons_zero, List.set_cons_succ, vagg]
        refine takeD (i := 4) (v := ?v4) (some 23) rfl (by kernel_rfl) (by kernel_rfl) (by kernel_rfl) (fun _ _ _ h => h) (Or.inl ⟨by rfl, ?hy4⟩) (HSX.out _ HMD.out.inb HMD.out.low) (by rfl) ?rest4
        case hy4 => first | (intro w hSw; (try dsimp only at hSw); obtain ⟨s0, s1, s2, s3, s4⟩ := hSw; go_simp; done) | (intro w hSw; (try dsimp only at hSw); obtain ⟨s0, s1, s2, s3, s4⟩ := hSw; go_simp; with_reducible rfl)
        try simp only [Act.put, List.setIfInBounds_toArray, List.set_cons_zero, List.set_cons_succ, vagg]
        refine takeD (i := 5) (v := ?v5) (some 24) rfl (by kernel_rfl) (by kernel_rfl) (by kernel_rfl) (fun _ _ _ h => h) (Or.inl ⟨by rfl, ?hy5⟩) (HSX.out _ HMD.out.inb HMD.out.low) (by rfl) ?rest5
        case hy5 => first | (intro w hSw; (try dsimp only at hSw); obtain ⟨s0, s1, s2, s3, s4⟩ := hSw; go_simp; done) | (intro w hSw; (try dsimp only at hSw); obtain ⟨s0, s1, s2, s3, s4⟩ := hSw; go_simp; with_reducible rfl)
        try simp only [Act.put, List.setIfInBounds_toArray, List.set_cons_zero, List.set_cons_succ, vagg]
        refine takeD (i := 6) (v := ?v6) (some 25) rfl (by kernel_rfl) (by kernel_rfl) (by kernel_rfl) (fun _ _ _ h => h) (Or.inl ⟨by rfl, ?hy6⟩) (HSX.out _ HMD.out.inb HMD.out.low) (by rfl) ?rest6
        case hy6 => first | (intro w hSw; (try dsimp only at hSw); obtain ⟨s0, s1, s2, s3, s4⟩ := hSw; go_simp; done) | (intro w hSw; (try dsimp only at hSw); obtain ⟨s0, s1, s2, s3, s4⟩ := hSw; go_simp; with_reducible rfl)
        try simp only [Act.put, List.setIfInBounds_toArray, List.set_cons_zero, List.set_cons_succ, vagg]
        refine wpAnyH_ready (rs := [1, 7]) (by kernel_rfl) (by simp) ?_
        refine AllReadyH.cons rfl (fun K hK => ?_) (AllReadyH.cons rfl (fun K hK => ?_) AllReadyH.nil)
        · have clw : w8.cell? ⟨w.heap.size + 2, 3, none⟩ = some (.slice ya yl yc) := HMD.out.box.cell 3
          go_simp
          refine hK.out _ _ (HSX.out _ HMD.out.inb HMD.out.low) (fun _ => ?_)
          clear hK K clw
          try simp only [Act.put, List.setIfInBounds_toArray, List.set_cons_zero, List.set_cons_succ, vagg]
          refine wpAnyH_ready (rs := [7]) (by kernel_rfl) (by simp) ?_
          refine AllReadyH.cons rfl (fun K hK => ?_) AllReadyH.nil
          go_simp
          refine (HCALL.out w8 HMD.out.low).mono ?_
          rintro e w4 ⟨x', rfl, hB4, hT4, hs4, hs5⟩
          obtain ⟨xk, xs', xK, xL⟩ := x'
          simp only at hs4 hs5
          obtain ⟨pa, pn, pc, rfl⟩ := hs4
          obtain ⟨qa, qn, qc, rfl⟩ := hs5
          have HM4 := hide (HMD.out.below hB4)
          have HT4 := hide (hT4.keep (W' := w4) (fun b h _ => And.intro (HMD.out.lies HNW.out b h) rfl))
          refine hK.out _ _ (HSX.out _ HM4.out.inb HM4.out.low) (fun _ => ?_)
          clear hK K hB4 hT4
          try simp only [Act.put, List.setIfInBounds_toArray, List.set_cons_zero, List.set_cons_succ, vagg]
          refine wpAnyH_ready (rs := [8]) (by kernel_rfl) (by simp) ?_
          refine AllReadyH.cons rfl (fun K hK => ?_) AllReadyH.nil
          go_simp
          have hbl := bel w4 (.cells #[.int .i64 xk, .string xs', .slice pa pn pc, .slice qa qn qc] 36)
          have hbx := BoxC.new w4 36 #[.int .i64 xk, .string xs', .slice pa pn pc, .slice qa qn qc]
          have HM5 := hide (HM4.out.below hbl)
          have HT5 := hide (HT4.out.bel hbl)
          refine hK.out _ _ (HSX.out _ HM5.out.inb HM5.out.low) (fun _ => ?_)
          clear hK K hbl
          try simp only [Act.put, List.setIfInBounds_toArray, List.set_cons_zero, List.set_cons_succ, vagg]
          generalize hBn : w4.heap.size = BN at *
          generalize hw5 : w4.alloc (.cells #[.int .i64 xk, .string xs', .slice pa pn pc, .slice qa qn qc] 36) = w5 at *
          have HBX := hide hbx
          clear hbx hw5
          refine wpAnyH_ready (rs := [9]) (by kernel_rfl) (by simp) ?_
          refine AllReadyH.cons rfl (fun K hK => ?_) AllReadyH.nil
          refine wp_appQ _ (.tmp 20) (.tmp 27) rfl (w.heap.size + 3) (.slice ya yl yc) M rfl HM5.out.vs BN _ (xk, xs', .slice pa pn pc, .slice qa qn qc) rfl HBX.out ⟨rfl, rfl⟩ (by have := HMI.out; have := HLL.out; have := HIL.out; omega) (by have := HM5.out.box.lt; omega) ?_
          intro lv' w6 hown hgrow hrow
          obtain ⟨va, vn, vc, rfl⟩ := hown.slice
          have hm6 := HM5.out.put HNW.out hgrow hown hrow (by rw [HMI.out]; exact HTI.out) HT5.out ⟨_, _, _, rfl⟩ ⟨_, _, _, rfl⟩
          obtain ⟨hi6, hl6, hx6⟩ := HM5.out.mid hgrow
          have lV6 := hx6.lt
          have cV6 : w6.cell? ⟨w.heap.size + 2, 3, none⟩ = some (.slice ya yl yc) := hx6.cell 3
          have fV6 : w6.frozen? ⟨w.heap.size + 2, 3, none⟩ = false := hx6.frozen 3
          have HM6 := hide hm6
          have HI6 := hide hi6
          have HL6 := hide hl6
          refine hK.out _ _ (HSX.out _ HI6.out HL6.out) (fun _ => ?_)
          clear hK K hown hgrow hrow hm6 hi6 hl6 hx6
          try simp only [Act.put, List.setIfInBounds_toArray, List.set_cons_zero, List.set_cons_succ, vagg]
          refine takeD (i := 10) (v := ?v7) (some 29) rfl (by kernel_rfl) (by kernel_rfl) (by kernel_rfl) (fun _ _ _ h => h) (Or.inl ⟨by rfl, ?hy7⟩) (HSX.out _ HI6.out HL6.out) (by rfl) ?rest7
          case hy7 => first | (intro w hSw; (try dsimp only at hSw); obtain ⟨s0, s1, s2, s3, s4⟩ := hSw; go_simp; done) | (intro w hSw; (try dsimp only at hSw); obtain ⟨s0, s1, s2, s3, s4⟩ := hSw; go_simp; with_reducible rfl)
          try simp only [Act.put, List.setIfInBounds_toArray, List.set_cons_zero, List.set_cons_succ, vagg]
          refine wpAnyH_ready (rs := [11]) (by kernel_rfl) (by simp) ?_
          refine AllReadyH.cons rfl (fun K hK => ?_) AllReadyH.nil
          go_simp
          refine hK.out _ _ (HSX.out _ HM6.out.inb HM6.out.low) (fun _ => ?_)
          clear hK K
          try simp only [Act.put, List.setIfInBounds_toArray, List.set_cons_zero, List.set_cons_succ, vagg]
          refine wpAnyH_done (by kernel_rfl) ?_ _
          go_wp2
          go_roundw
          case rel =>
            refine ⟨i1, .slice va vn vc, _, by have := HIL.out; have := HI1.out; omega, by first | rfl | go_num, ?_, HM6.out⟩
            rw [List.length_append, HMI.out, ← HI1.out]
            rfl
          case measure => have := HIL.out; have := HI1.out; simp [RowKit.intOf]; omega
        · go_simp
          refine (HCALL.out w8 HMD.out.low).mono ?_
          rintro e w4 ⟨x', rfl, hB4, hT4, hs4, hs5⟩
          obtain ⟨xk, xs', xK, xL⟩ := x'
          simp only at hs4 hs5
          obtain ⟨pa, pn, pc, rfl⟩ := hs4
          obtain ⟨qa, qn, qc, rfl⟩ := hs5
          have HM4 := hide (HMD.out.below hB4)
          have HT4 := hide (hT4.keep (W' := w4) (fun b h _ => And.intro (HMD.out.lies HNW.out b h) rfl))
          refine hK.out _ _ (HSX.out _ HM4.out.inb HM4.out.low) (fun _ => ?_)
          clear hK K hB4 hT4
          try simp only [Act.put, List.setIfInBounds_toArray, List.set_cons_zero, List.set_cons_succ, vagg]
          refine wpAnyH_ready (rs := [1, 8]) (by kernel_rfl) (by simp) ?_
          refine AllReadyH.cons rfl (fun K hK => ?_) (AllReadyH.cons rfl (fun K hK => ?_) AllReadyH.nil)
          · have clw : w4.cell? ⟨w.heap.size + 2, 3, none⟩ = some (.slice ya yl yc) := HM4.out.box.cell 3
            go_simp
            refine hK.out _ _ (HSX.out _ HM4.out.inb HM4.out.low) (fun _ => ?_)
            clear hK K clw
            try simp only [Act.put, List.setIfInBounds_toArray, List.set_cons_zero, List.set_cons_succ, vagg]
            refine wpAnyH_ready (rs := [8]) (by kernel_rfl) (by simp) ?_
            refine AllReadyH.cons rfl (fun K hK => ?_) AllReadyH.nil
            go_simp
            have hbl := bel w4 (.cells #[.int .i64 xk, .string xs', .slice pa pn pc, .slice qa qn qc] 36)
            have hbx := BoxC.new w4 36 #[.int .i64 xk, .string xs', .slice pa pn pc, .slice qa qn qc]
            have HM5 := hide (HM4.out.below hbl)
            have HT5 := hide (HT4.out.bel hbl)
            refine hK.out _ _ (HSX.out _ HM5.out.inb HM5.out.low) (fun _ => ?_)
            clear hK K hbl
            try simp only [Act.put, List.setIfInBounds_toArray, List.set_cons_zero, List.set_cons_succ, vagg]
            generalize hBn : w4.heap.size = BN at *
            generalize hw5 : w4.alloc (.cells #[.int .i64 xk, .string xs', .slice pa pn pc, .slice qa qn qc] 36) = w5 at *
            have HBX := hide hbx
            clear hbx hw5
            refine wpAnyH_ready (rs := [9]) (by kernel_rfl) (by simp) ?_
            refine AllReadyH.cons rfl (fun K hK => ?_) AllReadyH.nil
            refine wp_appQ _ (.tmp 20) (.tmp 27) rfl (w.heap.size + 3) (.slice ya yl yc) M rfl HM5.out.vs BN _ (xk, xs', .slice pa pn pc, .slice qa qn qc) rfl HBX.out ⟨rfl, rfl⟩ (by have := HMI.out; have := HLL.out; have := HIL.out; omega) (by have := HM5.out.box.lt; omega) ?_
            intro lv' w6 hown hgrow hrow
            obtain ⟨va, vn, vc, rfl⟩ := hown.slice
            have hm6 := HM5.out.put HNW.out hgrow hown hrow (by rw [HMI.out]; exact HTI.out) HT5.out ⟨_, _, _, rfl⟩ ⟨_, _, _, rfl⟩
            obtain ⟨hi6, hl6, hx6⟩ := HM5.out.mid hgrow
            have lV6 := hx6.lt
            have cV6 : w6.cell? ⟨w.heap.size + 2, 3, none⟩ = some (.slice ya yl yc) := hx6.cell 3
            have fV6 : w6.frozen? ⟨w.heap.size + 2, 3, none⟩ = false := hx6.frozen 3
            have HM6 := hide hm6
            have HI6 := hide hi6
            have HL6 := hide hl6
            refine hK.out _ _ (HSX.out _ HI6.out HL6.out) (fun _ => ?_)
            clear hK K hown hgrow hrow hm6 hi6 hl6 hx6
            try simp only [Act.put, List.setIfInBounds_toArray, List.set_cons_zero, List.set_cons_succ, vagg]
            refine takeD (i := 10) (v := ?v8) (some 29) rfl (by kernel_rfl) (by kernel_rfl) (by kernel_rfl) (fun _ _ _ h => h) (Or.inl ⟨by rfl, ?hy8⟩) (HSX.out _ HI6.out HL6.out) (by rfl) ?rest8
            case hy8 => first | (intro w hSw; (try dsimp only at hSw); obtain ⟨s0, s1, s2, s3, s4⟩ := hSw; go_simp; done) | (intro w hSw; (try dsimp only at hSw); obtain ⟨s0, s1, s2, s3, s4⟩ := hSw; go_simp; with_reducible rfl)
            try simp only [Act.put, List.setIfInBounds_toArray, List.set_cons_zero, List.set_cons_succ, vagg]
            refine wpAnyH_ready (rs := [11]) (by kernel_rfl) (by simp) ?_
            refine AllReadyH.cons rfl (fun K hK => ?_) AllReadyH.nil
            go_simp
            refine hK.out _ _ (HSX.out _ HM6.out.inb HM6.out.low) (fun _ => ?_)
            clear hK K
            try simp only [Act.put, List.setIfInBounds_toArray, List.set_cons_zero, List.set_cons_succ, vagg]
            refine wpAnyH_done (by kernel_rfl) ?_ _
            go_wp2
            go_roundw
            case rel =>
              refine ⟨i1, .slice va vn vc, _, by have := HIL.out; have := HI1.out; omega, by first | rfl | go_num, ?_, HM6.out⟩
              rw [List.length_append, HMI.out, ← HI1.out]
              rfl
            case measure => have := HIL.out; have := HI1.out; simp [RowKit.intOf]; omega
          · go_simp
            have hbl := bel w4 (.cells #[.int .i64 xk, .string xs', .slice pa pn pc, .slice qa qn qc] 36)
            have hbx := BoxC.new w4 36 #[.int .i64 xk, .string xs', .slice pa pn pc, .slice qa qn qc]
            have HM5 := hide (HM4.out.below hbl)
            have HT5 := hide (HT4.out.bel hbl)
            refine hK.out _ _ (HSX.out _ HM5.out.inb HM5.out.low) (fun _ => ?_)
            clear hK K hbl
            try simp only [Act.put, List.setIfInBounds_toArray, List.set_cons_zero, List.set_cons_succ, vagg]
            generalize hBn : w4.heap.size = BN at *
            generalize hw5 : w4.alloc (.cells #[.int .i64 xk, .string xs', .slice pa pn pc, .slice qa qn qc] 36) = w5 at *
            have HBX := hide hbx
            clear hbx hw5
            refine wpAnyH_ready (rs := [1]) (by kernel_rfl) (by simp) ?_
            refine AllReadyH.cons rfl (fun K hK => ?_) AllReadyH.nil
            have clw : w5.cell? ⟨w.heap.size + 2, 3, none⟩ = some (.slice ya yl yc) := HM5.out.box.cell 3
            go_simp
            refine hK.out _ _ (HSX.out _ HM5.out.inb HM5.out.low) (fun _ => ?_)
            clear hK K clw
            try simp only [Act.put, List.setIfInBounds_toArray, List.set_cons_zero, List.set_cons_succ, vagg]
            refine wpAnyH_ready (rs := [9]) (by kernel_rfl) (by simp) ?_
            refine AllReadyH.cons rfl (fun K hK => ?_) AllReadyH.nil
            refine wp_appQ _ (.tmp 20) (.tmp 27) rfl (w.heap.size + 3) (.slice ya yl yc) M rfl HM5.out.vs BN _ (xk, xs', .slice pa pn pc, .slice qa qn qc) rfl HBX.out ⟨rfl, rfl⟩ (by have := HMI.out; have := HLL.out; have := HIL.out; omega) (by have := HM5.out.box.lt; omega) ?_
            intro lv' w6 hown hgrow hrow
            obtain ⟨va, vn, vc, rfl⟩ := hown.slice
            have hm6 := HM5.out.put HNW.out hgrow hown hrow (by rw [HMI.out]; exact HTI.out) HT5.out ⟨_, _, _, rfl⟩ ⟨_, _, _, rfl⟩
            obtain ⟨hi6, hl6, hx6⟩ := HM5.out.mid hgrow
            have lV6 := hx6.lt
            have cV6 : w6.cell? ⟨w.heap.size + 2, 3, none⟩ = some (.slice ya yl yc) := hx6.cell 3
            have fV6 : w6.frozen? ⟨w.heap.size + 2, 3, none⟩ = false := hx6.frozen 3
            have HM6 := hide hm6
            have HI6 := hide hi6
            have HL6 := hide hl6
            refine hK.out _ _ (HSX.out _ HI6.out HL6.out) (fun _ => ?_)
            clear hK K hown hgrow hrow hm6 hi6 hl6 hx6
            try simp only [Act.put, List.setIfInBounds_toArray, List.set_cons_zero, List.set_cons_succ, vagg]
            refine takeD (i := 10) (v := ?v9) (some 29) rfl (by kernel_rfl) (by kernel_rfl) (by kernel_rfl) (fun _ _ _ h => h) (Or.inl ⟨by rfl, ?hy9⟩) (HSX.out _ HI6.out HL6.out) (by rfl) ?rest9
            case hy9 => first | (intro w hSw; (try dsimp only at hSw); obtain ⟨s0, s1, s2, s3, s4⟩ := hSw; go_simp; done) | (intro w hSw; (try dsimp only at hSw); obtain ⟨s0, s1, s2, s3, s4⟩ := hSw; go_simp; with_reducible rfl)
            try simp only [Act.put, List.setIfInBounds_toArray, List.set_cons_zero, List.set_cons_succ, vagg]
            refine wpAnyH_ready (rs := [11]) (by kernel_rfl) (by simp) ?_
            refine AllReadyH.cons rfl (fun K hK => ?_) AllReadyH.nil
            go_simp
            refine hK.out _ _ (HSX.out _ HM6.out.inb HM6.out.low) (fun _ => ?_)
            clear hK K
            try simp only [Act.put, List.setIfInBounds_toArray, List.set_cons_zero, List.set_cons_succ, vagg]
            refine wpAnyH_done (by kernel_rfl) ?_ _
            go_wp2
            go_roundw
            case rel =>
              refine ⟨i1, .slice va vn vc, _, by have := HIL.out; have := HI1.out; omega, by first | rfl | go_num, ?_, HM6.out⟩
              rw [List.length_append, HMI.out, ← HI1.out]
              rfl
            case measure => have := HIL.out; have := HI1.out; simp [RowKit.intOf]; omega
      · obtain rfl : i = ln := by omega
        have d1 : ¬ (i : Int) < (i : Int) := by omega
        have z0 := HM0.out.box.cell 0
        have z1 := HM0.out.box.cell 1
        have z2 := HM0.out.box.cell 2
        have z3 := HM0.out.box.cell 3
        have x0 := HM0.out.res.cell 0
        have x1 := HM0.out.res.cell 1
        have x2 := HM0.out.res.cell 2
        have x3 := HM0.out.res.cell 3
        simp only [List.getElem?_toArray, List.getElem?_cons_zero, List.getElem?_cons_succ] at z0 z1 z2 z3 x0 x1 x2 x3
        have y0 := HM0.out.res.frozen 0
        have y1 := HM0.out.res.frozen 1
        have y2 := HM0.out.res.frozen 2
        have y3 := HM0.out.res.frozen 3
        have lX := HM0.out.res.lt
        have lV := HM0.out.box.lt
        clear hlt hi
        go_wp2
        refine bodyPost_ret (results_rv rfl rfl (resJ_v HM0.out.res (.int .i64 k) (.string s) (.slice ka kn kc) (.slice ya yl yc))) rfl ?_
        exact ⟨(k, s, .slice ka kn kc, .slice ya yl yc), rfl, below4 HM0.out.low (Nat.le_succ _) _ _ _ _, HM0.out.tree (by rw [HMI.out, HLN.out]) HNW.out HKK.out _ _ _ _, ⟨_, _, _, rfl⟩, ⟨_, _, _, rfl⟩⟩

end Go.Proofs.YtbdpmpepmjpadaaGreatDoor

namespace Go.Proofs.YtbdpmpepmjpadaaGreatDoor
set_option linter.unusedVariables false
set_option linter.unusedSimpArgs false
set_option maxRecDepth 100000
open Go Go.RowKit Go.Shelf Go.Lib

/-- Where a tree of a call's own may lie. -/
def LiesV (N : Nat) (w : World) (lv : Value) (b : Nat) : Prop := (b < N ∨ w.heap.size + 3 ≤ b) ∧ lv.ownBlock ≠ some b
/-- A copy on its way. -/
structure OfJV (N : Nat) (w W : World) (k : Int) (s : ByteArray) (kv iv lv : Value) (L : List JT) (M : List JC) : Prop where
  inb : BoxC W w.heap.size 36 #[.int .i64 k, .string s, kv, iv]
  res : BoxC W (w.heap.size + 1) 27 #[.int .i64 0, .string ⟨#[]⟩, .slice none 0 0, .slice none 0 0]
  box : BoxC W (w.heap.size + 2) 27 #[.int .i64 k, .string s, kv, lv]
  vs : OwnV (w.heap.size + 3) W lv M
  low : Below w.heap.size w W
  ps : ∀ (q : Nat) (x : JC) (T : JT), M[q]? = some x → L[q]? = some T → TIn W (LiesV N w lv) x T ∧ IsSl x.2.2.1 ∧ IsSl x.2.2.2
theorem OfJV.below {N : Nat} {w W W' : World} {k : Int} {s : ByteArray} {kv iv lv : Value} {L : List JT} {M : List JC} (h : OfJV N w W k s kv iv lv L M) (hb : Below W.heap.size W W') : OfJV N w W' k s kv iv lv L M :=
  ⟨h.inb.below hb, h.res.below hb, h.box.below hb, h.vs.keep (fun j e => hb.block j (h.vs.lt j e).2), h.low.trans (hb.mono h.low.size), fun q x T hx hT => ⟨(h.ps q x T hx hT).1.bel hb, (h.ps q x T hx hT).2⟩⟩
theorem OfJV.put {N : Nat} {w W W' : World} {k : Int} {s : ByteArray} {kv iv lv lv' : Value} {L : List JT} {M : List JC} {y : JC} {T : JT} (h : OfJV N w W k s kv iv lv L M) (hN : N ≤ w.heap.size) (hg : W.grownBy W' lv.ownBlock) (ho : OwnV (w.heap.size + 3) W' lv' (M ++ [y])) (hrow : lv'.ownBlock = lv.ownBlock ∨ lv'.ownBlock = some W.heap.size)
    (hT : L[M.length]? = some T) (hy : TIn W (LiesV N w lv) y T) (hy2 : IsSl y.2.2.1) (hy3 : IsSl y.2.2.2) : OfJV N w (W'.setCell ⟨w.heap.size + 2, 3, none⟩ lv') k s kv iv lv' L (M ++ [y]) := by
  have n0 : some w.heap.size ≠ lv.ownBlock := fun e => by have := (h.vs.lt _ e.symm).1; omega
  have n1 : some (w.heap.size + 1) ≠ lv.ownBlock := fun e => by have := (h.vs.lt _ e.symm).1; omega
  have n2 : some (w.heap.size + 2) ≠ lv.ownBlock := fun e => by have := (h.vs.lt _ e.symm).1; omega
  have hkeep : ∀ b, LiesV N w lv b → b < W.heap.size → LiesV N w lv' b ∧ (W'.setCell ⟨w.heap.size + 2, 3, none⟩ lv').heap[b]? = W.heap[b]? := by
    intro b hs hlt
    obtain ⟨h1, h2⟩ := hs
    refine ⟨⟨h1, ?_⟩, ?_⟩
    · rcases hrow with e | e
      · rw [e]
        exact h2
      · rw [e]
        intro q
        simp only [Option.some.injEq] at q
        omega
    · rw [Below.heap_setCell W' ⟨w.heap.size + 2, 3, none⟩ lv' b (by simp only [ne_eq]; omega)]
      exact hg.block b hlt (fun q => h2 q.symm)
  refine ⟨(h.inb.kept hg n0).other (by omega) 3 lv', (h.res.kept hg n1).other (by omega) 3 lv', (h.box.kept hg n2).set 3 lv', ho.set (ho.off (by omega)), (h.low.grown hg h.low.size (fun j e => by have := (h.vs.lt j e).1; omega)).setCell (p := ⟨w.heap.size + 2, 3, none⟩) (by show w.heap.size ≤ w.heap.size + 2; omega) lv', ?_⟩
  intro q x T' hx hT'
  rcases Nat.lt_or_ge q M.length with hq | hq
  · rw [List.getElem?_append_left hq] at hx
    exact ⟨(h.ps q x T' hx hT').1.keep hkeep, (h.ps q x T' hx hT').2⟩
  · rw [List.getElem?_append_right hq] at hx
    obtain rfl : q = M.length := by
      have := (List.getElem?_eq_some_iff.1 hx).1
      simp at this
      omega
    simp at hx
    subst hx
    rw [hT] at hT'
    cases hT'
    exact ⟨hy.keep hkeep, hy2, hy3⟩

theorem OfJV.lies {N : Nat} {w W : World} {k : Int} {s : ByteArray} {kv iv lv : Value} {L : List JT} {M : List JC} (h : OfJV N w W k s kv iv lv L M) (hN : N ≤ w.heap.size) (b : Nat) (hb : b < N ∨ W.heap.size ≤ b) : LiesV N w lv b := by
  have hV := h.box.lt
  refine ⟨?_, fun e => ?_⟩
  · rcases hb with h | h
    · exact .inl h
    · exact .inr (by omega)
  · have := h.vs.lt b e
    rcases hb with h | h <;> omega
theorem OfJV.mid {N : Nat} {w W W' : World} {k : Int} {s : ByteArray} {kv iv lv : Value} {L : List JT} {M : List JC} (h : OfJV N w W k s kv iv lv L M) (hg : W.grownBy W' lv.ownBlock) : BoxC W' w.heap.size 36 #[.int .i64 k, .string s, kv, iv] ∧ Below w.heap.size w W' ∧ BoxC W' (w.heap.size + 2) 27 #[.int .i64 k, .string s, kv, lv] :=
  ⟨h.inb.kept hg (fun e => by have := (h.vs.lt _ e.symm).1; omega), h.low.grown hg h.low.size (fun j e => by have := (h.vs.lt j e).1; omega), h.box.kept hg (fun e => by have := (h.vs.lt _ e.symm).1; omega)⟩
theorem OfJV.tree {N : Nat} {w W : World} {k : Int} {s : ByteArray} {kv iv lv : Value} {K : List ByteArray} {L : List JT} {M : List JC} (h : OfJV N w W k s kv iv lv L M) (hM : M.length = L.length) (hN : N ≤ w.heap.size) (hK : StrsS w (fun b => b < N) kv K) (x' y' z' u' : Value) :
    TIn ((((W.setCell ⟨w.heap.size + 1, 0, none⟩ x').setCell ⟨w.heap.size + 1, 1, none⟩ y').setCell ⟨w.heap.size + 1, 2, none⟩ z').setCell ⟨w.heap.size + 1, 3, none⟩ u') (fun b => b < N ∨ w.heap.size ≤ b) (k, s, kv, lv) (.mk k s K L) := by
  obtain ⟨ya, yc, hlv, _⟩ := h.vs.len
  have hown := h.vs
  have hps := h.ps
  rw [hM] at hlv
  subst hlv
  have hk : ∀ b, b ≠ w.heap.size + 1 → ((((W.setCell ⟨w.heap.size + 1, 0, none⟩ x').setCell ⟨w.heap.size + 1, 1, none⟩ y').setCell ⟨w.heap.size + 1, 2, none⟩ z').setCell ⟨w.heap.size + 1, 3, none⟩ u').heap[b]? = W.heap[b]? := fun b hb => by
    rw [Below.heap_setCell _ ⟨w.heap.size + 1, 3, none⟩ u' b hb, Below.heap_setCell _ ⟨w.heap.size + 1, 2, none⟩ z' b hb, Below.heap_setCell _ ⟨w.heap.size + 1, 1, none⟩ y' b hb, Below.heap_setCell _ ⟨w.heap.size + 1, 0, none⟩ x' b hb]
  generalize ((((W.setCell ⟨w.heap.size + 1, 0, none⟩ x').setCell ⟨w.heap.size + 1, 1, none⟩ y').setCell ⟨w.heap.size + 1, 2, none⟩ z').setCell ⟨w.heap.size + 1, 3, none⟩ u') = W' at *
  have hex : ∀ i (h : i < L.length), M[i]? = some (M[i]'(by omega)) := fun i h => List.getElem?_eq_getElem (by omega)
  refine .mk k s kv ya yc K L (fun i => (M[i]?).getD (0, ⟨#[]⟩, kv, kv)) (hK.keep fun b hs hlt => ⟨.inl hs, (hk b (by omega)).trans (h.low.block b hlt)⟩) (fun i hi => ?_) (fun i hi => ?_) (fun i hi => ?_)
  · obtain ⟨g, hg, hcl⟩ := hown.cell (hex i hi)
    subst hg
    have hlow := (hown.lt g rfl).1
    refine ⟨g, 0, rfl, .inr (by omega), fun r hr => ?_⟩
    rw [hex i hi, Nat.zero_add]
    exact (World.cell?_of_block (a := ⟨g, i * 4 + r, none⟩) (hk g (by omega))).trans (hcl r hr)
  · rw [hex i hi]
    exact (hps i _ _ (hex i hi) (List.getElem?_eq_getElem hi)).2
  · rw [hex i hi]
    refine (hps i _ _ (hex i hi) (List.getElem?_eq_getElem hi)).1.keep fun b hs hlt => ⟨?_, hk b ?_⟩
    · rcases hs.1 with h | h
      · exact .inl h
      · exact .inr (by omega)
    · rcases hs.1 with h | h
      · omega
      · omega

/-- What it answers. -/
def OfRV (N : Nat) (w : World) (T : JT) (e : Ending) (w' : World) : Prop := ∃ x : JC, e = .returned (vagg x) ∧ Below w.heap.size w w' ∧ TIn w' (fun b => b < N ∨ w.heap.size ≤ b) x T ∧ IsSl x.2.2.1 ∧ IsSl x.2.2.2

set_option maxHeartbeats 16000000 in
theorem to_any {W : World} {S : Nat → Prop} {x : JC} {T : JT} (h : TIn W S x T) (hl : LtT T) : ∀ (w : World), Below W.heap.size W w → Calls Tryz.prog 13 #[vagg x] w (OfRV W.heap.size w T) := by
  induction h with
  | mk k s kv la lc K L xs hK hc hsl ht ih =>
    intro w hW
    obtain ⟨_, _, _, _, hKl, hLl, hsz, hll⟩ := hl
    unfold vagg
    simp only
    have hNw := hW.size
    have hKk := hK.keep (W' := w) (S' := fun b => b < W.heap.size) (fun b _ hlt => ⟨hlt, hW.block b hlt⟩)
    obtain ⟨ka, kc, rfl, hKc⟩ := hK
    obtain ⟨kn, hkn⟩ : ∃ kn, K.length = kn := ⟨_, rfl⟩
    obtain ⟨ln, hln⟩ : ∃ ln, L.length = ln := ⟨_, rfl⟩
    rw [hkn] at hKk
    rw [hln] at hLl hc hsl
    rw [hkn, hln]
    have HI : Hid (OfJV W.heap.size w (((w.alloc (.cells #[.int .i64 k, .string s, .slice ka kn kc, .slice la ln lc] 36)).alloc (.cells #[.int .i64 0, .string ⟨#[]⟩, .slice none 0 0, .slice none 0 0] 27)).alloc (.cells #[.int .i64 k, .string s, .slice ka kn kc, .slice none 0 0] 27)) k s (.slice ka kn kc) (.slice la ln lc) (.slice none 0 0) L []) := by
      have h1 := BoxC.new w 36 #[.int .i64 k, .string s, .slice ka kn kc, .slice la ln lc]
      have h2 := BoxC.new (w.alloc (.cells #[.int .i64 k, .string s, .slice ka kn kc, .slice la ln lc] 36)) 27 #[.int .i64 0, .string ⟨#[]⟩, .slice none 0 0, .slice none 0 0]
      have h3 := BoxC.new ((w.alloc (.cells #[.int .i64 k, .string s, .slice ka kn kc, .slice la ln lc] 36)).alloc (.cells #[.int .i64 0, .string ⟨#[]⟩, .slice none 0 0, .slice none 0 0] 27)) 27 #[.int .i64 k, .string s, .slice ka kn kc, .slice none 0 0]
      simp only [World.size_alloc] at h2 h3
      exact ⟨(h1.alloc _).alloc _, h2.alloc _, h3, ownV_nil _ _, ((bel w _).alloc (by simp) _).alloc (by simp only [World.size_alloc]; omega) _, fun q x T hx => by simp at hx⟩
    have HPS : Hid (∀ w2, Below w.heap.size w w2 → ∀ i, i < ln → ∃ b off, la = some ⟨b, off, none⟩ ∧ ∀ r, r < 4 → w2.cell? ⟨b, off + (i * 4 + r), none⟩ = (vcell (xs i))[r]?) := fun w2 h2 i hi => by
      obtain ⟨b, off, e, _, hx⟩ := hc i hi
      have hW2 := hW.trans (h2.mono hW.size)
      refine ⟨b, off, e, fun r hr => ?_⟩
      have h0 := hx 0 (by omega)
      simp only [vcell, List.getElem?_cons_zero] at h0
      exact (hW2.cell (p := ⟨b, off + (i * 4 + r), none⟩) (block_lt h0)).trans (hx r hr)
    have HIH : Hid (∀ i (hi : i < L.length) w2, Below w.heap.size w w2 → Calls Tryz.prog 13 #[vagg (xs i)] w2 (OfRV W.heap.size w2 L[i])) := fun i hi w2 h2 => ih i hi (hll i hi) w2 (hW.trans (h2.mono hW.size))
    have HSL := hide hsl
    have HKK := hide hKk
    have HNW := hide hNw
    have HKN := hide hkn
    have HLN := hide hln
    have HLL := hide hLl
    clear hKc hc hsl ht ih hll hsz hKl hKk hNw hkn hln hLl hW
    go_enter Tryz.func13, Tryz.ntmps13
    go_wp2
    go_loopw [4] (fun iv wr => ∃ (i : Nat) (lv : Value) (M : List JC), i ≤ ln ∧ iv = .int .i64 (i : Int) ∧ M.length = i ∧ OfJV W.heap.size w wr k s (.slice ka kn kc) (.slice la ln lc) lv L M) (fun iv _ => ln - (RowKit.intOf iv).toNat)
    case atStart => exact ⟨0, _, [], Nat.zero_le _, rfl, rfl, HI.out⟩
    case round =>
      obtain ⟨i, lv, M, hi, rfl, hM, hm⟩ := hrel
      have v3 : wr.cell? ⟨w.heap.size, 3, none⟩ = some (.slice la ln lc) := hm.inb.cell 3
      obtain ⟨ya, yc, hlv, _⟩ := hm.vs.len
      have HMI := hide hM
      have HNI := hide hi
      have HM0 := hide hm
      clear HI hm hM
      subst hlv
      obtain ⟨yl, hyl⟩ : ∃ yl, M.length = yl := ⟨_, rfl⟩
      rw [hyl] at HM0
      have HYL := hide hyl
      clear hyl
      by_cases hlt : i < ln
      · obtain ⟨b, off, rfl, _⟩ := HPS.out w (Below.refl _ _) i hlt
        obtain ⟨hs2, hs3⟩ := HSL.out i hlt
        obtain ⟨Ti, hTi⟩ : ∃ Ti, L[i]? = some Ti := ⟨L[i]'(by have := HLN.out; omega), List.getElem?_eq_getElem _⟩
        have hcall : ∀ w2, Below w.heap.size w w2 → Calls Tryz.prog 13 #[vagg (xs i)] w2 (OfRV W.heap.size w2 Ti) := fun w2 h2 => by
          obtain ⟨h, rfl⟩ := List.getElem?_eq_some_iff.1 hTi
          exact HIH.out i h w2 h2
        have hparts : ∀ w2, Below w.heap.size w w2 → ∀ r, r < 4 → w2.cell? ⟨b, off + (i * 4 + r), none⟩ = (vcell (xs i))[r]? := fun w2 h2 => by
          obtain ⟨b', off', e, h⟩ := HPS.out w2 h2 i hlt
          cases e
          exact h
        generalize xs i = y at *
        obtain ⟨yk, ys, yK, yL⟩ := y
        simp only [vagg, vcell] at hcall hparts hs2 hs3
        obtain ⟨ka', kl', kc', rfl⟩ := hs2
        obtain ⟨la', ll', lc', rfl⟩ := hs3
        have HSX : Hid (∀ X0 : World, BoxC X0 w.heap.size 36 #[.int .i64 k, .string s, .slice ka kn kc, .slice (some ⟨b, off, none⟩) ln lc] → Below w.heap.size w X0 → (X0.cell? ⟨w.heap.size, 3, none⟩ = some (.slice (some ⟨b, off, none⟩) ln lc) ∧ X0.cell? ⟨b, off + i * 4, none⟩ = some (.int .i64 yk) ∧ X0.cell? ⟨b, off + i * 4 + 1, none⟩ = some (.string ys) ∧ X0.cell? ⟨b, off + i * 4 + 2, none⟩ = some (.slice ka' kl' kc') ∧ X0.cell? ⟨b, off + i * 4 + 3, none⟩ = some (.slice la' ll' lc'))) := fun X0 h1 h2 => by
          have x0 := hparts X0 h2 0 (by omega)
          have x1 := hparts X0 h2 1 (by omega)
          have x2 := hparts X0 h2 2 (by omega)
          have x3 := hparts X0 h2 3 (by omega)
          simp only [List.getElem?_cons_zero, List.getElem?_cons_succ, ← Nat.add_assoc, Nat.add_zero] at x0 x1 x2 x3
          exact ⟨h1.cell 3, x0, x1, x2, x3⟩
        have HCALL := hide hcall
        have HTI := hide hTi
        obtain ⟨i1, hi1⟩ : ∃ i1, i + 1 = i1 := ⟨_, rfl⟩
        have e1 : (i : Int) + 1 = (i1 : Int) := by omega
        have g1 : (i1 : Int) ≤ 1000000000 := by have := HLL.out; omega
        have d1 : (i : Int) < (ln : Int) := by omega
        have d0 : (0 : Int) ≤ (i : Int) := by omega
        have HI1 := hide hi1
        have HIL := hide hlt
        clear hcall hTi hi1 hlt hi hparts
        go_upto_region 5 with fail
        refine wp_region_held_drew (S := fun X0 : World => X0.cell? ⟨w.heap.size, 3, none⟩ = some (.slice (some ⟨b, off, none⟩) ln lc) ∧ X0.cell? ⟨b, off + i * 4, none⟩ = some (.int .i64 yk) ∧ X0.cell? ⟨b, off + i * 4 + 1, none⟩ = some (.string ys) ∧ X0.cell? ⟨b, off + i * 4 + 2, none⟩ = some (.slice ka' kl' kc') ∧ X0.cell? ⟨b, off + i * 4 + 3, none⟩ = some (.slice la' ll' lc')) (by kernel_rfl) (HSX.out _ HM0.out.inb HM0.out.low.drew) (fun hHeld => ?_)
        have hdr : Below wr.heap.size wr wr.drew := (Below.refl _ _).drew
        have HMD := hide (HM0.out.below hdr)
        clear hdr v3
        generalize wr.drew = w8 at *
        refine takeD (i := 0) (v := ?v1) (some 19) rfl (by kernel_rfl) (by kernel_rfl) (by kernel_rfl) (fun _ _ _ h => h) (Or.inl ⟨by rfl, ?hy1⟩) (HSX.out _ HMD.out.inb HMD.out.low) (by rfl) ?rest1
        case hy1 => first | (intro w hSw; (try dsimp only at hSw); obtain ⟨s0, s1, s2, s3, s4⟩ := hSw; go_simp; done) | (intro w hSw; (try dsimp only at hSw); obtain ⟨s0, s1, s2, s3, s4⟩ := hSw; go_simp; with_reducible rfl)
        try simp only [Act.put, List.setIfInBounds_toArray, List.set_cons_zero, List.set_cons_succ, vagg]
        refine takeD (i := 2) (v := ?v2) (some 21) rfl (by kernel_rfl) (by kernel_rfl) (by kernel_rfl) (fun _ _ _ h => h) (Or.inl ⟨by rfl, ?hy2⟩) (HSX.out _ HMD.out.inb HMD.out.low) (by rfl) ?rest2
        case hy2 => first | (intro w hSw; (try dsimp only at hSw); obtain ⟨s0, s1, s2, s3, s4⟩ := hSw; go_simp; done) | (intro w hSw; (try dsimp only at hSw); obtain ⟨s0, s1, s2, s3, s4⟩ := hSw; go_simp; with_reducible rfl)
        try simp only [Act.put, List.setIfInBounds_toArray, List.set_cons_zero, List.set_cons_succ, vagg]
        refine takeD (i := 3) (v := ?v3) (some 22) rfl (by kernel_rfl) (by kernel_rfl) (by kernel_rfl) (fun _ _ _ h => h) (Or.inl ⟨by rfl, ?hy3⟩) (HSX.out _ HMD.out.inb HMD.out.low) (by rfl) ?rest3
        case hy3 => first | (intro w hSw; (try dsimp only at hSw); obtain ⟨s0, s1, s2, s3, s4⟩ := hSw; go_simp; done) | (intro w hSw; (try dsimp only at hSw); obtain ⟨s0, s1, s2, s3, s4⟩ := hSw; go_simp; with_reducible rfl)
        try simp only [Act.put, List.setIfInBounds_toArray, List.set_cons_zero, List.set_cons_succ, vagg]
        refine takeD (i := 4) (v := ?v4) (some 23) rfl (by kernel_rfl) (by kernel_rfl) (by kernel_rfl) (fun _ _ _ h => h) (Or.inl ⟨by rfl, ?hy4⟩) (HSX.out _ HMD.out.inb HMD.out.low) (by rfl) ?rest4
        case hy4 => first | (intro w hSw; (try dsimp only at hSw); obtain ⟨s0, s1, s2, s3, s4⟩ := hSw; go_simp; done) | (intro w hSw; (try dsimp only at hSw); obtain ⟨s0, s1, s2, s3, s4⟩ := hSw; go_simp; with_reducible rfl)
        try simp only [Act.put, List.setIfInBounds_toArray, List.set_cons_zero, List.set_cons_succ, vagg]
        refine takeD (i := 5) (v := ?v5) (some 24) rfl (by kernel_rfl) (by kernel_rfl) (by kernel_rfl) (fun _ _ _ h => h) (Or.inl ⟨by rfl, ?hy5⟩) (HSX.out _ HMD.out.inb HMD.out.low) (by rfl) ?rest5
        case hy5 => first | (intro w hSw; (try dsimp only at hSw); obtain ⟨s0, s1, s2, s3, s4⟩ := hSw; go_simp; done) | (intro w hSw; (try dsimp only at hSw); obtain ⟨s0, s1, s2, s3, s4⟩ := hSw; go_simp; with_reducible rfl)
        try simp only [Act.put, List.setIfInBounds_toArray, List.set_cons_zero, List.set_cons_succ, vagg]
        refine takeD (i := 6) (v := ?v6) (some 25) rfl (by kernel_rfl) (by kernel_rfl) (by kernel_rfl) (fun _ _ _ h => h) (Or.inl ⟨by rfl, ?hy6⟩) (HSX.out _ HMD.out.inb HMD.out.low) (by rfl) ?rest6
        case hy6 => first | (intro w hSw; (try dsimp only at hSw); obtain ⟨s0, s1, s2, s3, s4⟩ := hSw; go_simp; done) | (intro w hSw; (try dsimp only at hSw); obtain ⟨s0, s1, s2, s3, s4⟩ := hSw; go_simp; with_reducible rfl)
        try simp only [Act.put, List.setIfInBounds_toArray, List.set_cons_zero, List.set_cons_succ, vagg]
        refine wpAnyH_ready (rs := [1, 7]) (by kernel_rfl) (by simp) ?_
        refine AllReadyH.cons rfl (fun K hK => ?_) (AllReadyH.cons rfl (fun K hK => ?_) AllReadyH.nil)
        · have clw : w8.cell? ⟨w.heap.size + 2, 3, none⟩ = some (.slice ya yl yc) := HMD.out.box.cell 3
          go_simp
          refine hK.out _ _ (HSX.out _ HMD.out.inb HMD.out.low) (fun _ => ?_)
          clear hK K clw
          try simp only [Act.put, List.setIfInBounds_toArray, List.set_cons_zero, List.set_cons_succ, vagg]
          refine wpAnyH_ready (rs := [7]) (by kernel_rfl) (by simp) ?_
          refine AllReadyH.cons rfl (fun K hK => ?_) AllReadyH.nil
          go_simp
          refine (HCALL.out w8 HMD.out.low).mono ?_
          rintro e w4 ⟨x', rfl, hB4, hT4, hs4, hs5⟩
          obtain ⟨xk, xs', xK, xL⟩ := x'
          simp only at hs4 hs5
          obtain ⟨pa, pn, pc, rfl⟩ := hs4
          obtain ⟨qa, qn, qc, rfl⟩ := hs5
          have HM4 := hide (HMD.out.below hB4)
          have HT4 := hide (hT4.keep (W' := w4) (fun b h _ => And.intro (HMD.out.lies HNW.out b h) rfl))
          refine hK.out _ _ (HSX.out _ HM4.out.inb HM4.out.low) (fun _ => ?_)
          clear hK K hB4 hT4
          try simp only [Act.put, List.setIfInBounds_toArray, List.set_cons_zero, List.set_cons_succ, vagg]
          refine wpAnyH_ready (rs := [8]) (by kernel_rfl) (by simp) ?_
          refine AllReadyH.cons rfl (fun K hK => ?_) AllReadyH.nil
          go_simp
          have hbl := bel w4 (.cells #[.int .i64 xk, .string xs', .slice pa pn pc, .slice qa qn qc] 27)
          have hbx := BoxC.new w4 27 #[.int .i64 xk, .string xs', .slice pa pn pc, .slice qa qn qc]
          have HM5 := hide (HM4.out.below hbl)
          have HT5 := hide (HT4.out.bel hbl)
          refine hK.out _ _ (HSX.out _ HM5.out.inb HM5.out.low) (fun _ => ?_)
          clear hK K hbl
          try simp only [Act.put, List.setIfInBounds_toArray, List.set_cons_zero, List.set_cons_succ, vagg]
          generalize hBn : w4.heap.size = BN at *
          generalize hw5 : w4.alloc (.cells #[.int .i64 xk, .string xs', .slice pa pn pc, .slice qa qn qc] 27) = w5 at *
          have HBX := hide hbx
          clear hbx hw5
          refine wpAnyH_ready (rs := [9]) (by kernel_rfl) (by simp) ?_
          refine AllReadyH.cons rfl (fun K hK => ?_) AllReadyH.nil
          refine wp_appV _ (.tmp 20) (.tmp 27) rfl (w.heap.size + 3) (.slice ya yl yc) M rfl HM5.out.vs BN _ (xk, xs', .slice pa pn pc, .slice qa qn qc) rfl HBX.out ⟨rfl, rfl⟩ (by have := HMI.out; have := HLL.out; have := HIL.out; omega) (by have := HM5.out.box.lt; omega) ?_
          intro lv' w6 hown hgrow hrow
          obtain ⟨va, vn, vc, rfl⟩ := hown.slice
          have hm6 := HM5.out.put HNW.out hgrow hown hrow (by rw [HMI.out]; exact HTI.out) HT5.out ⟨_, _, _, rfl⟩ ⟨_, _, _, rfl⟩
          obtain ⟨hi6, hl6, hx6⟩ := HM5.out.mid hgrow
          have lV6 := hx6.lt
          have cV6 : w6.cell? ⟨w.heap.size + 2, 3, none⟩ = some (.slice ya yl yc) := hx6.cell 3
          have fV6 : w6.frozen? ⟨w.heap.size + 2, 3, none⟩ = false := hx6.frozen 3
          have HM6 := hide hm6
          have HI6 := hide hi6
          have HL6 := hide hl6
          refine hK.out _ _ (HSX.out _ HI6.out HL6.out) (fun _ => ?_)
          clear hK K hown hgrow hrow hm6 hi6 hl6 hx6
          try simp only [Act.put, List.setIfInBounds_toArray, List.set_cons_zero, List.set_cons_succ, vagg]
          refine takeD (i := 10) (v := ?v7) (some 29) rfl (by kernel_rfl) (by kernel_rfl) (by kernel_rfl) (fun _ _ _ h => h) (Or.inl ⟨by rfl, ?hy7⟩) (HSX.out _ HI6.out HL6.out) (by rfl) ?rest7
          case hy7 => first | (intro w hSw; (try dsimp only at hSw); obtain ⟨s0, s1, s2, s3, s4⟩ := hSw; go_simp; done) | (intro w hSw; (try dsimp only at hSw); obtain ⟨s0, s1, s2, s3, s4⟩ := hSw; go_simp; with_reducible rfl)
          try simp only [Act.put, List.setIfInBounds_toArray, List.set_cons_zero, List.set_cons_succ, vagg]
          refine wpAnyH_ready (rs := [11]) (by kernel_rfl) (by simp) ?_
          refine AllReadyH.cons rfl (fun K hK => ?_) AllReadyH.nil
          go_simp
          refine hK.out _ _ (HSX.out _ HM6.out.inb HM6.out.low) (fun _ => ?_)
          clear hK K
          try simp only [Act.put, List.setIfInBounds_toArray, List.set_cons_zero, List.set_cons_succ, vagg]
          refine wpAnyH_done (by kernel_rfl) ?_ _
          go_wp2
          go_roundw
          case rel =>
            refine ⟨i1, .slice va vn vc, _, by have := HIL.out; have := HI1.out; omega, by first | rfl | go_num, ?_, HM6.out⟩
            rw [List.length_append, HMI.out, ← HI1.out]
            rfl
          case measure => have := HIL.out; have := HI1.out; simp [RowKit.intOf]; omega
        · go_simp
          refine (HCALL.out w8 HMD.out.low).mono ?_
          rintro e w4 ⟨x', rfl, hB4, hT4, hs4, hs5⟩
          obtain ⟨xk, xs', xK, xL⟩ := x'
          simp only at hs4 hs5
          obtain ⟨pa, pn, pc, rfl⟩ := hs4
          obtain ⟨qa, qn, qc, rfl⟩ := hs5
          have HM4 := hide (HMD.out.below hB4)
          have HT4 := hide (hT4.keep (W' := w4) (fun b h _ => And.intro (HMD.out.lies HNW.out b h) rfl))
          refine hK.out _ _ (HSX.out _ HM4.out.inb HM4.out.low) (fun _ => ?_)
          clear hK K hB4 hT4
          try simp only [Act.put, List.setIfInBounds_toArray, List.set_cons_zero, List.set_cons_succ, vagg]
          refine wpAnyH_ready (rs := [1, 8]) (by kernel_rfl) (by simp) ?_
          refine AllReadyH.cons rfl (fun K hK => ?_) (AllReadyH.cons rfl (fun K hK => ?_) AllReadyH.nil)
          · have clw : w4.cell? ⟨w.heap.size + 2, 3, none⟩ = some (.slice ya yl yc) := HM4.out.box.cell 3
            go_simp
            refine hK.out _ _ (HSX.out _ HM4.out.inb HM4.out.low) (fun _ => ?_)
            clear hK K clw
            try simp only [Act.put, List.setIfInBounds_toArray, List.set_cons_zero, List.set_cons_succ, vagg]
            refine wpAnyH_ready (rs := [8]) (by kernel_rfl) (by simp) ?_
            refine AllReadyH.cons rfl (fun K hK => ?_) AllReadyH.nil
            go_simp
            have hbl := bel w4 (.cells #[.int .i64 xk, .string xs', .slice pa pn pc, .slice qa qn qc] 27)
            have hbx := BoxC.new w4 27 #[.int .i64 xk, .string xs', .slice pa pn pc, .slice qa qn qc]
            have HM5 := hide (HM4.out.below hbl)
            have HT5 := hide (HT4.out.bel hbl)
            refine hK.out _ _ (HSX.out _ HM5.out.inb HM5.out.low) (fun _ => ?_)
            clear hK K hbl
            try simp only [Act.put, List.setIfInBounds_toArray, List.set_cons_zero, List.set_cons_succ, vagg]
            generalize hBn : w4.heap.size = BN at *
            generalize hw5 : w4.alloc (.cells #[.int .i64 xk, .string xs', .slice pa pn pc, .slice qa qn qc] 27) = w5 at *
            have HBX := hide hbx
            clear hbx hw5
            refine wpAnyH_ready (rs := [9]) (by kernel_rfl) (by simp) ?_
            refine AllReadyH.cons rfl (fun K hK => ?_) AllReadyH.nil
            refine wp_appV _ (.tmp 20) (.tmp 27) rfl (w.heap.size + 3) (.slice ya yl yc) M rfl HM5.out.vs BN _ (xk, xs', .slice pa pn pc, .slice qa qn qc) rfl HBX.out ⟨rfl, rfl⟩ (by have := HMI.out; have := HLL.out; have := HIL.out; omega) (by have := HM5.out.box.lt; omega) ?_
            intro lv' w6 hown hgrow hrow
            obtain ⟨va, vn, vc, rfl⟩ := hown.slice
            have hm6 := HM5.out.put HNW.out hgrow hown hrow (by rw [HMI.out]; exact HTI.out) HT5.out ⟨_, _, _, rfl⟩ ⟨_, _, _, rfl⟩
            obtain ⟨hi6, hl6, hx6⟩ := HM5.out.mid hgrow
            have lV6 := hx6.lt
            have cV6 : w6.cell? ⟨w.heap.size + 2, 3, none⟩ = some (.slice ya yl yc) := hx6.cell 3
            have fV6 : w6.frozen? ⟨w.heap.size + 2, 3, none⟩ = false := hx6.frozen 3
            have HM6 := hide hm6
            have HI6 := hide hi6
            have HL6 := hide hl6
            refine hK.out _ _ (HSX.out _ HI6.out HL6.out) (fun _ => ?_)
            clear hK K hown hgrow hrow hm6 hi6 hl6 hx6
            try simp only [Act.put, List.setIfInBounds_toArray, List.set_cons_zero, List.set_cons_succ, vagg]
            refine takeD (i := 10) (v := ?v8) (some 29) rfl (by kernel_rfl) (by kernel_rfl) (by kernel_rfl) (fun _ _ _ h => h) (Or.inl ⟨by rfl, ?hy8⟩) (HSX.out _ HI6.out HL6.out) (by rfl) ?rest8
            case hy8 => first | (intro w hSw; (try dsimp only at hSw); obtain ⟨s0, s1, s2, s3, s4⟩ := hSw; go_simp; done) | (intro w hSw; (try dsimp only at hSw); obtain ⟨s0, s1, s2, s3, s4⟩ := hSw; go_simp; with_reducible rfl)
            try simp only [Act.put, List.setIfInBounds_toArray, List.set_cons_zero, List.set_cons_succ, vagg]
            refine wpAnyH_ready (rs := [11]) (by kernel_rfl) (by simp) ?_
            refine AllReadyH.cons rfl (fun K hK => ?_) AllReadyH.nil
            go_simp
            refine hK.out _ _ (HSX.out _ HM6.out.inb HM6.out.low) (fun _ => ?_)
            clear hK K
            try simp only [Act.put, List.setIfInBounds_toArray, List.set_cons_zero, List.set_cons_succ, vagg]
            refine wpAnyH_done (by kernel_rfl) ?_ _
            go_wp2
            go_roundw
            case rel =>
              refine ⟨i1, .slice va vn vc, _, by have := HIL.out; have := HI1.out; omega, by first | rfl | go_num, ?_, HM6.out⟩
              rw [List.length_append, HMI.out, ← HI1.out]
              rfl
            case measure => have := HIL.out; have := HI1.out; simp [RowKit.intOf]; omega
          · go_simp
            have hbl := bel w4 (.cells #[.int .i64 xk, .string xs', .slice pa pn pc, .slice qa qn qc] 27)
            have hbx := BoxC.new w4 27 #[.int .i64 xk, .string xs', .slice pa pn pc, .slice qa qn qc]
            have HM5 := hide (HM4.out.below hbl)
            have HT5 := hide (HT4.out.bel hbl)
            refine hK.out _ _ (HSX.out _ HM5.out.inb HM5.out.low) (fun _ => ?_)
            clear hK K hbl
            try simp only [Act.put, List.setIfInBounds_toArray, List.set_cons_zero, List.set_cons_succ, vagg]
            generalize hBn : w4.heap.size = BN at *
            generalize hw5 : w4.alloc (.cells #[.int .i64 xk, .string xs', .slice pa pn pc, .slice qa qn qc] 27) = w5 at *
            have HBX := hide hbx
            clear hbx hw5
            refine wpAnyH_ready (rs := [1]) (by kernel_rfl) (by simp) ?_
            refine AllReadyH.cons rfl (fun K hK => ?_) AllReadyH.nil
            have clw : w5.cell? ⟨w.heap.size + 2, 3, none⟩ = some (.slice ya yl yc) := HM5.out.box.cell 3
            go_simp
            refine hK.out _ _ (HSX.out _ HM5.out.inb HM5.out.low) (fun _ => ?_)
            clear hK K clw
            try simp only [Act.put, List.setIfInBounds_toArray, List.set_cons_zero, List.set_cons_succ, vagg]
            refine wpAnyH_ready (rs := [9]) (by kernel_rfl) (by simp) ?_
            refine AllReadyH.cons rfl (fun K hK => ?_) AllReadyH.nil
            refine wp_appV _ (.tmp 20) (.tmp 27) rfl (w.heap.size + 3) (.slice ya yl yc) M rfl HM5.out.vs BN _ (xk, xs', .slice pa pn pc, .slice qa qn qc) rfl HBX.out ⟨rfl, rfl⟩ (by have := HMI.out; have := HLL.out; have := HIL.out; omega) (by have := HM5.out.box.lt; omega) ?_
            intro lv' w6 hown hgrow hrow
            obtain ⟨va, vn, vc, rfl⟩ := hown.slice
            have hm6 := HM5.out.put HNW.out hgrow hown hrow (by rw [HMI.out]; exact HTI.out) HT5.out ⟨_, _, _, rfl⟩ ⟨_, _, _, rfl⟩
            obtain ⟨hi6, hl6, hx6⟩ := HM5.out.mid hgrow
            have lV6 := hx6.lt
            have cV6 : w6.cell? ⟨w.heap.size + 2, 3, none⟩ = some (.slice ya yl yc) := hx6.cell 3
            have fV6 : w6.frozen? ⟨w.heap.size + 2, 3, none⟩ = false := hx6.frozen 3
            have HM6 := hide hm6
            have HI6 := hide hi6
            have HL6 := hide hl6
            refine hK.out _ _ (HSX.out _ HI6.out HL6.out) (fun _ => ?_)
            clear hK K hown hgrow hrow hm6 hi6 hl6 hx6
            try simp only [Act.put, List.setIfInBounds_toArray, List.set_cons_zero, List.set_cons_succ, vagg]
            refine takeD (i := 10) (v := ?v9) (some 29) rfl (by kernel_rfl) (by kernel_rfl) (by kernel_rfl) (fun _ _ _ h => h) (Or.inl ⟨by rfl, ?hy9⟩) (HSX.out _ HI6.out HL6.out) (by rfl) ?rest9
            case hy9 => first | (intro w hSw; (try dsimp only at hSw); obtain ⟨s0, s1, s2, s3, s4⟩ := hSw; go_simp; done) | (intro w hSw; (try dsimp only at hSw); obtain ⟨s0, s1, s2, s3, s4⟩ := hSw; go_simp; with_reducible rfl)
            try simp only [Act.put, List.setIfInBounds_toArray, List.set_cons_zero, List.set_cons_succ, vagg]
            refine wpAnyH_ready (rs := [11]) (by kernel_rfl) (by simp) ?_
            refine AllReadyH.cons rfl (fun K hK => ?_) AllReadyH.nil
            go_simp
            refine hK.out _ _ (HSX.out _ HM6.out.inb HM6.out.low) (fun _ => ?_)
            clear hK K
            try simp only [Act.put, List.setIfInBounds_toArray, List.set_cons_zero, List.set_cons_succ, vagg]
            refine wpAnyH_done (by kernel_rfl) ?_ _
            go_wp2
            go_roundw
            case rel =>
              refine ⟨i1, .slice va vn vc, _, by have := HIL.out; have := HI1.out; omega, by first | rfl | go_num, ?_, HM6.out⟩
              rw [List.length_append, HMI.out, ← HI1.out]
              rfl
            case measure => have := HIL.out; have := HI1.out; simp [RowKit.intOf]; omega
      · obtain rfl : i = ln := by omega
        have d1 : ¬ (i : Int) < (i : Int) := by omega
        have z0 := HM0.out.box.cell 0
        have z1 := HM0.out.box.cell 1
        have z2 := HM0.out.box.cell 2
        have z3 := HM0.out.box.cell 3
        have x0 := HM0.out.res.cell 0
        have x1 := HM0.out.res.cell 1
        have x2 := HM0.out.res.cell 2
        have x3 := HM0.out.res.cell 3
        simp only [List.getElem?_toArray, List.getElem?_cons_zero, List.getElem?_cons_succ] at z0 z1 z2 z3 x0 x1 x2 x3
        have y0 := HM0.out.res.frozen 0
        have y1 := HM0.out.res.frozen 1
        have y2 := HM0.out.res.frozen 2
        have y3 := HM0.out.res.frozen 3
        have lX := HM0.out.res.lt
        have lV := HM0.out.box.lt
        clear hlt hi
        go_wp2
        refine bodyPost_ret (results_jv rfl rfl (resJ_v HM0.out.res (.int .i64 k) (.string s) (.slice ka kn kc) (.slice ya yl yc))) rfl ?_
        exact ⟨(k, s, .slice ka kn kc, .slice ya yl yc), rfl, below4 HM0.out.low (Nat.le_succ _) _ _ _ _, HM0.out.tree (by rw [HMI.out, HLN.out]) HNW.out HKK.out _ _ _ _, ⟨_, _, _, rfl⟩, ⟨_, _, _, rfl⟩⟩

end Go.Proofs.YtbdpmpepmjpadaaGreatDoor

namespace Go.Proofs.YtbdpmpepmjpadaaGreatDoor
set_option linter.unusedVariables false
set_option linter.unusedSimpArgs false
set_option maxRecDepth 100000
open Go Go.RowKit Go.Shelf Go.Lib

def CountR (w : World) (e : Ending) (w' : World) : Prop := ∃ n d : Int, e = .returned (.tuple #[.int .i64 n, .int .i64 d]) ∧ Below w.heap.size w w'

end Go.Proofs.YtbdpmpepmjpadaaGreatDoor

namespace Go.Proofs.YtbdpmpepmjpadaaGreatDoor
set_option linter.unusedVariables false
set_option linter.unusedSimpArgs false
set_option maxRecDepth 100000
open Go Go.RowKit Go.Shelf Go.Lib

theorem TIn.sl {W : World} {S : Nat → Prop} {x : JC} {T : JT} (h : TIn W S x T) : IsSl x.2.2.1 ∧ IsSl x.2.2.2 := by
  cases h with
  | mk k s kv la lc K L xs hK hc hsl ht =>
    obtain ⟨ao, cap, rfl, _⟩ := hK
    exact ⟨⟨_, _, _, rfl⟩, ⟨_, _, _, rfl⟩⟩

end Go.Proofs.YtbdpmpepmjpadaaGreatDoor

namespace Go.Proofs.YtbdpmpepmjpadaaGreatDoor
set_option linter.unusedVariables false
set_option linter.unusedSimpArgs false
set_option maxRecDepth 100000
open Go Go.RowKit Go.Shelf Go.Lib

mutual
/-- Are two trees the same? -/
def eqJ : JT → JT → Bool
  | .mk k s K L, .mk k' s' K' L' =>
    if k ≠ k' then false
    else if k = 3 ∨ k = 4 then decide (s = s')
    else if k = 5 then eqJs L L'
    else if k = 6 then decide (K = K') && eqJs L L'
    else true
def eqJs : List JT → List JT → Bool
  | [], [] => true
  | a :: l, b :: m => eqJ a b && eqJs l m
  | _, _ => false
end

theorem eqJs_iff : ∀ (L M : List JT), eqJs L M = true ↔ L.length = M.length ∧ ∀ (i : Nat) (a b : JT), L[i]? = some a → M[i]? = some b → eqJ a b = true
  | [], [] => by simp [eqJs]
  | [], b :: m => by simp [eqJs]
  | a :: l, [] => by simp [eqJs]
  | a :: l, b :: m => by
    rw [eqJs, Bool.and_eq_true, eqJs_iff l m]
    constructor
    · rintro ⟨h1, h2, h3⟩
      refine ⟨by simp [h2], fun i x y hx hy => ?_⟩
      cases i with
      | zero => simp at hx hy; subst hx hy; exact h1
      | succ i => exact h3 i x y (by simpa using hx) (by simpa using hy)
    · rintro ⟨h1, h2⟩
      exact ⟨h2 0 a b rfl rfl, by simpa using h1, fun i x y hx hy => h2 (i + 1) x y (by simpa using hx) (by simpa using hy)⟩
theorem eqJ_kind {k k' : Int} {s s' : ByteArray} {K K' : List ByteArray} {L L' : List JT} (h : k ≠ k') : eqJ (.mk k s K L) (.mk k' s' K' L') = false := by rw [eqJ, if_pos h]
theorem eqJ_text {k : Int} {s s' : ByteArray} {K K' : List ByteArray} {L L' : List JT} (h : k = 3 ∨ k = 4) : eqJ (.mk k s K L) (.mk k s' K' L') = decide (s = s') := by rw [eqJ, if_neg (by simp), if_pos h]
theorem eqJ_plain {k : Int} {s s' : ByteArray} {K K' : List ByteArray} {L L' : List JT} (h3 : k ≠ 3) (h4 : k ≠ 4) (h5 : k ≠ 5) (h6 : k ≠ 6) : eqJ (.mk k s K L) (.mk k s' K' L') = true := by rw [eqJ, if_neg (by simp), if_neg (by omega), if_neg h5, if_neg h6]
theorem eqJ_five {s s' : ByteArray} {K K' : List ByteArray} {L L' : List JT} : eqJ (.mk 5 s K L) (.mk 5 s' K' L') = eqJs L L' := by rw [eqJ, if_neg (by simp), if_neg (by omega), if_pos rfl]
theorem eqJ_six {s s' : ByteArray} {K K' : List ByteArray} {L L' : List JT} : eqJ (.mk 6 s K L) (.mk 6 s' K' L') = (decide (K = K') && eqJs L L') := by rw [eqJ, if_neg (by simp), if_neg (by omega), if_neg (by omega), if_pos rfl]
/-- What decides of two that have parts. -/
theorem eqJ_parts {k : Int} (h : k = 5 ∨ k = 6) {s s' : ByteArray} {K K' : List ByteArray} {L L' : List JT} : eqJ (.mk k s K L) (.mk k s' K' L') = true ↔ (k = 6 → K = K') ∧ L.length = L'.length ∧ ∀ (i : Nat) (a b : JT), L[i]? = some a → L'[i]? = some b → eqJ a b = true := by
  rcases h with rfl | rfl
  · rw [eqJ_five, eqJs_iff]
    exact ⟨fun h => ⟨fun e => absurd e (by omega), h⟩, fun h => h.2⟩
  · rw [eqJ_six, Bool.and_eq_true, eqJs_iff, decide_eq_true_iff]
    exact ⟨fun h => ⟨fun _ => h.1, h.2⟩, fun h => ⟨h.1 rfl, h.2⟩⟩
/-- Rows of strings: the same, or other somewhere. -/
theorem keys_same {K K' : List ByteArray} (h : K.length = K'.length) (hq : ∀ j, j < K.length → nthS K j = nthS K' j) : K = K' := by
  apply List.ext_getElem h
  intro i h1 h2
  have := hq i h1
  simpa [nthS, h1, h2] using this

end Go.Proofs.YtbdpmpepmjpadaaGreatDoor

namespace Go.Proofs.YtbdpmpepmjpadaaGreatDoor
set_option linter.unusedVariables false
set_option linter.unusedSimpArgs false
set_option maxRecDepth 100000
open Go Go.RowKit Go.Shelf Go.Lib

def REqR (w : World) (T T' : JT) (e : Ending) (w' : World) : Prop := e = .returned (.bool (eqJ T T')) ∧ Below w.heap.size w w'

theorem str_ne {s u : ByteArray} (h : s ≠ u) : (s.toList == u.toList) = false := by
  have h1 : s.data ≠ u.data := fun e => h (by cases s; cases u; simpa using e)
  rw [toList_data, toList_data]
  simpa using h1

set_option maxHeartbeats 16000000 in
theorem requal_any {W : World} {S : Nat → Prop} {x : JC} {T : JT} (h : TIn W S x T) (hl : LtT T) : ∀ {S' : Nat → Prop} {y : JC} {T' : JT}, TIn W S' y T' → LtT T' → ∀ (w : World), Below W.heap.size W w → Calls Tryz.prog 9 #[vagg x, vagg y] w (REqR w T T') := by
  induction h with
  | mk k s kv la lc K L xs hK hc hsl ht ih =>
    intro S' y T' hy hl' w hW
    cases hy with
    | mk k' s' kv' la' lc' K' L' ys hK' hc' hsl' ht' =>
    obtain ⟨_, _, _, _, hKl, hLl, hsz, hll⟩ := hl
    obtain ⟨_, _, _, _, hKl', hLl', hsz', hll'⟩ := hl'
    obtain ⟨ka, kc, rfl, hKc⟩ := hK
    obtain ⟨ka', kc', rfl, hKc'⟩ := hK'
    unfold vagg
    simp only
    have hb1 : Below w.heap.size w ((w.alloc (.cells #[.int .i64 k, .string s, .slice ka K.length kc, .slice la L.length lc] 36)).alloc (.cells #[.int .i64 k', .string s', .slice ka' K'.length kc', .slice la' L'.length lc'] 36)) := (bel w _).alloc (by simp) _
    have hx1 := (BoxC.new w 36 #[.int .i64 k, .string s, .slice ka K.length kc, .slice la L.length lc]).alloc (.cells #[.int .i64 k', .string s', .slice ka' K'.length kc', .slice la' L'.length lc'] 36)
    have hy1 := BoxC.new (w.alloc (.cells #[.int .i64 k, .string s, .slice ka K.length kc, .slice la L.length lc] 36)) 36 #[.int .i64 k', .string s', .slice ka' K'.length kc', .slice la' L'.length lc']
    rw [World.size_alloc] at hy1
    obtain ⟨w1, hw1⟩ : ∃ w1, (w.alloc (.cells #[.int .i64 k, .string s, .slice ka K.length kc, .slice la L.length lc] 36)).alloc (.cells #[.int .i64 k', .string s', .slice ka' K'.length kc', .slice la' L'.length lc'] 36) = w1 := ⟨_, rfl⟩
    rw [hw1] at hb1 hx1 hy1
    have hW1 := hW.trans (hb1.mono hW.size)
    have HIH : Hid (∀ i (hi : i < L.length) (hi' : i < L'.length) w2, Below w1.heap.size w1 w2 → Calls Tryz.prog 9 #[vagg (xs i), vagg (ys i)] w2 (REqR w2 L[i] L'[i])) := fun i hi hi' w2 h2 => ih i hi (hll i hi) (ht' i hi') (hll' i hi') w2 (hW1.trans (h2.mono hW1.size))
    have HV : Hid (∀ w2, Below w1.heap.size w1 w2 → w2.cell? ⟨w.heap.size, 0, none⟩ = some (.int .i64 k) ∧ w2.cell? ⟨w.heap.size, 1, none⟩ = some (.string s) ∧ w2.cell? ⟨w.heap.size, 2, none⟩ = some (.slice ka K.length kc) ∧ w2.cell? ⟨w.heap.size, 3, none⟩ = some (.slice la L.length lc) ∧ w2.cell? ⟨w.heap.size + 1, 0, none⟩ = some (.int .i64 k') ∧ w2.cell? ⟨w.heap.size + 1, 1, none⟩ = some (.string s') ∧ w2.cell? ⟨w.heap.size + 1, 2, none⟩ = some (.slice ka' K'.length kc') ∧ w2.cell? ⟨w.heap.size + 1, 3, none⟩ = some (.slice la' L'.length lc')) := fun w2 h2 => ⟨(hx1.below h2).cell 0, (hx1.below h2).cell 1, (hx1.below h2).cell 2, (hx1.below h2).cell 3, (hy1.below h2).cell 0, (hy1.below h2).cell 1, (hy1.below h2).cell 2, (hy1.below h2).cell 3⟩
    obtain ⟨kn, hkn⟩ : ∃ kn, K.length = kn := ⟨_, rfl⟩
    obtain ⟨ln, hln⟩ : ∃ ln, L.length = ln := ⟨_, rfl⟩
    obtain ⟨kn', hkn'⟩ : ∃ kn, K'.length = kn := ⟨_, rfl⟩
    obtain ⟨ln', hln'⟩ : ∃ ln, L'.length = ln := ⟨_, rfl⟩
    have HKN := hide hkn
    have HLN := hide hln
    have HKN' := hide hkn'
    have HLN' := hide hln'
    rw [hkn, hln, hkn', hln'] at HV
    have HKC : Hid (∀ w2, Below w1.heap.size w1 w2 → ∀ j, j < kn → ∃ b off, ka = some ⟨b, off, none⟩ ∧ w2.cell? ⟨b, off + j, none⟩ = some (.string (nthS K j))) := fun w2 h2 j hj => by
      obtain ⟨b, off, e, _, hx⟩ := hKc j (by omega)
      exact ⟨b, off, e, ((hW1.trans (h2.mono hW1.size)).cell (p := ⟨b, off + j, none⟩) (block_lt hx)).trans hx⟩
    have HLC : Hid (∀ w2, Below w1.heap.size w1 w2 → ∀ i, i < ln → ∃ b off, la = some ⟨b, off, none⟩ ∧ ∀ r, r < 4 → w2.cell? ⟨b, off + (i * 4 + r), none⟩ = (vcell (xs i))[r]?) := fun w2 h2 i hi => by
      obtain ⟨b, off, e, _, hx⟩ := hc i (by omega)
      refine ⟨b, off, e, fun r hr => ?_⟩
      have h0 := hx 0 (by omega)
      simp only [vcell, List.getElem?_cons_zero] at h0
      exact ((hW1.trans (h2.mono hW1.size)).cell (p := ⟨b, off + (i * 4 + r), none⟩) (block_lt h0)).trans (hx r hr)
    have HSL : Hid (∀ i, i < ln → IsSl (xs i).2.2.1 ∧ IsSl (xs i).2.2.2) := fun i hi => hsl i (by omega)
    have HKC' : Hid (∀ w2, Below w1.heap.size w1 w2 → ∀ j, j < kn' → ∃ b off, ka' = some ⟨b, off, none⟩ ∧ w2.cell? ⟨b, off + j, none⟩ = some (.string (nthS K' j))) := fun w2 h2 j hj => by
      obtain ⟨b, off, e, _, hx⟩ := hKc' j (by omega)
      exact ⟨b, off, e, ((hW1.trans (h2.mono hW1.size)).cell (p := ⟨b, off + j, none⟩) (block_lt hx)).trans hx⟩
    have HLC' : Hid (∀ w2, Below w1.heap.size w1 w2 → ∀ i, i < ln' → ∃ b off, la' = some ⟨b, off, none⟩ ∧ ∀ r, r < 4 → w2.cell? ⟨b, off + (i * 4 + r), none⟩ = (vcell (ys i))[r]?) := fun w2 h2 i hi => by
      obtain ⟨b, off, e, _, hx⟩ := hc' i (by omega)
      refine ⟨b, off, e, fun r hr => ?_⟩
      have h0 := hx 0 (by omega)
      simp only [vcell, List.getElem?_cons_zero] at h0
      exact ((hW1.trans (h2.mono hW1.size)).cell (p := ⟨b, off + (i * 4 + r), none⟩) (block_lt h0)).trans (hx r hr)
    have HSL' : Hid (∀ i, i < ln' → IsSl (ys i).2.2.1 ∧ IsSl (ys i).2.2.2) := fun i hi => hsl' i (by omega)
    have HH : Hid (ln ≤ 1000000 ∧ kn ≤ 1000000) := ⟨by omega, by omega⟩
    have HW1 := hide hw1
    have HB1 := hide hb1
    rw [hkn, hln, hkn', hln'] at HW1 ⊢
    clear hw1 hb1 hx1 hy1 hW1 hW ih ht ht' hc hc' hsl hsl' hKc hKc' hll hll' hKl hKl' hLl hLl' hsz hsz' hkn hln hkn' hln'
    by_cases hk : k = k'
    rotate_left
    · obtain ⟨v0, v1, v2, v3, u0, u1, u2, u3⟩ := HV.out _ (Below.refl _ _)
      have d1 : (k != k') = true := by simpa using hk
      have HKK := hide hk
      clear hk
      go_enter Tryz.func9, Tryz.ntmps9
      go_upto_region 1 with fail
      rw [HW1.out]
      clear HW1
      go_wp2
      go_ret
      refine ⟨?_, HB1.out⟩
      rw [eqJ_kind HKK.out]
      rfl
    subst hk
    by_cases h3 : k = 3
    · subst h3
      by_cases hs : s = s'
      · subst hs
        obtain ⟨v0, v1, v2, v3, u0, u1, u2, u3⟩ := HV.out _ (Below.refl _ _)
        go_enter Tryz.func9, Tryz.ntmps9
        go_upto_region 1 with fail
        rw [HW1.out]
        clear HW1
        go_wp2
        go_ret
        refine ⟨?_, HB1.out⟩
        rw [eqJ_text (by omega), decide_eq_true rfl]
        rfl
      · obtain ⟨v0, v1, v2, v3, u0, u1, u2, u3⟩ := HV.out _ (Below.refl _ _)
        have d1 : (s.toList == s'.toList) = false := str_ne hs
        have HKK := hide hs
        clear hs
        go_enter Tryz.func9, Tryz.ntmps9
        go_upto_region 1 with fail
        rw [HW1.out]
        clear HW1
        go_wp2
        go_ret
        refine ⟨?_, HB1.out⟩
        rw [eqJ_text (by omega), decide_eq_false HKK.out]
        rfl
    by_cases h4 : k = 4
    · subst h4
      by_cases hs : s = s'
      · subst hs
        obtain ⟨v0, v1, v2, v3, u0, u1, u2, u3⟩ := HV.out _ (Below.refl _ _)
        go_enter Tryz.func9, Tryz.ntmps9
        go_upto_region 1 with fail
        rw [HW1.out]
        clear HW1
        go_wp2
        go_ret
        refine ⟨?_, HB1.out⟩
        rw [eqJ_text (by omega), decide_eq_true rfl]
        rfl
      · obtain ⟨v0, v1, v2, v3, u0, u1, u2, u3⟩ := HV.out _ (Below.refl _ _)
        have d1 : (s.toList == s'.toList) = false := str_ne hs
        have HKK := hide hs
        clear hs
        go_enter Tryz.func9, Tryz.ntmps9
        go_upto_region 1 with fail
        rw [HW1.out]
        clear HW1
        go_wp2
        go_ret
        refine ⟨?_, HB1.out⟩
        rw [eqJ_text (by omega), decide_eq_false HKK.out]
        rfl
    by_cases h5 : k = 5
    · subst h5
      clear h3 h4
      by_cases hL : ln = ln'
      rotate_left
      · obtain ⟨v0, v1, v2, v3, u0, u1, u2, u3⟩ := HV.out _ (Below.refl _ _)
        have d1 : ((ln : Int) != (ln' : Int)) = true := by simp; omega
        have HKK := hide hL
        clear hL
        go_enter Tryz.func9, Tryz.ntmps9
        go_upto_region 1 with fail
        rw [HW1.out]
        clear HW1
        go_wp2
        go_ret
        refine ⟨?_, HB1.out⟩
        have hf : eqJ (.mk 5 s K L) (.mk 5 s' K' L') = false := Bool.eq_false_iff.2 (fun h => by have := ((eqJ_parts (.inl rfl)).1 h).2.1; have := HKK.out; have := HLN.out; have := HLN'.out; omega)
        rw [hf]
        rfl
      subst hL
      by_cases hz : kn = 0
      · subst hz
        obtain ⟨v0, v1, v2, v3, u0, u1, u2, u3⟩ := HV.out _ (Below.refl _ _)
        go_enter Tryz.func9, Tryz.ntmps9
        go_upto_region 1 with fail
        rw [HW1.out]
        clear HW1
        go_wp2
        go_loopw [5] (fun iv wr => iv = .int .i64 0 ∧ w1 = wr) (fun _ _ => 0)
        case atStart => exact ⟨rfl, rfl⟩
        case round =>
          obtain ⟨rfl, rfl⟩ := hrel
          have HB2 := hide (Below.refl w1.heap.size w1)
          go_wp2
          go_loopw [6] (fun iv wr => ∃ i : Nat, i ≤ ln ∧ iv = .int .i64 (i : Int) ∧ Below w1.heap.size w1 wr ∧ ∀ (q : Nat) (a b : JT), q < i → L[q]? = some a → L'[q]? = some b → eqJ a b = true) (fun iv _ => ln - (RowKit.intOf iv).toNat)
          case atStart => exact ⟨0, Nat.zero_le _, rfl, HB2.out, fun q _ _ h => by omega⟩
          case round =>
            obtain ⟨i, hi, rfl, hB, hL⟩ := hrel
            have HL := hide hL
            have HBR := hide hB
            clear hL hB HB2
            generalize wr = wo at *
            obtain ⟨v0, v1, v2, v3, u0, u1, u2, u3⟩ := HV.out wo HBR.out
            by_cases hlt : i < ln
            · obtain ⟨b, off, rfl, _⟩ := HLC.out w1 (Below.refl _ _) i hlt
              obtain ⟨b', off', rfl, _⟩ := HLC'.out w1 (Below.refl _ _) i hlt
              obtain ⟨hs2, hs3⟩ := HSL.out i hlt
              obtain ⟨hs4, hs5⟩ := HSL'.out i hlt
              obtain ⟨Ti, hTi⟩ : ∃ Ti, L[i]? = some Ti := ⟨L[i]'(by have := HLN.out; omega), List.getElem?_eq_getElem _⟩
              obtain ⟨Ui, hUi⟩ : ∃ Ui, L'[i]? = some Ui := ⟨L'[i]'(by have := HLN'.out; omega), List.getElem?_eq_getElem _⟩
              have hcall : ∀ w2, Below w1.heap.size w1 w2 → Calls Tryz.prog 9 #[vagg (xs i), vagg (ys i)] w2 (REqR w2 Ti Ui) := fun w2 h2 => by
                obtain ⟨h, rfl⟩ := List.getElem?_eq_some_iff.1 hTi
                obtain ⟨h', rfl⟩ := List.getElem?_eq_some_iff.1 hUi
                exact HIH.out i h h' w2 h2
              have hp : ∀ w2, Below w1.heap.size w1 w2 → ∀ r, r < 4 → w2.cell? ⟨b, off + (i * 4 + r), none⟩ = (vcell (xs i))[r]? := fun w2 h2 => by
                obtain ⟨_, _, e, h⟩ := HLC.out w2 h2 i hlt
                cases e
                exact h
              have hp' : ∀ w2, Below w1.heap.size w1 w2 → ∀ r, r < 4 → w2.cell? ⟨b', off' + (i * 4 + r), none⟩ = (vcell (ys i))[r]? := fun w2 h2 => by
                obtain ⟨_, _, e, h⟩ := HLC'.out w2 h2 i hlt
                cases e
                exact h
              generalize xs i = y at *
              obtain ⟨yk, ys', yK, yL⟩ := y
              generalize ys i = z at *
              obtain ⟨zk, zs, zK, zL⟩ := z
              simp only [vagg, vcell] at hcall hp hp' hs2 hs3 hs4 hs5
              obtain ⟨pa, pn, pc, rfl⟩ := hs2
              obtain ⟨qa, qn, qc, rfl⟩ := hs3
              obtain ⟨pa', pn', pc', rfl⟩ := hs4
              obtain ⟨qa', qn', qc', rfl⟩ := hs5
              have HSX : Hid (∀ X0 : World, Below w1.heap.size w1 X0 → (X0.cell? ⟨w.heap.size, 3, none⟩ = some (.slice (some ⟨b, off, none⟩) ln lc) ∧ X0.cell? ⟨w.heap.size + 1, 3, none⟩ = some (.slice (some ⟨b', off', none⟩) ln lc') ∧ X0.cell? ⟨b, off + i * 4, none⟩ = some (.int .i64 yk) ∧ X0.cell? ⟨b, off + i * 4 + 1, none⟩ = some (.string ys') ∧ X0.cell? ⟨b, off + i * 4 + 2, none⟩ = some (.slice pa pn pc) ∧ X0.cell? ⟨b, off + i * 4 + 3, none⟩ = some (.slice qa qn qc) ∧ X0.cell? ⟨b', off' + i * 4, none⟩ = some (.int .i64 zk) ∧ X0.cell? ⟨b', off' + i * 4 + 1, none⟩ = some (.string zs) ∧ X0.cell? ⟨b', off' + i * 4 + 2, none⟩ = some (.slice pa' pn' pc') ∧ X0.cell? ⟨b', off' + i * 4 + 3, none⟩ = some (.slice qa' qn' qc'))) := fun X0 h2 => by
                have x0 := hp X0 h2 0 (by omega)
                have x1 := hp X0 h2 1 (by omega)
                have x2 := hp X0 h2 2 (by omega)
                have x3 := hp X0 h2 3 (by omega)
                have y0 := hp' X0 h2 0 (by omega)
                have y1 := hp' X0 h2 1 (by omega)
                have y2 := hp' X0 h2 2 (by omega)
                have y3 := hp' X0 h2 3 (by omega)
                simp only [List.getElem?_cons_zero, List.getElem?_cons_succ, ← Nat.add_assoc, Nat.add_zero] at x0 x1 x2 x3 y0 y1 y2 y3
                obtain ⟨_, _, _, t3, _, _, _, t7⟩ := HV.out X0 h2
                exact ⟨t3, t7, x0, x1, x2, x3, y0, y1, y2, y3⟩
              have HCALL := hide hcall
              have HTI := hide hTi
              have HUI := hide hUi
              obtain ⟨i1, hi1⟩ : ∃ i1, i + 1 = i1 := ⟨_, rfl⟩
              have e1 : (i : Int) + 1 = (i1 : Int) := by omega
              have g1 : (i1 : Int) ≤ 1000000000 := by have := HH.out; omega
              have d1 : (i : Int) < (ln : Int) := by omega
              have d0 : (0 : Int) ≤ (i : Int) := by omega
              have HI := hide (And.intro hlt hi1)
              clear hcall hTi hUi hi1 hlt hi hp hp'
              go_upto_region 17 with fail
              refine wp_region_held_drew (S := fun X0 : World => X0.cell? ⟨w.heap.size, 3, none⟩ = some (.slice (some ⟨b, off, none⟩) ln lc) ∧ X0.cell? ⟨w.heap.size + 1, 3, none⟩ = some (.slice (some ⟨b', off', none⟩) ln lc') ∧ X0.cell? ⟨b, off + i * 4, none⟩ = some (.int .i64 yk) ∧ X0.cell? ⟨b, off + i * 4 + 1, none⟩ = some (.string ys') ∧ X0.cell? ⟨b, off + i * 4 + 2, none⟩ = some (.slice pa pn pc) ∧ X0.cell? ⟨b, off + i * 4 + 3, none⟩ = some (.slice qa qn qc) ∧ X0.cell? ⟨b', off' + i * 4, none⟩ = some (.int .i64 zk) ∧ X0.cell? ⟨b', off' + i * 4 + 1, none⟩ = some (.string zs) ∧ X0.cell? ⟨b', off' + i * 4 + 2, none⟩ = some (.slice pa' pn' pc') ∧ X0.cell? ⟨b', off' + i * 4 + 3, none⟩ = some (.slice qa' qn' qc')) (by kernel_rfl) (HSX.out _ HBR.out.drew) (fun hHeld => ?_)
              have HMD : Hid (Below w1.heap.size w1 wo.drew) := HBR.out.drew
              clear v0 v1 v2 v3 u0 u1 u2 u3
              generalize wo.drew = w8 at *
              refine takeD (i := 0) (v := ?v1) (some 84) rfl (by kernel_rfl) (by kernel_rfl) (by kernel_rfl) (fun _ _ _ h => h) (Or.inl ⟨by rfl, ?hy1⟩) (HSX.out _ HMD.out) (by rfl) ?rest1
              case hy1 => first | (intro w hSw; (try dsimp only at hSw); obtain ⟨s0, s1, s2, s3, s4, s5, s6, s7, s8, s9⟩ := hSw; go_simp; done) | (intro w hSw; (try dsimp only at hSw); obtain ⟨s0, s1, s2, s3, s4, s5, s6, s7, s8, s9⟩ := hSw; go_simp; with_reducible rfl)
              try simp only [Act.put, List.setIfInBounds_toArray, List.set_cons_zero, List.set_cons_succ, vagg]
              refine takeD (i := 1) (v := ?v2) (some 85) rfl (by kernel_rfl) (by kernel_rfl) (by kernel_rfl) (fun _ _ _ h => h) (Or.inl ⟨by rfl, ?hy2⟩) (HSX.out _ HMD.out) (by rfl) ?rest2
              case hy2 => first | (intro w hSw; (try dsimp only at hSw); obtain ⟨s0, s1, s2, s3, s4, s5, s6, s7, s8, s9⟩ := hSw; go_simp; done) | (intro w hSw; (try dsimp only at hSw); obtain ⟨s0, s1, s2, s3, s4, s5, s6, s7, s8, s9⟩ := hSw; go_simp; with_reducible rfl)
              try simp only [Act.put, List.setIfInBounds_toArray, List.set_cons_zero, List.set_cons_succ, vagg]
              refine takeD (i := 2) (v := ?v3) (some 86) rfl (by kernel_rfl) (by kernel_rfl) (by kernel_rfl) (fun _ _ _ h => h) (Or.inl ⟨by rfl, ?hy3⟩) (HSX.out _ HMD.out) (by rfl) ?rest3
              case hy3 => first | (intro w hSw; (try dsimp only at hSw); obtain ⟨s0, s1, s2, s3, s4, s5, s6, s7, s8, s9⟩ := hSw; go_simp; done) | (intro w hSw; (try dsimp only at hSw); obtain ⟨s0, s1, s2, s3, s4, s5, s6, s7, s8, s9⟩ := hSw; go_simp; with_reducible rfl)
              try simp only [Act.put, List.setIfInBounds_toArray, List.set_cons_zero, List.set_cons_succ, vagg]
              refine takeD (i := 3) (v := ?v4) (some 87) rfl (by kernel_rfl) (by kernel_rfl) (by kernel_rfl) (fun _ _ _ h => h) (Or.inl ⟨by rfl, ?hy4⟩) (HSX.out _ HMD.out) (by rfl) ?rest4
              case hy4 => first | (intro w hSw; (try dsimp only at hSw); obtain ⟨s0, s1, s2, s3, s4, s5, s6, s7, s8, s9⟩ := hSw; go_simp; done) | (intro w hSw; (try dsimp only at hSw); obtain ⟨s0, s1, s2, s3, s4, s5, s6, s7, s8, s9⟩ := hSw; go_simp; with_reducible rfl)
              try simp only [Act.put, List.setIfInBounds_toArray, List.set_cons_zero, List.set_cons_succ, vagg]
              refine takeD (i := 4) (v := ?v5) (some 88) rfl (by kernel_rfl) (by kernel_rfl) (by kernel_rfl) (fun _ _ _ h => h) (Or.inl ⟨by rfl, ?hy5⟩) (HSX.out _ HMD.out) (by rfl) ?rest5
              case hy5 => first | (intro w hSw; (try dsimp only at hSw); obtain ⟨s0, s1, s2, s3, s4, s5, s6, s7, s8, s9⟩ := hSw; go_simp; done) | (intro w hSw; (try dsimp only at hSw); obtain ⟨s0, s1, s2, s3, s4, s5, s6, s7, s8, s9⟩ := hSw; go_simp; with_reducible rfl)
              try simp only [Act.put, List.setIfInBounds_toArray, List.set_cons_zero, List.set_cons_succ, vagg]
              refine takeD (i := 5) (v := ?v6) (some 89) rfl (by kernel_rfl) (by kernel_rfl) (by kernel_rfl) (fun _ _ _ h => h) (Or.inl ⟨by rfl, ?hy6⟩) (HSX.out _ HMD.out) (by rfl) ?rest6
              case hy6 => first | (intro w hSw; (try dsimp only at hSw); obtain ⟨s0, s1, s2, s3, s4, s5, s6, s7, s8, s9⟩ := hSw; go_simp; done) | (intro w hSw; (try dsimp only at hSw); obtain ⟨s0, s1, s2, s3, s4, s5, s6, s7, s8, s9⟩ := hSw; go_simp; with_reducible rfl)
              try simp only [Act.put, List.setIfInBounds_toArray, List.set_cons_zero, List.set_cons_succ, vagg]
              refine takeD (i := 6) (v := ?v7) (some 90) rfl (by kernel_rfl) (by kernel_rfl) (by kernel_rfl) (fun _ _ _ h => h) (Or.inl ⟨by rfl, ?hy7⟩) (HSX.out _ HMD.out) (by rfl) ?rest7
              case hy7 => first | (intro w hSw; (try dsimp only at hSw); obtain ⟨s0, s1, s2, s3, s4, s5, s6, s7, s8, s9⟩ := hSw; go_simp; done) | (intro w hSw; (try dsimp only at hSw); obtain ⟨s0, s1, s2, s3, s4, s5, s6, s7, s8, s9⟩ := hSw; go_simp; with_reducible rfl)
              try simp only [Act.put, List.setIfInBounds_toArray, List.set_cons_zero, List.set_cons_succ, vagg]
              refine takeD (i := 7) (v := ?v8) (some 91) rfl (by kernel_rfl) (by kernel_rfl) (by kernel_rfl) (fun _ _ _ h => h) (Or.inl ⟨by rfl, ?hy8⟩) (HSX.out _ HMD.out) (by rfl) ?rest8
              case hy8 => first | (intro w hSw; (try dsimp only at hSw); obtain ⟨s0, s1, s2, s3, s4, s5, s6, s7, s8, s9⟩ := hSw; go_simp; done) | (intro w hSw; (try dsimp only at hSw); obtain ⟨s0, s1, s2, s3, s4, s5, s6, s7, s8, s9⟩ := hSw; go_simp; with_reducible rfl)
              try simp only [Act.put, List.setIfInBounds_toArray, List.set_cons_zero, List.set_cons_succ, vagg]
              refine takeD (i := 8) (v := ?v9) (some 92) rfl (by kernel_rfl) (by kernel_rfl) (by kernel_rfl) (fun _ _ _ h => h) (Or.inl ⟨by rfl, ?hy9⟩) (HSX.out _ HMD.out) (by rfl) ?rest9
              case hy9 => first | (intro w hSw; (try dsimp only at hSw); obtain ⟨s0, s1, s2, s3, s4, s5, s6, s7, s8, s9⟩ := hSw; go_simp; done) | (intro w hSw; (try dsimp only at hSw); obtain ⟨s0, s1, s2, s3, s4, s5, s6, s7, s8, s9⟩ := hSw; go_simp; with_reducible rfl)
              try simp only [Act.put, List.setIfInBounds_toArray, List.set_cons_zero, List.set_cons_succ, vagg]
              refine takeD (i := 9) (v := ?v10) (some 93) rfl (by kernel_rfl) (by kernel_rfl) (by kernel_rfl) (fun _ _ _ h => h) (Or.inl ⟨by rfl, ?hy10⟩) (HSX.out _ HMD.out) (by rfl) ?rest10
              case hy10 => first | (intro w hSw; (try dsimp only at hSw); obtain ⟨s0, s1, s2, s3, s4, s5, s6, s7, s8, s9⟩ := hSw; go_simp; done) | (intro w hSw; (try dsimp only at hSw); obtain ⟨s0, s1, s2, s3, s4, s5, s6, s7, s8, s9⟩ := hSw; go_simp; with_reducible rfl)
              try simp only [Act.put, List.setIfInBounds_toArray, List.set_cons_zero, List.set_cons_succ, vagg]
              refine wpAnyH_ready (rs := [10]) (by kernel_rfl) (by simp) ?_
              refine AllReadyH.cons rfl (fun K hK => ?_) AllReadyH.nil
              go_simp
              refine (HCALL.out w8 HMD.out).mono ?_
              rintro e w4 ⟨rfl, hB4⟩
              have HB4 := hide (HMD.out.trans (hB4.mono HMD.out.size))
              refine hK.out _ _ (HSX.out _ HB4.out) (fun _ => ?_)
              clear hK K hB4
              try simp only [Act.put, List.setIfInBounds_toArray, List.set_cons_zero, List.set_cons_succ, vagg]
              obtain ⟨r, hr⟩ : ∃ r, eqJ Ti Ui = r := ⟨_, rfl⟩
              have HR := hide hr
              rw [hr]
              clear hr
              cases r
              · refine takeD (i := 11) (v := ?v11) (some 95) rfl (by kernel_rfl) (by kernel_rfl) (by kernel_rfl) (fun _ _ _ h => h) (Or.inl ⟨by rfl, ?hy11⟩) (HSX.out _ HB4.out) (by rfl) ?rest11
                case hy11 => first | (intro w hSw; (try dsimp only at hSw); obtain ⟨s0, s1, s2, s3, s4, s5, s6, s7, s8, s9⟩ := hSw; go_simp; done) | (intro w hSw; (try dsimp only at hSw); obtain ⟨s0, s1, s2, s3, s4, s5, s6, s7, s8, s9⟩ := hSw; go_simp; with_reducible rfl)
                try simp only [Act.put, List.setIfInBounds_toArray, List.set_cons_zero, List.set_cons_succ, vagg]
                refine wpAnyH_done (by kernel_rfl) ?_ _
                go_wp2
                go_ret
                refine ⟨?_, HB1.out.trans (HB4.out.mono HB1.out.size)⟩
                have hf : eqJ (.mk 5 s K L) (.mk 5 s' K' L') = false := Bool.eq_false_iff.2 (fun h => by have := ((eqJ_parts (.inl rfl)).1 h).2.2 i Ti Ui HTI.out HUI.out; rw [HR.out] at this; cases this)
                rw [hf]
                rfl
              · refine takeD (i := 11) (v := ?v12) (some 95) rfl (by kernel_rfl) (by kernel_rfl) (by kernel_rfl) (fun _ _ _ h => h) (Or.inl ⟨by rfl, ?hy12⟩) (HSX.out _ HB4.out) (by rfl) ?rest12
                case hy12 => first | (intro w hSw; (try dsimp only at hSw); obtain ⟨s0, s1, s2, s3, s4, s5, s6, s7, s8, s9⟩ := hSw; go_simp; done) | (intro w hSw; (try dsimp only at hSw); obtain ⟨s0, s1, s2, s3, s4, s5, s6, s7, s8, s9⟩ := hSw; go_simp; with_reducible rfl)
                try simp only [Act.put, List.setIfInBounds_toArray, List.set_cons_zero, List.set_cons_succ, vagg]
                refine wpAnyH_done (by kernel_rfl) ?_ _
                go_wp2
                go_roundw
                case rel =>
                  refine ⟨i1, by have := HI.out; omega, by first | rfl | go_num, HB4.out, fun q a b hq ha hb => ?_⟩
                  rcases Nat.lt_or_ge q i with h | h
                  · exact HL.out q a b h ha hb
                  · obtain rfl : q = i := by have := HI.out; omega
                    rw [HTI.out] at ha
                    rw [HUI.out] at hb
                    cases ha
                    cases hb
                    exact HR.out
                case measure => have := HI.out; simp [RowKit.intOf]; omega
            · obtain rfl : i = ln := by omega
              have d5 : ¬ (i : Int) < (i : Int) := by omega
              clear hlt hi
              go_wp2
              go_ret
              refine ⟨?_, HB1.out.trans (HBR.out.mono HB1.out.size)⟩
              rw [(eqJ_parts (.inl rfl)).2 ⟨fun e => absurd e (by omega), by have := HLN.out; have := HLN'.out; omega, fun q a b ha hb => HL.out q a b (by have := (List.getElem?_eq_some_iff.1 ha).1; have := HLN.out; omega) ha hb⟩]
              rfl
      · have dz : (0 : Int) < (kn : Int) := by omega
        clear hz
        obtain ⟨v0, v1, v2, v3, u0, u1, u2, u3⟩ := HV.out _ (Below.refl _ _)
        go_enter Tryz.func9, Tryz.ntmps9
        go_upto_region 1 with fail
        rw [HW1.out]
        clear HW1
        go_wp2
        go_loopw [5] (fun iv wr => iv = .int .i64 0 ∧ w1 = wr) (fun _ _ => 0)
        case atStart => exact ⟨rfl, rfl⟩
        case round =>
          obtain ⟨rfl, rfl⟩ := hrel
          have HB2 := hide (Below.refl w1.heap.size w1)
          go_wp2
          go_loopw [6] (fun iv wr => ∃ i : Nat, i ≤ ln ∧ iv = .int .i64 (i : Int) ∧ Below w1.heap.size w1 wr ∧ ∀ (q : Nat) (a b : JT), q < i → L[q]? = some a → L'[q]? = some b → eqJ a b = true) (fun iv _ => ln - (RowKit.intOf iv).toNat)
          case atStart => exact ⟨0, Nat.zero_le _, rfl, HB2.out, fun q _ _ h => by omega⟩
          case round =>
            obtain ⟨i, hi, rfl, hB, hL⟩ := hrel
            have HL := hide hL
            have HBR := hide hB
            clear hL hB HB2
            generalize wr = wo at *
            obtain ⟨v0, v1, v2, v3, u0, u1, u2, u3⟩ := HV.out wo HBR.out
            by_cases hlt : i < ln
            · obtain ⟨b, off, rfl, _⟩ := HLC.out w1 (Below.refl _ _) i hlt
              obtain ⟨b', off', rfl, _⟩ := HLC'.out w1 (Below.refl _ _) i hlt
              obtain ⟨hs2, hs3⟩ := HSL.out i hlt
              obtain ⟨hs4, hs5⟩ := HSL'.out i hlt
              obtain ⟨Ti, hTi⟩ : ∃ Ti, L[i]? = some Ti := ⟨L[i]'(by have := HLN.out; omega), List.getElem?_eq_getElem _⟩
              obtain ⟨Ui, hUi⟩ : ∃ Ui, L'[i]? = some Ui := ⟨L'[i]'(by have := HLN'.out; omega), List.getElem?_eq_getElem _⟩
              have hcall : ∀ w2, Below w1.heap.size w1 w2 → Calls Tryz.prog 9 #[vagg (xs i), vagg (ys i)] w2 (REqR w2 Ti Ui) := fun w2 h2 => by
                obtain ⟨h, rfl⟩ := List.getElem?_eq_some_iff.1 hTi
                obtain ⟨h', rfl⟩ := List.getElem?_eq_some_iff.1 hUi
                exact HIH.out i h h' w2 h2
              have hp : ∀ w2, Below w1.heap.size w1 w2 → ∀ r, r < 4 → w2.cell? ⟨b, off + (i * 4 + r), none⟩ = (vcell (xs i))[r]? := fun w2 h2 => by
                obtain ⟨_, _, e, h⟩ := HLC.out w2 h2 i hlt
                cases e
                exact h
              have hp' : ∀ w2, Below w1.heap.size w1 w2 → ∀ r, r < 4 → w2.cell? ⟨b', off' + (i * 4 + r), none⟩ = (vcell (ys i))[r]? := fun w2 h2 => by
                obtain ⟨_, _, e, h⟩ := HLC'.out w2 h2 i hlt
                cases e
                exact h
              generalize xs i = y at *
              obtain ⟨yk, ys', yK, yL⟩ := y
              generalize ys i = z at *
              obtain ⟨zk, zs, zK, zL⟩ := z
              simp only [vagg, vcell] at hcall hp hp' hs2 hs3 hs4 hs5
              obtain ⟨pa, pn, pc, rfl⟩ := hs2
              obtain ⟨qa, qn, qc, rfl⟩ := hs3
              obtain ⟨pa', pn', pc', rfl⟩ := hs4
              obtain ⟨qa', qn', qc', rfl⟩ := hs5
              have HSX : Hid (∀ X0 : World, Below w1.heap.size w1 X0 → (X0.cell? ⟨w.heap.size, 3, none⟩ = some (.slice (some ⟨b, off, none⟩) ln lc) ∧ X0.cell? ⟨w.heap.size + 1, 3, none⟩ = some (.slice (some ⟨b', off', none⟩) ln lc') ∧ X0.cell? ⟨b, off + i * 4, none⟩ = some (.int .i64 yk) ∧ X0.cell? ⟨b, off + i * 4 + 1, none⟩ = some (.string ys') ∧ X0.cell? ⟨b, off + i * 4 + 2, none⟩ = some (.slice pa pn pc) ∧ X0.cell? ⟨b, off + i * 4 + 3, none⟩ = some (.slice qa qn qc) ∧ X0.cell? ⟨b', off' + i * 4, none⟩ = some (.int .i64 zk) ∧ X0.cell? ⟨b', off' + i * 4 + 1, none⟩ = some (.string zs) ∧ X0.cell? ⟨b', off' + i * 4 + 2, none⟩ = some (.slice pa' pn' pc') ∧ X0.cell? ⟨b', off' + i * 4 + 3, none⟩ = some (.slice qa' qn' qc'))) := fun X0 h2 => by
                have x0 := hp X0 h2 0 (by omega)
                have x1 := hp X0 h2 1 (by omega)
                have x2 := hp X0 h2 2 (by omega)
                have x3 := hp X0 h2 3 (by omega)
                have y0 := hp' X0 h2 0 (by omega)
                have y1 := hp' X0 h2 1 (by omega)
                have y2 := hp' X0 h2 2 (by omega)
                have y3 := hp' X0 h2 3 (by omega)
                simp only [List.getElem?_cons_zero, List.getElem?_cons_succ, ← Nat.add_assoc, Nat.add_zero] at x0 x1 x2 x3 y0 y1 y2 y3
                obtain ⟨_, _, _, t3, _, _, _, t7⟩ := HV.out X0 h2
                exact ⟨t3, t7, x0, x1, x2, x3, y0, y1, y2, y3⟩
              have HCALL := hide hcall
              have HTI := hide hTi
              have HUI := hide hUi
              obtain ⟨i1, hi1⟩ : ∃ i1, i + 1 = i1 := ⟨_, rfl⟩
              have e1 : (i : Int) + 1 = (i1 : Int) := by omega
              have g1 : (i1 : Int) ≤ 1000000000 := by have := HH.out; omega
              have d1 : (i : Int) < (ln : Int) := by omega
              have d0 : (0 : Int) ≤ (i : Int) := by omega
              have HI := hide (And.intro hlt hi1)
              clear hcall hTi hUi hi1 hlt hi hp hp'
              go_upto_region 17 with fail
              refine wp_region_held_drew (S := fun X0 : World => X0.cell? ⟨w.heap.size, 3, none⟩ = some (.slice (some ⟨b, off, none⟩) ln lc) ∧ X0.cell? ⟨w.heap.size + 1, 3, none⟩ = some (.slice (some ⟨b', off', none⟩) ln lc') ∧ X0.cell? ⟨b, off + i * 4, none⟩ = some (.int .i64 yk) ∧ X0.cell? ⟨b, off + i * 4 + 1, none⟩ = some (.string ys') ∧ X0.cell? ⟨b, off + i * 4 + 2, none⟩ = some (.slice pa pn pc) ∧ X0.cell? ⟨b, off + i * 4 + 3, none⟩ = some (.slice qa qn qc) ∧ X0.cell? ⟨b', off' + i * 4, none⟩ = some (.int .i64 zk) ∧ X0.cell? ⟨b', off' + i * 4 + 1, none⟩ = some (.string zs) ∧ X0.cell? ⟨b', off' + i * 4 + 2, none⟩ = some (.slice pa' pn' pc') ∧ X0.cell? ⟨b', off' + i * 4 + 3, none⟩ = some (.slice qa' qn' qc')) (by kernel_rfl) (HSX.out _ HBR.out.drew) (fun hHeld => ?_)
              have HMD : Hid (Below w1.heap.size w1 wo.drew) := HBR.out.drew
              clear v0 v1 v2 v3 u0 u1 u2 u3
              generalize wo.drew = w8 at *
              refine takeD (i := 0) (v := ?v13) (some 84) rfl (by kernel_rfl) (by kernel_rfl) (by kernel_rfl) (fun _ _ _ h => h) (Or.inl ⟨by rfl, ?hy13⟩) (HSX.out _ HMD.out) (by rfl) ?rest13
              case hy13 => first | (intro w hSw; (try dsimp only at hSw); obtain ⟨s0, s1, s2, s3, s4, s5, s6, s7, s8, s9⟩ := hSw; go_simp; done) | (intro w hSw; (try dsimp only at hSw); obtain ⟨s0, s1, s2, s3, s4, s5, s6, s7, s8, s9⟩ := hSw; go_simp; with_reducible rfl)
              try simp only [Act.put, List.setIfInBounds_toArray, List.set_cons_zero, List.set_cons_succ, vagg]
              refine takeD (i := 1) (v := ?v14) (some 85) rfl (by kernel_rfl) (by kernel_rfl) (by kernel_rfl) (fun _ _ _ h => h) (Or.inl ⟨by rfl, ?hy14⟩) (HSX.out _ HMD.out) (by rfl) ?rest14
              case hy14 => first | (intro w hSw; (try dsimp only at hSw); obtain ⟨s0, s1, s2, s3, s4, s5, s6, s7, s8, s9⟩ := hSw; go_simp; done) | (intro w hSw; (try dsimp only at hSw); obtain ⟨s0, s1, s2, s3, s4, s5, s6, s7, s8, s9⟩ := hSw; go_simp; with_reducible rfl)
              try simp only [Act.put, List.setIfInBounds_toArray, List.set_cons_zero, List.set_cons_succ, vagg]
              refine takeD (i := 2) (v := ?v15) (some 86) rfl (by kernel_rfl) (by kernel_rfl) (by kernel_rfl) (fun _ _ _ h => h) (Or.inl ⟨by rfl, ?hy15⟩) (HSX.out _ HMD.out) (by rfl) ?rest15
              case hy15 => first | (intro w hSw; (try dsimp only at hSw); obtain ⟨s0, s1, s2, s3, s4, s5, s6, s7, s8, s9⟩ := hSw; go_simp; done) | (intro w hSw; (try dsimp only at hSw); obtain ⟨s0, s1, s2, s3, s4, s5, s6, s7, s8, s9⟩ := hSw; go_simp; with_reducible rfl)
              try simp only [Act.put, List.setIfInBounds_toArray, List.set_cons_zero, List.set_cons_succ, vagg]
              refine takeD (i := 3) (v := ?v16) (some 87) rfl (by kernel_rfl) (by kernel_rfl) (by kernel_rfl) (fun _ _ _ h => h) (Or.inl ⟨by rfl, ?hy16⟩) (HSX.out _ HMD.out) (by rfl) ?rest16
              case hy16 => first | (intro w hSw; (try dsimp only at hSw); obtain ⟨s0, s1, s2, s3, s4, s5, s6, s7, s8, s9⟩ := hSw; go_simp; done) | (intro w hSw; (try dsimp only at hSw); obtain ⟨s0, s1, s2, s3, s4, s5, s6, s7, s8, s9⟩ := hSw; go_simp; with_reducible rfl)
              try simp only [Act.put, List.setIfInBounds_toArray, List.set_cons_zero, List.set_cons_succ, vagg]
              refine takeD (i := 4) (v := ?v17) (some 88) rfl (by kernel_rfl) (by kernel_rfl) (by kernel_rfl) (fun _ _ _ h => h) (Or.inl ⟨by rfl, ?hy17⟩) (HSX.out _ HMD.out) (by rfl) ?rest17
              case hy17 => first | (intro w hSw; (try dsimp only at hSw); obtain ⟨s0, s1, s2, s3, s4, s5, s6, s7, s8, s9⟩ := hSw; go_simp; done) | (intro w hSw; (try dsimp only at hSw); obtain ⟨s0, s1, s2, s3, s4, s5, s6, s7, s8, s9⟩ := hSw; go_simp; with_reducible rfl)
              try simp only [Act.put, List.setIfInBounds_toArray, List.set_cons_zero, List.set_cons_succ, vagg]
              refine takeD (i := 5) (v := ?v18) (some 89) rfl (by kernel_rfl) (by kernel_rfl) (by kernel_rfl) (fun _ _ _ h => h) (Or.inl ⟨by rfl, ?hy18⟩) (HSX.out _ HMD.out) (by rfl) ?rest18
              case hy18 => first | (intro w hSw; (try dsimp only at hSw); obtain ⟨s0, s1, s2, s3, s4, s5, s6, s7, s8, s9⟩ := hSw; go_simp; done) | (intro w hSw; (try dsimp only at hSw); obtain ⟨s0, s1, s2, s3, s4, s5, s6, s7, s8, s9⟩ := hSw; go_simp; with_reducible rfl)
              try simp only [Act.put, List.setIfInBounds_toArray, List.set_cons_zero, List.set_cons_succ, vagg]
              refine takeD (i := 6) (v := ?v19) (some 90) rfl (by kernel_rfl) (by kernel_rfl) (by kernel_rfl) (fun _ _ _ h => h) (Or.inl ⟨by rfl, ?hy19⟩) (HSX.out _ HMD.out) (by rfl) ?rest19
              case hy19 => first | (intro w hSw; (try dsimp only at hSw); obtain ⟨s0, s1, s2, s3, s4, s5, s6, s7, s8, s9⟩ := hSw; go_simp; done) | (intro w hSw; (try dsimp only at hSw); obtain ⟨s0, s1, s2, s3, s4, s5, s6, s7, s8, s9⟩ := hSw; go_simp; with_reducible rfl)
              try simp only [Act.put, List.setIfInBounds_toArray, List.set_cons_zero, List.set_cons_succ, vagg]
              refine takeD (i := 7) (v := ?v20) (some 91) rfl (by kernel_rfl) (by kernel_rfl) (by kernel_rfl) (fun _ _ _ h => h) (Or.inl ⟨by rfl, ?hy20⟩) (HSX.out _ HMD.out) (by rfl) ?rest20
              case hy20 => first | (intro w hSw; (try dsimp only at hSw); obtain ⟨s0, s1, s2, s3, s4, s5, s6, s7, s8, s9⟩ := hSw; go_simp; done) | (intro w hSw; (try dsimp only at hSw); obtain ⟨s0, s1, s2, s3, s4, s5, s6, s7, s8, s9⟩ := hSw; go_simp; with_reducible rfl)
              try simp only [Act.put, List.setIfInBounds_toArray, List.set_cons_zero, List.set_cons_succ, vagg]
              refine takeD (i := 8) (v := ?v21) (some 92) rfl (by kernel_rfl) (by kernel_rfl) (by kernel_rfl) (fun _ _ _ h => h) (Or.inl ⟨by rfl, ?hy21⟩) (HSX.out _ HMD.out) (by rfl) ?rest21
              case hy21 => first | (intro w hSw; (try dsimp only at hSw); obtain ⟨s0, s1, s2, s3, s4, s5, s6, s7, s8, s9⟩ := hSw; go_simp; done) | (intro w hSw; (try dsimp only at hSw); obtain ⟨s0, s1, s2, s3, s4, s5, s6, s7, s8, s9⟩ := hSw; go_simp; with_reducible rfl)
              try simp only [Act.put, List.setIfInBounds_toArray, List.set_cons_zero, List.set_cons_succ, vagg]
              refine takeD (i := 9) (v := ?v22) (some 93) rfl (by kernel_rfl) (by kernel_rfl) (by kernel_rfl) (fun _ _ _ h => h) (Or.inl ⟨by rfl, ?hy22⟩) (HSX.out _ HMD.out) (by rfl) ?rest22
              case hy22 => first | (intro w hSw; (try dsimp only at hSw); obtain ⟨s0, s1, s2, s3, s4, s5, s6, s7, s8, s9⟩ := hSw; go_simp; done) | (intro w hSw; (try dsimp only at hSw); obtain ⟨s0, s1, s2, s3, s4, s5, s6, s7, s8, s9⟩ := hSw; go_simp; with_reducible rfl)
              try simp only [Act.put, List.setIfInBounds_toArray, List.set_cons_zero, List.set_cons_succ, vagg]
              refine wpAnyH_ready (rs := [10]) (by kernel_rfl) (by simp) ?_
              refine AllReadyH.cons rfl (fun K hK => ?_) AllReadyH.nil
              go_simp
              refine (HCALL.out w8 HMD.out).mono ?_
              rintro e w4 ⟨rfl, hB4⟩
              have HB4 := hide (HMD.out.trans (hB4.mono HMD.out.size))
              refine hK.out _ _ (HSX.out _ HB4.out) (fun _ => ?_)
              clear hK K hB4
              try simp only [Act.put, List.setIfInBounds_toArray, List.set_cons_zero, List.set_cons_succ, vagg]
              obtain ⟨r, hr⟩ : ∃ r, eqJ Ti Ui = r := ⟨_, rfl⟩
              have HR := hide hr
              rw [hr]
              clear hr
              cases r
              · refine takeD (i := 11) (v := ?v23) (some 95) rfl (by kernel_rfl) (by kernel_rfl) (by kernel_rfl) (fun _ _ _ h => h) (Or.inl ⟨by rfl, ?hy23⟩) (HSX.out _ HB4.out) (by rfl) ?rest23
                case hy23 => first | (intro w hSw; (try dsimp only at hSw); obtain ⟨s0, s1, s2, s3, s4, s5, s6, s7, s8, s9⟩ := hSw; go_simp; done) | (intro w hSw; (try dsimp only at hSw); obtain ⟨s0, s1, s2, s3, s4, s5, s6, s7, s8, s9⟩ := hSw; go_simp; with_reducible rfl)
                try simp only [Act.put, List.setIfInBounds_toArray, List.set_cons_zero, List.set_cons_succ, vagg]
                refine wpAnyH_done (by kernel_rfl) ?_ _
                go_wp2
                go_ret
                refine ⟨?_, HB1.out.trans (HB4.out.mono HB1.out.size)⟩
                have hf : eqJ (.mk 5 s K L) (.mk 5 s' K' L') = false := Bool.eq_false_iff.2 (fun h => by have := ((eqJ_parts (.inl rfl)).1 h).2.2 i Ti Ui HTI.out HUI.out; rw [HR.out] at this; cases this)
                rw [hf]
                rfl
              · refine takeD (i := 11) (v := ?v24) (some 95) rfl (by kernel_rfl) (by kernel_rfl) (by kernel_rfl) (fun _ _ _ h => h) (Or.inl ⟨by rfl, ?hy24⟩) (HSX.out _ HB4.out) (by rfl) ?rest24
                case hy24 => first | (intro w hSw; (try dsimp only at hSw); obtain ⟨s0, s1, s2, s3, s4, s5, s6, s7, s8, s9⟩ := hSw; go_simp; done) | (intro w hSw; (try dsimp only at hSw); obtain ⟨s0, s1, s2, s3, s4, s5, s6, s7, s8, s9⟩ := hSw; go_simp; with_reducible rfl)
                try simp only [Act.put, List.setIfInBounds_toArray, List.set_cons_zero, List.set_cons_succ, vagg]
                refine wpAnyH_done (by kernel_rfl) ?_ _
                go_wp2
                go_roundw
                case rel =>
                  refine ⟨i1, by have := HI.out; omega, by first | rfl | go_num, HB4.out, fun q a b hq ha hb => ?_⟩
                  rcases Nat.lt_or_ge q i with h | h
                  · exact HL.out q a b h ha hb
                  · obtain rfl : q = i := by have := HI.out; omega
                    rw [HTI.out] at ha
                    rw [HUI.out] at hb
                    cases ha
                    cases hb
                    exact HR.out
                case measure => have := HI.out; simp [RowKit.intOf]; omega
            · obtain rfl : i = ln := by omega
              have d5 : ¬ (i : Int) < (i : Int) := by omega
              clear hlt hi
              go_wp2
              go_ret
              refine ⟨?_, HB1.out.trans (HBR.out.mono HB1.out.size)⟩
              rw [(eqJ_parts (.inl rfl)).2 ⟨fun e => absurd e (by omega), by have := HLN.out; have := HLN'.out; omega, fun q a b ha hb => HL.out q a b (by have := (List.getElem?_eq_some_iff.1 ha).1; have := HLN.out; omega) ha hb⟩]
              rfl
    by_cases h6 : k = 6
    · subst h6
      clear h3 h4 h5
      by_cases hL : ln = ln'
      rotate_left
      · obtain ⟨v0, v1, v2, v3, u0, u1, u2, u3⟩ := HV.out _ (Below.refl _ _)
        have d1 : ((ln : Int) != (ln' : Int)) = true := by simp; omega
        have HKK := hide hL
        clear hL
        go_enter Tryz.func9, Tryz.ntmps9
        go_upto_region 1 with fail
        rw [HW1.out]
        clear HW1
        go_wp2
        go_ret
        refine ⟨?_, HB1.out⟩
        have hf : eqJ (.mk 6 s K L) (.mk 6 s' K' L') = false := Bool.eq_false_iff.2 (fun h => by have := ((eqJ_parts (.inr rfl)).1 h).2.1; have := HKK.out; have := HLN.out; have := HLN'.out; omega)
        rw [hf]
        rfl
      subst hL
      by_cases hKn : kn = kn'
      rotate_left
      · obtain ⟨v0, v1, v2, v3, u0, u1, u2, u3⟩ := HV.out _ (Below.refl _ _)
        have d1 : ((kn : Int) != (kn' : Int)) = true := by simp; omega
        have HKK := hide hKn
        clear hKn
        go_enter Tryz.func9, Tryz.ntmps9
        go_upto_region 1 with fail
        rw [HW1.out]
        clear HW1
        go_wp2
        go_ret
        refine ⟨?_, HB1.out⟩
        have hf : eqJ (.mk 6 s K L) (.mk 6 s' K' L') = false := Bool.eq_false_iff.2 (fun h => by have := ((eqJ_parts (.inr rfl)).1 h).1 rfl; have e := congrArg List.length this; have := HKK.out; have := HKN.out; have := HKN'.out; omega)
        rw [hf]
        rfl
      subst hKn
      obtain ⟨v0, v1, v2, v3, u0, u1, u2, u3⟩ := HV.out _ (Below.refl _ _)
      go_enter Tryz.func9, Tryz.ntmps9
      go_upto_region 1 with fail
      rw [HW1.out]
      clear HW1
      go_wp2
      clear v0 v1 v2 v3 u0 u1 u2 u3
      go_loopw [5] (fun iv wr => ∃ j : Nat, j ≤ kn ∧ iv = .int .i64 (j : Int) ∧ Below w1.heap.size w1 wr ∧ ∀ q, q < j → nthS K q = nthS K' q) (fun iv _ => kn - (RowKit.intOf iv).toNat)
      case atStart => exact ⟨0, Nat.zero_le _, rfl, Below.refl _ _, fun q h => by omega⟩
      case round =>
        obtain ⟨j, hj, rfl, hB, hQ⟩ := hrel
        have HQ := hide hQ
        have HB2 := hide hB
        clear hB hQ
        generalize wr = wo at *
        obtain ⟨v0, v1, v2, v3, u0, u1, u2, u3⟩ := HV.out wo HB2.out
        by_cases hlt : j < kn
        · obtain ⟨b, off, rfl, cx⟩ := HKC.out wo HB2.out j hlt
          obtain ⟨b', off', rfl, cy⟩ := HKC'.out wo HB2.out j hlt
          obtain ⟨j1, hj1⟩ : ∃ j1, j + 1 = j1 := ⟨_, rfl⟩
          have e2 : (j : Int) + 1 = (j1 : Int) := by omega
          have g1 : (j1 : Int) ≤ 1000000000 := by have := HH.out; omega
          have d5 : (j : Int) < (kn : Int) := by omega
          have d0 : (0 : Int) ≤ (j : Int) := by omega
          have HI := hide (And.intro hlt hj1)
          obtain ⟨t, ht⟩ : ∃ t, nthS K j = t := ⟨_, rfl⟩
          obtain ⟨u, hu⟩ : ∃ u, nthS K' j = u := ⟨_, rfl⟩
          rw [ht] at cx
          rw [hu] at cy
          have HTJ := hide ht
          have HUJ := hide hu
          clear hlt hj1 hj ht hu
          by_cases htu : t = u
          · subst htu
            go_wp2
            go_quiet (fail)
            go_wp2
            go_roundw
            case rel =>
              refine ⟨j1, by have := HI.out; omega, by first | rfl | go_num, below_drewN HB2.out _, fun q hq => ?_⟩
              rcases Nat.lt_or_ge q j with h | h
              · exact HQ.out q h
              · obtain rfl : q = j := by have := HI.out; omega
                rw [HTJ.out, HUJ.out]
            case measure => have := HI.out; simp [RowKit.intOf]; omega
          · have dne : (t.toList == u.toList) = false := str_ne htu
            have dne2 : (t.toList != u.toList) = true := by rw [bne, dne]; rfl
            have HKK := hide htu
            clear htu
            go_wp2
            go_quiet (fail)
            go_wp2
            go_ret
            refine ⟨?_, below_drewN (HB1.out.trans (HB2.out.mono HB1.out.size)) _⟩
            have hf : eqJ (.mk 6 s K L) (.mk 6 s' K' L') = false := Bool.eq_false_iff.2 (fun h => by have e := ((eqJ_parts (.inr rfl)).1 h).1 rfl; rw [e] at HTJ; exact HKK.out (HTJ.out.symm.trans HUJ.out))
            rw [hf]
            rfl
        · obtain rfl : j = kn := by omega
          have d5 : ¬ (j : Int) < (j : Int) := by omega
          have HQK : Hid (K = K') := keys_same (by have := HKN.out; have := HKN'.out; omega) (fun q hq => HQ.out q (by have := HKN.out; omega))
          clear hlt hj
          go_wp2
          clear v0 v1 v2 v3 u0 u1 u2 u3
          go_loopw [6] (fun iv wr => ∃ i : Nat, i ≤ ln ∧ iv = .int .i64 (i : Int) ∧ Below w1.heap.size w1 wr ∧ ∀ (q : Nat) (a b : JT), q < i → L[q]? = some a → L'[q]? = some b → eqJ a b = true) (fun iv _ => ln - (RowKit.intOf iv).toNat)
          case atStart => exact ⟨0, Nat.zero_le _, rfl, HB2.out, fun q _ _ h => by omega⟩
          case round =>
            obtain ⟨i, hi, rfl, hB, hL⟩ := hrel
            have HL := hide hL
            have HBR := hide hB
            clear hL hB HB2
            generalize wr = wo at *
            obtain ⟨v0, v1, v2, v3, u0, u1, u2, u3⟩ := HV.out wo HBR.out
            by_cases hlt : i < ln
            · obtain ⟨b, off, rfl, _⟩ := HLC.out w1 (Below.refl _ _) i hlt
              obtain ⟨b', off', rfl, _⟩ := HLC'.out w1 (Below.refl _ _) i hlt
              obtain ⟨hs2, hs3⟩ := HSL.out i hlt
              obtain ⟨hs4, hs5⟩ := HSL'.out i hlt
              obtain ⟨Ti, hTi⟩ : ∃ Ti, L[i]? = some Ti := ⟨L[i]'(by have := HLN.out; omega), List.getElem?_eq_getElem _⟩
              obtain ⟨Ui, hUi⟩ : ∃ Ui, L'[i]? = some Ui := ⟨L'[i]'(by have := HLN'.out; omega), List.getElem?_eq_getElem _⟩
              have hcall : ∀ w2, Below w1.heap.size w1 w2 → Calls Tryz.prog 9 #[vagg (xs i), vagg (ys i)] w2 (REqR w2 Ti Ui) := fun w2 h2 => by
                obtain ⟨h, rfl⟩ := List.getElem?_eq_some_iff.1 hTi
                obtain ⟨h', rfl⟩ := List.getElem?_eq_some_iff.1 hUi
                exact HIH.out i h h' w2 h2
              have hp : ∀ w2, Below w1.heap.size w1 w2 → ∀ r, r < 4 → w2.cell? ⟨b, off + (i * 4 + r), none⟩ = (vcell (xs i))[r]? := fun w2 h2 => by
                obtain ⟨_, _, e, h⟩ := HLC.out w2 h2 i hlt
                cases e
                exact h
              have hp' : ∀ w2, Below w1.heap.size w1 w2 → ∀ r, r < 4 → w2.cell? ⟨b', off' + (i * 4 + r), none⟩ = (vcell (ys i))[r]? := fun w2 h2 => by
                obtain ⟨_, _, e, h⟩ := HLC'.out w2 h2 i hlt
                cases e
                exact h
              generalize xs i = y at *
              obtain ⟨yk, ys', yK, yL⟩ := y
              generalize ys i = z at *
              obtain ⟨zk, zs, zK, zL⟩ := z
              simp only [vagg, vcell] at hcall hp hp' hs2 hs3 hs4 hs5
              obtain ⟨pa, pn, pc, rfl⟩ := hs2
              obtain ⟨qa, qn, qc, rfl⟩ := hs3
              obtain ⟨pa', pn', pc', rfl⟩ := hs4
              obtain ⟨qa', qn', qc', rfl⟩ := hs5
              have HSX : Hid (∀ X0 : World, Below w1.heap.size w1 X0 → (X0.cell? ⟨w.heap.size, 3, none⟩ = some (.slice (some ⟨b, off, none⟩) ln lc) ∧ X0.cell? ⟨w.heap.size + 1, 3, none⟩ = some (.slice (some ⟨b', off', none⟩) ln lc') ∧ X0.cell? ⟨b, off + i * 4, none⟩ = some (.int .i64 yk) ∧ X0.cell? ⟨b, off + i * 4 + 1, none⟩ = some (.string ys') ∧ X0.cell? ⟨b, off + i * 4 + 2, none⟩ = some (.slice pa pn pc) ∧ X0.cell? ⟨b, off + i * 4 + 3, none⟩ = some (.slice qa qn qc) ∧ X0.cell? ⟨b', off' + i * 4, none⟩ = some (.int .i64 zk) ∧ X0.cell? ⟨b', off' + i * 4 + 1, none⟩ = some (.string zs) ∧ X0.cell? ⟨b', off' + i * 4 + 2, none⟩ = some (.slice pa' pn' pc') ∧ X0.cell? ⟨b', off' + i * 4 + 3, none⟩ = some (.slice qa' qn' qc'))) := fun X0 h2 => by
                have x0 := hp X0 h2 0 (by omega)
                have x1 := hp X0 h2 1 (by omega)
                have x2 := hp X0 h2 2 (by omega)
                have x3 := hp X0 h2 3 (by omega)
                have y0 := hp' X0 h2 0 (by omega)
                have y1 := hp' X0 h2 1 (by omega)
                have y2 := hp' X0 h2 2 (by omega)
                have y3 := hp' X0 h2 3 (by omega)
                simp only [List.getElem?_cons_zero, List.getElem?_cons_succ, ← Nat.add_assoc, Nat.add_zero] at x0 x1 x2 x3 y0 y1 y2 y3
                obtain ⟨_, _, _, t3, _, _, _, t7⟩ := HV.out X0 h2
                exact ⟨t3, t7, x0, x1, x2, x3, y0, y1, y2, y3⟩
              have HCALL := hide hcall
              have HTI := hide hTi
              have HUI := hide hUi
              obtain ⟨i1, hi1⟩ : ∃ i1, i + 1 = i1 := ⟨_, rfl⟩
              have e1 : (i : Int) + 1 = (i1 : Int) := by omega
              have g1 : (i1 : Int) ≤ 1000000000 := by have := HH.out; omega
              have d1 : (i : Int) < (ln : Int) := by omega
              have d0 : (0 : Int) ≤ (i : Int) := by omega
              have HI := hide (And.intro hlt hi1)
              clear hcall hTi hUi hi1 hlt hi hp hp'
              go_upto_region 17 with fail
              refine wp_region_held_drew (S := fun X0 : World => X0.cell? ⟨w.heap.size, 3, none⟩ = some (.slice (some ⟨b, off, none⟩) ln lc) ∧ X0.cell? ⟨w.heap.size + 1, 3, none⟩ = some (.slice (some ⟨b', off', none⟩) ln lc') ∧ X0.cell? ⟨b, off + i * 4, none⟩ = some (.int .i64 yk) ∧ X0.cell? ⟨b, off + i * 4 + 1, none⟩ = some (.string ys') ∧ X0.cell? ⟨b, off + i * 4 + 2, none⟩ = some (.slice pa pn pc) ∧ X0.cell? ⟨b, off + i * 4 + 3, none⟩ = some (.slice qa qn qc) ∧ X0.cell? ⟨b', off' + i * 4, none⟩ = some (.int .i64 zk) ∧ X0.cell? ⟨b', off' + i * 4 + 1, none⟩ = some (.string zs) ∧ X0.cell? ⟨b', off' + i * 4 + 2, none⟩ = some (.slice pa' pn' pc') ∧ X0.cell? ⟨b', off' + i * 4 + 3, none⟩ = some (.slice qa' qn' qc')) (by kernel_rfl) (HSX.out _ HBR.out.drew) (fun hHeld => ?_)
              have HMD : Hid (Below w1.heap.size w1 wo.drew) := HBR.out.drew
              clear v0 v1 v2 v3 u0 u1 u2 u3
              generalize wo.drew = w8 at *
              refine takeD (i := 0) (v := ?v25) (some 84) rfl (by kernel_rfl) (by kernel_rfl) (by kernel_rfl) (fun _ _ _ h => h) (Or.inl ⟨by rfl, ?hy25⟩) (HSX.out _ HMD.out) (by rfl) ?rest25
              case hy25 => first | (intro w hSw; (try dsimp only at hSw); obtain ⟨s0, s1, s2, s3, s4, s5, s6, s7, s8, s9⟩ := hSw; go_simp; done) | (intro w hSw; (try dsimp only at hSw); obtain ⟨s0, s1, s2, s3, s4, s5, s6, s7, s8, s9⟩ := hSw; go_simp; with_reducible rfl)
              try simp only [Act.put, List.setIfInBounds_toArray, List.set_cons_zero, List.set_cons_succ, vagg]
              refine takeD (i := 1) (v := ?v26) (some 85) rfl (by kernel_rfl) (by kernel_rfl) (by kernel_rfl) (fun _ _ _ h => h) (Or.inl ⟨by rfl, ?hy26⟩) (HSX.out _ HMD.out) (by rfl) ?rest26
              case hy26 => first | (intro w hSw; (try dsimp only at hSw); obtain ⟨s0, s1, s2, s3, s4, s5, s6, s7, s8, s9⟩ := hSw; go_simp; done) | (intro w hSw; (try dsimp only at hSw); obtain ⟨s0, s1, s2, s3, s4, s5, s6, s7, s8, s9⟩ := hSw; go_simp; with_reducible rfl)
              try simp only [Act.put, List.setIfInBounds_toArray, List.set_cons_zero, List.set_cons_succ, vagg]
              refine takeD (i := 2) (v := ?v27) (some 86) rfl (by kernel_rfl) (by kernel_rfl) (by kernel_rfl) (fun _ _ _ h => h) (Or.inl ⟨by rfl, ?hy27⟩) (HSX.out _ HMD.out) (by rfl) ?rest27
              case hy27 => first | (intro w hSw; (try dsimp only at hSw); obtain ⟨s0, s1, s2, s3, s4, s5, s6, s7, s8, s9⟩ := hSw; go_simp; done) | (intro w hSw; (try dsimp only at hSw); obtain ⟨s0, s1, s2, s3, s4, s5, s6, s7, s8, s9⟩ := hSw; go_simp; with_reducible rfl)
              try simp only [Act.put, List.setIfInBounds_toArray, List.set_cons_zero, List.set_cons_succ, vagg]
              refine takeD (i := 3) (v := ?v28) (some 87) rfl (by kernel_rfl) (by kernel_rfl) (by kernel_rfl) (fun _ _ _ h => h) (Or.inl ⟨by rfl, ?hy28⟩) (HSX.out _ HMD.out) (by rfl) ?rest28
              case hy28 => first | (intro w hSw; (try dsimp only at hSw); obtain ⟨s0, s1, s2, s3, s4, s5, s6, s7, s8, s9⟩ := hSw; go_simp; done) | (intro w hSw; (try dsimp only at hSw); obtain ⟨s0, s1, s2, s3, s4, s5, s6, s7, s8, s9⟩ := hSw; go_simp; with_reducible rfl)
              try simp only [Act.put, List.setIfInBounds_toArray, List.set_cons_zero, List.set_cons_succ, vagg]
              refine takeD (i := 4) (v := ?v29) (some 88) rfl (by kernel_rfl) (by kernel_rfl) (by kernel_rfl) (fun _ _ _ h => h) (Or.inl ⟨by rfl, ?hy29⟩) (HSX.out _ HMD.out) (by rfl) ?rest29
              case hy29 => first | (intro w hSw; (try dsimp only at hSw); obtain ⟨s0, s1, s2, s3, s4, s5, s6, s7, s8, s9⟩ := hSw; go_simp; done) | (intro w hSw; (try dsimp only at hSw); obtain ⟨s0, s1, s2, s3, s4, s5, s6, s7, s8, s9⟩ := hSw; go_simp; with_reducible rfl)
              try simp only [Act.put, List.setIfInBounds_toArray, List.set_cons_zero, List.set_cons_succ, vagg]
              refine takeD (i := 5) (v := ?v30) (some 89) rfl (by kernel_rfl) (by kernel_rfl) (by kernel_rfl) (fun _ _ _ h => h) (Or.inl ⟨by rfl, ?hy30⟩) (HSX.out _ HMD.out) (by rfl) ?rest30
              case hy30 => first | (intro w hSw; (try dsimp only at hSw); obtain ⟨s0, s1, s2, s3, s4, s5, s6, s7, s8, s9⟩ := hSw; go_simp; done) | (intro w hSw; (try dsimp only at hSw); obtain ⟨s0, s1, s2, s3, s4, s5, s6, s7, s8, s9⟩ := hSw; go_simp; with_reducible rfl)
              try simp only [Act.put, List.setIfInBounds_toArray, List.set_cons_zero, List.set_cons_succ, vagg]
              refine takeD (i := 6) (v := ?v31) (some 90) rfl (by kernel_rfl) (by kernel_rfl) (by kernel_rfl) (fun _ _ _ h => h) (Or.inl ⟨by rfl, ?hy31⟩) (HSX.out _ HMD.out) (by rfl) ?rest31
              case hy31 => first | (intro w hSw; (try dsimp only at hSw); obtain ⟨s0, s1, s2, s3, s4, s5, s6, s7, s8, s9⟩ := hSw; go_simp; done) | (intro w hSw; (try dsimp only at hSw); obtain ⟨s0, s1, s2, s3, s4, s5, s6, s7, s8, s9⟩ := hSw; go_simp; with_reducible rfl)
              try simp only [Act.put, List.setIfInBounds_toArray, List.set_cons_zero, List.set_cons_succ, vagg]
              refine takeD (i := 7) (v := ?v32) (some 91) rfl (by kernel_rfl) (by kernel_rfl) (by kernel_rfl) (fun _ _ _ h => h) (Or.inl ⟨by rfl, ?hy32⟩) (HSX.out _ HMD.out) (by rfl) ?rest32
              case hy32 => first | (intro w hSw; (try dsimp only at hSw); obtain ⟨s0, s1, s2, s3, s4, s5, s6, s7, s8, s9⟩ := hSw; go_simp; done) | (intro w hSw; (try dsimp only at hSw); obtain ⟨s0, s1, s2, s3, s4, s5, s6, s7, s8, s9⟩ := hSw; go_simp; with_reducible rfl)
              try simp only [Act.put, List.setIfInBounds_toArray, List.set_cons_zero, List.set_cons_succ, vagg]
              refine takeD (i := 8) (v := ?v33) (some 92) rfl (by kernel_rfl) (by kernel_rfl) (by kernel_rfl) (fun _ _ _ h => h) (Or.inl ⟨by rfl, ?hy33⟩) (HSX.out _ HMD.out) (by rfl) ?rest33
              case hy33 => first | (intro w hSw; (try dsimp only at hSw); obtain ⟨s0, s1, s2, s3, s4, s5, s6, s7, s8, s9⟩ := hSw; go_simp; done) | (intro w hSw; (try dsimp only at hSw); obtain ⟨s0, s1, s2, s3, s4, s5, s6, s7, s8, s9⟩ := hSw; go_simp; with_reducible rfl)
              try simp only [Act.put, List.setIfInBounds_toArray, List.set_cons_zero, List.set_cons_succ, vagg]
              refine takeD (i := 9) (v := ?v34) (some 93) rfl (by kernel_rfl) (by kernel_rfl) (by kernel_rfl) (fun _ _ _ h => h) (Or.inl ⟨by rfl, ?hy34⟩) (HSX.out _ HMD.out) (by rfl) ?rest34
              case hy34 => first | (intro w hSw; (try dsimp only at hSw); obtain ⟨s0, s1, s2, s3, s4, s5, s6, s7, s8, s9⟩ := hSw; go_simp; done) | (intro w hSw; (try dsimp only at hSw); obtain ⟨s0, s1, s2, s3, s4, s5, s6, s7, s8, s9⟩ := hSw; go_simp; with_reducible rfl)
              try simp only [Act.put, List.setIfInBounds_toArray, List.set_cons_zero, List.set_cons_succ, vagg]
              refine wpAnyH_ready (rs := [10]) (by kernel_rfl) (by simp) ?_
              refine AllReadyH.cons rfl (fun K hK => ?_) AllReadyH.nil
              go_simp
              refine (HCALL.out w8 HMD.out).mono ?_
              rintro e w4 ⟨rfl, hB4⟩
              have HB4 := hide (HMD.out.trans (hB4.mono HMD.out.size))
              refine hK.out _ _ (HSX.out _ HB4.out) (fun _ => ?_)
              clear hK K hB4
              try simp only [Act.put, List.setIfInBounds_toArray, List.set_cons_zero, List.set_cons_succ, vagg]
              obtain ⟨r, hr⟩ : ∃ r, eqJ Ti Ui = r := ⟨_, rfl⟩
              have HR := hide hr
              rw [hr]
              clear hr
              cases r
              · refine takeD (i := 11) (v := ?v35) (some 95) rfl (by kernel_rfl) (by kernel_rfl) (by kernel_rfl) (fun _ _ _ h => h) (Or.inl ⟨by rfl, ?hy35⟩) (HSX.out _ HB4.out) (by rfl) ?rest35
                case hy35 => first | (intro w hSw; (try dsimp only at hSw); obtain ⟨s0, s1, s2, s3, s4, s5, s6, s7, s8, s9⟩ := hSw; go_simp; done) | (intro w hSw; (try dsimp only at hSw); obtain ⟨s0, s1, s2, s3, s4, s5, s6, s7, s8, s9⟩ := hSw; go_simp; with_reducible rfl)
                try simp only [Act.put, List.setIfInBounds_toArray, List.set_cons_zero, List.set_cons_succ, vagg]
                refine wpAnyH_done (by kernel_rfl) ?_ _
                go_wp2
                go_ret
                refine ⟨?_, HB1.out.trans (HB4.out.mono HB1.out.size)⟩
                have hf : eqJ (.mk 6 s K L) (.mk 6 s' K' L') = false := Bool.eq_false_iff.2 (fun h => by have := ((eqJ_parts (.inr rfl)).1 h).2.2 i Ti Ui HTI.out HUI.out; rw [HR.out] at this; cases this)
                rw [hf]
                rfl
              · refine takeD (i := 11) (v := ?v36) (some 95) rfl (by kernel_rfl) (by kernel_rfl) (by kernel_rfl) (fun _ _ _ h => h) (Or.inl ⟨by rfl, ?hy36⟩) (HSX.out _ HB4.out) (by rfl) ?rest36
                case hy36 => first | (intro w hSw; (try dsimp only at hSw); obtain ⟨s0, s1, s2, s3, s4, s5, s6, s7, s8, s9⟩ := hSw; go_simp; done) | (intro w hSw; (try dsimp only at hSw); obtain ⟨s0, s1, s2, s3, s4, s5, s6, s7, s8, s9⟩ := hSw; go_simp; with_reducible rfl)
                try simp only [Act.put, List.setIfInBounds_toArray, List.set_cons_zero, List.set_cons_succ, vagg]
                refine wpAnyH_done (by kernel_rfl) ?_ _
                go_wp2
                go_roundw
                case rel =>
                  refine ⟨i1, by have := HI.out; omega, by first | rfl | go_num, HB4.out, fun q a b hq ha hb => ?_⟩
                  rcases Nat.lt_or_ge q i with h | h
                  · exact HL.out q a b h ha hb
                  · obtain rfl : q = i := by have := HI.out; omega
                    rw [HTI.out] at ha
                    rw [HUI.out] at hb
                    cases ha
                    cases hb
                    exact HR.out
                case measure => have := HI.out; simp [RowKit.intOf]; omega
            · obtain rfl : i = ln := by omega
              have d5 : ¬ (i : Int) < (i : Int) := by omega
              clear hlt hi
              go_wp2
              go_ret
              refine ⟨?_, HB1.out.trans (HBR.out.mono HB1.out.size)⟩
              rw [(eqJ_parts (.inr rfl)).2 ⟨fun _ => HQK.out, by have := HLN.out; have := HLN'.out; omega, fun q a b ha hb => HL.out q a b (by have := (List.getElem?_eq_some_iff.1 ha).1; have := HLN.out; omega) ha hb⟩]
              rfl
    obtain ⟨v0, v1, v2, v3, u0, u1, u2, u3⟩ := HV.out _ (Below.refl _ _)
    have d3 : (k == 3) = false := by simpa using h3
    have d4 : (k == 4) = false := by simpa using h4
    have d5 : (k != 5) = true := by simpa using h5
    have d6 : (k != 6) = true := by simpa using h6
    have HKK := hide (And.intro h3 (And.intro h4 (And.intro h5 h6)))
    go_enter Tryz.func9, Tryz.ntmps9
    go_upto_region 1 with fail
    rw [HW1.out]
    clear HW1
    go_wp2
    go_ret
    refine ⟨?_, HB1.out⟩
    rw [eqJ_plain HKK.out.1 HKK.out.2.1 HKK.out.2.2.1 HKK.out.2.2.2]
    rfl

end Go.Proofs.YtbdpmpepmjpadaaGreatDoor

namespace Go.Proofs.YtbdpmpepmjpadaaGreatDoor
set_option linter.unusedVariables false
set_option linter.unusedSimpArgs false
set_option maxRecDepth 100000
open Go Go.RowKit Go.Shelf Go.Lib

def SeqR (w : World) (K K' : List ByteArray) (e : Ending) (w' : World) : Prop := e = .returned (.bool (decide (K = K'))) ∧ Below w.heap.size w w'
set_option maxHeartbeats 8000000 in
theorem seq_any {W : World} {S S' : Nat → Prop} {u v : Value} {K K' : List ByteArray} (h : StrsS W S u K) (h' : StrsS W S' v K') (hl : K.length ≤ 1000000) (w : World) (hW : Below W.heap.size W w) : Calls Tryz.prog 78 #[u, v] w (SeqR w K K') := by
  obtain ⟨ka, kc, rfl, hKc⟩ := h
  obtain ⟨ka', kc', rfl, hKc'⟩ := h'
  obtain ⟨kn, hkn⟩ : ∃ kn, K.length = kn := ⟨_, rfl⟩
  obtain ⟨kn', hkn'⟩ : ∃ kn, K'.length = kn := ⟨_, rfl⟩
  have HKC : Hid (∀ w2, Below w.heap.size w w2 → ∀ j, j < kn → ∃ b off, ka = some ⟨b, off, none⟩ ∧ w2.cell? ⟨b, off + j, none⟩ = some (.string (nthS K j))) := fun w2 h2 j hj => by
    obtain ⟨b, off, e, _, hx⟩ := hKc j (by omega)
    exact ⟨b, off, e, ((hW.trans (h2.mono hW.size)).cell (p := ⟨b, off + j, none⟩) (block_lt hx)).trans hx⟩
  have HKC' : Hid (∀ w2, Below w.heap.size w w2 → ∀ j, j < kn' → ∃ b off, ka' = some ⟨b, off, none⟩ ∧ w2.cell? ⟨b, off + j, none⟩ = some (.string (nthS K' j))) := fun w2 h2 j hj => by
    obtain ⟨b, off, e, _, hx⟩ := hKc' j (by omega)
    exact ⟨b, off, e, ((hW.trans (h2.mono hW.size)).cell (p := ⟨b, off + j, none⟩) (block_lt hx)).trans hx⟩
  have HKN := hide hkn
  have HKN' := hide hkn'
  have HH : Hid (kn ≤ 1000000) := by show kn ≤ 1000000; omega
  rw [hkn, hkn']
  clear hKc hKc' hW hkn hkn' hl
  by_cases hK : kn = kn'
  rotate_left
  · have d1 : ((kn : Int) != (kn' : Int)) = true := by simp; omega
    have HKK := hide hK
    clear hK
    go_enter Tryz.func78, Tryz.ntmps78
    go_wp2
    go_ret
    refine ⟨?_, Below.refl _ _⟩
    rw [decide_eq_false (fun e => by have e := congrArg List.length e; have := HKK.out; have := HKN.out; have := HKN'.out; omega)]
    rfl
  subst hK
  go_enter Tryz.func78, Tryz.ntmps78
  go_wp2
  go_loopw [13] (fun iv wr => ∃ j : Nat, j ≤ kn ∧ iv = .int .i64 (j : Int) ∧ Below w.heap.size w wr ∧ ∀ q, q < j → nthS K q = nthS K' q) (fun iv _ => kn - (RowKit.intOf iv).toNat)
  case atStart => exact ⟨0, Nat.zero_le _, rfl, Below.refl _ _, fun q h => by omega⟩
  case round =>
    obtain ⟨j, hj, rfl, hB, hQ⟩ := hrel
    have HQ := hide hQ
    have HB2 := hide hB
    clear hB hQ
    generalize wr = wo at *
    by_cases hlt : j < kn
    · obtain ⟨b, off, rfl, cx⟩ := HKC.out wo HB2.out j hlt
      obtain ⟨b', off', rfl, cy⟩ := HKC'.out wo HB2.out j hlt
      obtain ⟨j1, hj1⟩ : ∃ j1, j + 1 = j1 := ⟨_, rfl⟩
      have e2 : (j : Int) + 1 = (j1 : Int) := by omega
      have g1 : (j1 : Int) ≤ 1000000000 := by have := HH.out; omega
      have d5 : (j : Int) < (kn : Int) := by omega
      have d0 : (0 : Int) ≤ (j : Int) := by omega
      have HI := hide (And.intro hlt hj1)
      obtain ⟨t, ht⟩ : ∃ t, nthS K j = t := ⟨_, rfl⟩
      obtain ⟨u, hu⟩ : ∃ u, nthS K' j = u := ⟨_, rfl⟩
      rw [ht] at cx
      rw [hu] at cy
      have HTJ := hide ht
      have HUJ := hide hu
      clear hlt hj1 hj ht hu
      by_cases htu : t = u
      · subst htu
        go_wp2
        go_quiet (fail)
        go_wp2
        go_roundw
        case rel =>
          refine ⟨j1, by have := HI.out; omega, by first | rfl | go_num, below_drewN HB2.out _, fun q hq => ?_⟩
          rcases Nat.lt_or_ge q j with h | h
          · exact HQ.out q h
          · obtain rfl : q = j := by have := HI.out; omega
            rw [HTJ.out, HUJ.out]
        case measure => have := HI.out; simp [RowKit.intOf]; omega
      · have dne : (t.toList == u.toList) = false := str_ne htu
        have dne2 : (t.toList != u.toList) = true := by rw [bne, dne]; rfl
        have HKK := hide htu
        clear htu
        go_wp2
        go_quiet (fail)
        go_wp2
        go_ret
        refine ⟨?_, below_drewN HB2.out _⟩
        rw [decide_eq_false (fun e => by rw [e] at HTJ; exact HKK.out (HTJ.out.symm.trans HUJ.out))]
        rfl
    · obtain rfl : j = kn := by omega
      have d5 : ¬ (j : Int) < (j : Int) := by omega
      have HQK : Hid (K = K') := keys_same (by have := HKN.out; have := HKN'.out; omega) (fun q hq => HQ.out q (by have := HKN.out; omega))
      clear hlt hj
      go_wp2
      go_ret
      refine ⟨?_, HB2.out⟩
      rw [decide_eq_true HQK.out]
      rfl

end Go.Proofs.YtbdpmpepmjpadaaGreatDoor

namespace Go.Proofs.YtbdpmpepmjpadaaGreatDoor
set_option linter.unusedVariables false
set_option linter.unusedSimpArgs false
set_option maxRecDepth 100000
open Go Go.RowKit Go.Shelf Go.Lib

def nilV : Value := .slice none 0 0
/-- A value without what its kind does not name. -/
def plainJ (x : JC) : JC :=
  if x.1 = 3 ∨ x.1 = 4 then (x.1, x.2.1, nilV, nilV)
  else if x.1 = 5 then (x.1, ⟨#[]⟩, nilV, x.2.2.2)
  else if x.1 = 6 then (x.1, ⟨#[]⟩, x.2.2.1, x.2.2.2)
  else (x.1, ⟨#[]⟩, nilV, nilV)
def PlainR (x : JC) (w : World) (e : Ending) (w' : World) : Prop := e = .returned (vagg (plainJ x)) ∧ Below w.heap.size w w'

set_option maxHeartbeats 8000000 in
theorem plain_any (w : World) (k : Int) (s : ByteArray) (ka la : Option Addr) (kn kc ln lc : Nat) : Calls Tryz.prog 72 #[vagg (k, s, .slice ka kn kc, .slice la ln lc)] w (PlainR (k, s, .slice ka kn kc, .slice la ln lc) w) := by
  by_cases h3 : k = 3
  · subst h3
    have HP : Hid (plainJ (3, s, .slice ka kn kc, .slice la ln lc) = (3, s, nilV, nilV)) := by show _ = _; simp [plainJ]
    unfold vagg
    simp only
    go_enter Tryz.func72, Tryz.ntmps72
    go_wp2
    have hx := BoxC.new (w.alloc (.cells #[.int .i64 3, .string s, .slice ka kn kc, .slice la ln lc] 27)) 27 #[.int .i64 3, .string s, .slice none 0 0, .slice none 0 0]
    rw [World.size_alloc] at hx
    refine bodyPost_ret (results_jv rfl rfl hx) rfl ?_
    refine ⟨?_, (bel w _).alloc (by simp) _⟩
    rw [HP.out]
    rfl
  by_cases h4 : k = 4
  · subst h4
    have HP : Hid (plainJ (4, s, .slice ka kn kc, .slice la ln lc) = (4, s, nilV, nilV)) := by show _ = _; simp [plainJ]
    unfold vagg
    simp only
    go_enter Tryz.func72, Tryz.ntmps72
    go_wp2
    have hx := BoxC.new (w.alloc (.cells #[.int .i64 4, .string s, .slice ka kn kc, .slice la ln lc] 27)) 27 #[.int .i64 4, .string s, .slice none 0 0, .slice none 0 0]
    rw [World.size_alloc] at hx
    refine bodyPost_ret (results_jv rfl rfl hx) rfl ?_
    refine ⟨?_, (bel w _).alloc (by simp) _⟩
    rw [HP.out]
    rfl
  by_cases h5 : k = 5
  · subst h5
    have HP : Hid (plainJ (5, s, .slice ka kn kc, .slice la ln lc) = (5, ⟨#[]⟩, nilV, .slice la ln lc)) := by show _ = _; simp [plainJ]
    unfold vagg
    simp only
    go_enter Tryz.func72, Tryz.ntmps72
    go_wp2
    have hx := BoxC.new (w.alloc (.cells #[.int .i64 5, .string s, .slice ka kn kc, .slice la ln lc] 27)) 27 #[.int .i64 5, .string ⟨#[]⟩, .slice none 0 0, .slice la ln lc]
    rw [World.size_alloc] at hx
    refine bodyPost_ret (results_jv rfl rfl hx) rfl ?_
    refine ⟨?_, (bel w _).alloc (by simp) _⟩
    rw [HP.out]
    rfl
  by_cases h6 : k = 6
  · subst h6
    have HP : Hid (plainJ (6, s, .slice ka kn kc, .slice la ln lc) = (6, ⟨#[]⟩, .slice ka kn kc, .slice la ln lc)) := by show _ = _; simp [plainJ]
    unfold vagg
    simp only
    go_enter Tryz.func72, Tryz.ntmps72
    go_wp2
    have hx := BoxC.new (w.alloc (.cells #[.int .i64 6, .string s, .slice ka kn kc, .slice la ln lc] 27)) 27 #[.int .i64 6, .string ⟨#[]⟩, .slice ka kn kc, .slice la ln lc]
    rw [World.size_alloc] at hx
    refine bodyPost_ret (results_jv rfl rfl hx) rfl ?_
    refine ⟨?_, (bel w _).alloc (by simp) _⟩
    rw [HP.out]
    rfl
  have d3 : (k == 3) = false := by simpa using h3
  have d4 : (k == 4) = false := by simpa using h4
  have d5 : (k == 5) = false := by simpa using h5
  have d6 : (k == 6) = false := by simpa using h6
  have HP : Hid (plainJ (k, s, .slice ka kn kc, .slice la ln lc) = (k, ⟨#[]⟩, nilV, nilV)) := by show _ = _; simp [plainJ, h3, h4, h5, h6]
  unfold vagg
  simp only
  go_enter Tryz.func72, Tryz.ntmps72
  go_wp2
  have hx := BoxC.new (w.alloc (.cells #[.int .i64 k, .string s, .slice ka kn kc, .slice la ln lc] 27)) 27 #[.int .i64 k, .string ⟨#[]⟩, .slice none 0 0, .slice none 0 0]
  rw [World.size_alloc] at hx
  refine bodyPost_ret (results_jv rfl rfl hx) rfl ?_
  refine ⟨?_, (bel w _).alloc (by simp) _⟩
  rw [HP.out]
  rfl

end Go.Proofs.YtbdpmpepmjpadaaGreatDoor

namespace Go.Proofs.YtbdpmpepmjpadaaGreatDoor
set_option linter.unusedVariables false
set_option linter.unusedSimpArgs false
set_option maxRecDepth 100000
open Go Go.RowKit Go.Shelf Go.Lib

def sP (k : Int) (s : ByteArray) : ByteArray := if k = 3 ∨ k = 4 then s else ⟨#[]⟩
def kP (k : Int) (K : List ByteArray) : List ByteArray := if k = 6 then K else []
def lP (k : Int) (L : List JT) : List JT := if k = 5 ∨ k = 6 then L else []

theorem strs_nil {W : World} {S : Nat → Prop} : StrsS W S (.slice none 0 0) [] := ⟨none, 0, rfl, fun j hj => absurd hj (by simp)⟩
theorem plain_parts {W : World} {S : Nat → Prop} (k : Int) (s : ByteArray) {K : List ByteArray} {L : List JT} {ka la : Option Addr} {kc lc : Nat} (hK : StrsS W S (.slice ka K.length kc) K) :
    ∃ a1 c1 a2 c2, plainJ (k, s, .slice ka K.length kc, .slice la L.length lc) = (k, sP k s, .slice a1 (kP k K).length c1, .slice a2 (lP k L).length c2) ∧ StrsS W S (.slice a1 (kP k K).length c1) (kP k K) ∧ ∀ i, i < (lP k L).length → i < L.length ∧ lP k L = L ∧ a2 = la := by
  by_cases h3 : k = 3
  · subst h3
    exact ⟨none, 0, none, 0, by simp [plainJ, sP, kP, lP, nilV], strs_nil, fun i hi => by simp [lP] at hi⟩
  by_cases h4 : k = 4
  · subst h4
    exact ⟨none, 0, none, 0, by simp [plainJ, sP, kP, lP, nilV], strs_nil, fun i hi => by simp [lP] at hi⟩
  by_cases h5 : k = 5
  · subst h5
    exact ⟨none, 0, la, lc, by simp [plainJ, sP, kP, lP, nilV], strs_nil, fun i hi => ⟨by simpa [lP] using hi, by simp [lP], rfl⟩⟩
  by_cases h6 : k = 6
  · subst h6
    exact ⟨ka, kc, la, lc, by simp [plainJ, sP, kP, lP, nilV], by simpa [kP] using hK, fun i hi => ⟨by simpa [lP] using hi, by simp [lP], rfl⟩⟩
  · exact ⟨none, 0, none, 0, by simp [plainJ, sP, kP, lP, nilV, h3, h4, h5, h6], by simpa [kP, h6] using strs_nil, fun i hi => by simp [lP, h5, h6] at hi⟩

theorem eqJ_by {k k' : Int} {s s' : ByteArray} {K K' : List ByteArray} {L L' : List JT} : eqJ (.mk k s K L) (.mk k' s' K' L') = true ↔ k = k' ∧ sP k s = sP k' s' ∧ kP k K = kP k' K' ∧ eqJs (lP k L) (lP k' L') = true := by
  by_cases hk : k = k'
  rotate_left
  · rw [eqJ_kind hk]
    exact ⟨fun h => (by cases h), fun h => absurd h.1 hk⟩
  subst hk
  by_cases h3 : k = 3
  · subst h3
    rw [eqJ_text (.inl rfl)]
    simp [sP, kP, lP, eqJs]
  by_cases h4 : k = 4
  · subst h4
    rw [eqJ_text (.inr rfl)]
    simp [sP, kP, lP, eqJs]
  by_cases h5 : k = 5
  · subst h5
    rw [eqJ_five]
    simp [sP, kP, lP]
  by_cases h6 : k = 6
  · subst h6
    rw [eqJ_six]
    simp [sP, kP, lP]
  · rw [eqJ_plain h3 h4 h5 h6]
    simp [sP, kP, lP, h3, h4, h5, h6, eqJs]

end Go.Proofs.YtbdpmpepmjpadaaGreatDoor

namespace Go.Proofs.YtbdpmpepmjpadaaGreatDoor
set_option linter.unusedVariables false
set_option linter.unusedSimpArgs false
set_option maxRecDepth 100000
open Go Go.RowKit Go.Shelf Go.Lib

mutual
theorem eqJ_refl : ∀ T : JT, eqJ T T = true
  | .mk k s K L => by
    have := eqJs_refl L
    rw [eqJ]
    simp [this]
theorem eqJs_refl : ∀ L : List JT, eqJs L L = true
  | [] => by rw [eqJs]
  | a :: l => by rw [eqJs, eqJ_refl a, eqJs_refl l]; rfl
end

end Go.Proofs.YtbdpmpepmjpadaaGreatDoor
