/- Texts of json and rpc, part 1: JVal, JParse, JParse2, JWr, JWr2, JWr3, JPrint, JPrint2, JWritten, JOf, JMade, JMade2, JMade3, JsonMakesW, JTree, JLight, JOwnQ, JTOf, JTTo, JCount, JFew, JREq0, JREq, JSeq, JPlain, JEq0, JRefl, JClo0, JClo, JInts. -/
import Derived.Test.YtbdpmpepmjpadaaGreatDoorJArr2
import Derived.Test.YtbdpmpepmjpadaaGreatDoorUVal
import Derived.Recover
import Derived.Defers
import Derived.Lib.ItoaNum
import Derived.Lib.SliceRun
import Derived.Test.YtbdpmpepmjpadaaGreatDoorJNum
import Derived.Test.YtbdpmpepmjpadaaGreatDoorFStr
import Derived.Lib.AtoiAllCases
import Derived.Test.YtbdpmpepmjpadaaGreatDoorShelf
namespace Go.Proofs.YtbdpmpepmjpadaaGreatDoor
set_option linter.unusedVariables false
set_option linter.unusedSimpArgs false
set_option maxRecDepth 100000
open Go Go.RowKit Go.Shelf Go.Lib

theorem numEnd_gt {T : List Nat} {p : Nat} (h : (numEnd T p).2 = true) : p < (numEnd T p).1 := by
  have a1 : ∀ p, p ≤ num1 T p := fun p => by unfold num1; split <;> omega
  have a2 : ∀ p, (num2 T p).2 = true → p < (num2 T p).1 := fun p => by
    unfold num2
    split
    · intro _; show p < p + 1; omega
    · intro h; exact of_decide_eq_true h
  have a3 : ∀ x : Nat × Bool, (num3 T x).2 = true → x.2 = true ∧ x.1 ≤ (num3 T x).1 := fun x => by
    unfold num3
    cases e : (x.2 && hasB T x.1 [46]) with
    | true =>
      have := (Bool.and_eq_true _ _ ▸ e : _ ∧ _)
      have h1 := digEnd_ge T T.length (x.1 + 1)
      intro _
      refine ⟨this.1, ?_⟩
      show x.1 ≤ digEnd T (x.1 + 1)
      unfold digEnd
      omega
    | false => exact fun h => ⟨h, Nat.le_refl _⟩
  have a5 : ∀ p, p ≤ num5 T p := fun p => by unfold num5; split <;> omega
  have a4 : ∀ x : Nat × Bool, (num4 T x).2 = true → x.2 = true ∧ x.1 ≤ (num4 T x).1 := fun x => by
    unfold num4
    cases e : (x.2 && hasB T x.1 [101, 69]) with
    | true =>
      have := (Bool.and_eq_true _ _ ▸ e : _ ∧ _)
      have h1 := digEnd_ge T T.length (num5 T (x.1 + 1))
      have h2 := a5 (x.1 + 1)
      intro _
      refine ⟨this.1, ?_⟩
      show x.1 ≤ digEnd T (num5 T (x.1 + 1))
      unfold digEnd
      omega
    | false => exact fun h => ⟨h, Nat.le_refl _⟩
  unfold numEnd at h ⊢
  have h4 := a4 _ h
  have h3 := a3 _ h4.1
  have h2 := a2 _ h3.1
  have h1 := a1 p
  omega

/-- No value but a number begins with this byte. -/
def numB (c : Nat) : Prop := c ≠ 110 ∧ c ≠ 102 ∧ c ≠ 116 ∧ c ≠ 34 ∧ c ≠ 91 ∧ c ≠ 123
instance (c : Nat) : Decidable (numB c) := by unfold numB; exact inferInstance
/-- A value that is a number. -/
def valN (T : List Nat) (q : Nat) : Option VR :=
  if blEnd T q = T.length then some (.bad T.length 11)
  else if numB (nth T (blEnd T q)) then
    (if (numEnd T (blEnd T q)).2 then some (.ok (nC (strOf ((T.drop (blEnd T q)).take ((numEnd T (blEnd T q)).1 - blEnd T q)))) (numEnd T (blEnd T q)).1)
     else some (.bad (numEnd T (blEnd T q)).1 (wrongE T (numEnd T (blEnd T q)).1)))
  else none
theorem okN (T : List Nat) : OkV (fun q => if q ≤ T.length then valN T q else none) T := by
  intro q x p h
  dsimp only at h
  by_cases hq : q ≤ T.length
  · rw [if_pos hq] at h
    unfold valN at h
    have h1 := blEnd_ge T q
    have h2 := blEnd_le hq
    by_cases g1 : blEnd T q = T.length
    · rw [if_pos g1] at h; cases h
    · rw [if_neg g1] at h
      by_cases g2 : numB (nth T (blEnd T q))
      · rw [if_pos g2] at h
        cases e : (numEnd T (blEnd T q)).2 with
        | true =>
          rw [e, if_pos rfl] at h
          cases h
          have := numEnd_gt e
          have := numEnd_le h2
          exact ⟨by omega, by omega, rfl, rfl⟩
        | false => rw [e] at h; cases h
      · rw [if_neg g2] at h; cases h
  · rw [if_neg hq] at h; cases h

/-- Four cells are put into a box that is new. -/
theorem put4 {w W : World} {R B : Nat} {sv : Value} {q d : Nat} {t : TypeId} {cs : Array Value} (hB : w.heap.size ≤ B) (hR : R < w.heap.size) (hr : RdJ W R sv q d) (hf : Fr R none w W) (x0 x1 x2 x3 : Value) :
    RdJ ((((W.setCell ⟨B, 0, none⟩ x0).setCell ⟨B, 1, none⟩ x1).setCell ⟨B, 2, none⟩ x2).setCell ⟨B, 3, none⟩ x3) R sv q d ∧ Fr R none w ((((W.setCell ⟨B, 0, none⟩ x0).setCell ⟨B, 1, none⟩ x1).setCell ⟨B, 2, none⟩ x2).setCell ⟨B, 3, none⟩ x3) := by
  have hn : ∀ {W : World} (i : Nat) (x : Value), Fr R none w W → Fr R none w (W.setCell ⟨B, i, none⟩ x) := fun i x h => h.setNew hB i x
  exact ⟨(((BoxC.other hr (by omega) 0 _).other (by omega) 1 _).other (by omega) 2 _).other (by omega) 3 _, hn 3 _ (hn 2 _ (hn 1 _ (hn 0 _ hf)))⟩

set_option maxHeartbeats 4000000 in
theorem value_num (w : World) (R q d : Nat) (ao : Option Addr) (cap : Nat) (T : List Nat) (r : VR) (hval : valN T q = some r) (hr : RdJ w R (.slice ao T.length cap) q d) (hT : TxJ w R ao cap T) (hq : q ≤ T.length) :
    Calls Tryz.prog 48 #[.pointer (some ⟨R, 0, none⟩)] w (ValJ r w R (.slice ao T.length cap) d) := by
  have hRw := hr.lt
  have hb0 := bel w (.cells jv0 27)
  have hx0 := BoxC.new w 27 jv0
  unfold jv0 at hb0 hx0
  have hr0 := hr.below hb0
  have hT0 := hT.fr (Fr.of hb0)
  generalize hw0 : w.alloc (.cells #[.int .i64 0, .string ⟨#[]⟩, .slice none 0 0, .slice none 0 0] 27) = w0 at *
  have HS := hide (skipBlanks_calls w0 R q d ao cap T hr0 hT0 hq)
  have hble := blEnd_le hq
  unfold valN at hval
  generalize blEnd T q = b at *
  have HW0 := hide hw0
  have HB0 := hide hb0
  have HT0 := hide hT0
  have HX0 := hide hx0
  have HRW := hide hRw
  have HBL := hide hble
  clear hr hT hq hb0 hx0 hr0 hT0 hw0 hRw hble
  go_enter Tryz.func48, Tryz.ntmps48
  go_wp2_with fail
  rw [HW0.out]
  clear HW0
  refine HS.out.mono ?_
  rintro e w1 ⟨rfl, hr1, _, hf1⟩
  have hx1 := HX0.out.fr hf1 (by have := HRW.out; omega) (by simp)
  have HT1 := hide (HT0.out.fr hf1)
  have HF1 := hide (Fr.after HB0.out hf1)
  have HR1 := hide hr1
  have HX1 := hide hx1
  clear hf1 hx1 HS HT0 HX0 HB0 hr1
  by_cases g1 : b = T.length
  · rw [if_pos g1] at hval
    cases hval
    subst g1
    have HN := hide (next_none w1 R d ao cap T HR1.out)
    go_wp2_with fail
    refine HN.out.mono ?_
    rintro e w2 ⟨he, hB⟩
    have HB := hide hB
    rw [show e = _ from he]
    clear he hB
    go_wp2
    exact ⟨rfl, rfl, HF1.out.then HB.out⟩
  · rw [if_neg g1] at hval
    have hlt : b < T.length := by have := HBL.out; omega
    have HN := hide (next_some w1 R b d ao cap T HR1.out HT1.out hlt)
    by_cases g2 : numB (nth T b)
    · rw [if_pos g2] at hval
      obtain ⟨n1, n2, n3, n4, n5, n6⟩ := g2
      generalize nth T b = c at *
      have d1 : ((c : Int) == 110) = false := beq_eq_false_iff_ne.2 (by omega)
      have d2 : ((c : Int) == 102) = false := beq_eq_false_iff_ne.2 (by omega)
      have d3 : ((c : Int) == 116) = false := beq_eq_false_iff_ne.2 (by omega)
      have d4 : ((c : Int) == 34) = false := beq_eq_false_iff_ne.2 (by omega)
      have d5 : ((c : Int) == 91) = false := beq_eq_false_iff_ne.2 (by omega)
      have d6 : ((c : Int) == 123) = false := beq_eq_false_iff_ne.2 (by omega)
      clear n1 n2 n3 n4 n5 n6 g1 hlt
      go_wp2_with fail
      refine HN.out.mono ?_
      rintro e w2 ⟨rfl, hB⟩
      have HX2 := hide (HX1.out.below hB)
      have HF2 := hide (HF1.out.then hB)
      have HR2 := hide (HR1.out.below hB)
      have HT2 := hide (HT1.out.fr (Fr.of hB))
      clear hB HX1 HR1 HT1 HF1 HN
      cases e : (numEnd T b).2 with
      | true =>
        rw [e, if_pos rfl] at hval
        have HO := hide (number_ok w2 R b d ao cap T HR2.out HT2.out HBL.out e)
        generalize strOf ((T.drop b).take ((numEnd T b).1 - b)) = st at *
        cases hval
        generalize (numEnd T b).1 = z at *
        clear e
        unfold numV valV nilSl at HO
        go_wp2_with fail
        refine HO.out.mono ?_
        rintro e w3 ⟨rfl, hr3, hf3⟩
        have hx3 := HX2.out.fr hf3 (by have := HRW.out; omega) (by simp)
        have HF3 := hide (HF2.out.trans hf3 (.inl rfl))
        have HR3 := hide hr3
        have HX3 := hide hx3
        have x0 : w3.cell? ⟨w.heap.size, 0, none⟩ = some (.int .i64 0) := hx3.cell 0
        have x1 : w3.cell? ⟨w.heap.size, 1, none⟩ = some (.string ⟨#[]⟩) := hx3.cell 1
        have x2 : w3.cell? ⟨w.heap.size, 2, none⟩ = some (.slice none 0 0) := hx3.cell 2
        have x3 : w3.cell? ⟨w.heap.size, 3, none⟩ = some (.slice none 0 0) := hx3.cell 3
        have y0 := hx3.frozen 0
        have y1 := hx3.frozen 1
        have y2 := hx3.frozen 2
        have y3 := hx3.frozen 3
        have lX := hx3.lt
        clear hr3 hf3 hx3 HX2 HF2 HR2 HT2
        go_wp2
        refine bodyPost_ret (results_jv rfl rfl ((((HX3.out.set 0 (.int .i64 3)).set 1 (.string st)).set 2 (.slice none 0 0)).set 3 (.slice none 0 0))) rfl ?_
        exact ⟨rfl, put4 (t := 0) (cs := #[]) (Nat.le_refl _) HRW.out HR3.out HF3.out _ _ _ _⟩
      | false =>
        rw [e] at hval
        have HO := hide (number_bad w2 R b d ao cap T HR2.out HT2.out HBL.out e)
        cases hval
        generalize wrongE T (numEnd T b).1 = ze at *
        generalize (numEnd T b).1 = z at *
        clear e
        go_wp2_with fail
        refine HO.out.mono ?_
        rintro e w3 ⟨he, hB⟩
        have HB := hide hB
        rw [show e = _ from he]
        clear he hB
        go_wp2
        exact ⟨rfl, rfl, HF2.out.then HB.out⟩
    · rw [if_neg g2] at hval; cases hval

set_option maxHeartbeats 4000000 in
theorem nested_calls (w : World) (R p d : Nat) (ao : Option Addr) (cap : Nat) (T : List Nat) (r : AR) (hr : RdJ w R (.slice ao T.length cap) p d) (hT : TxJ w R ao cap T) (hd : d < 64) (hp : p < T.length)
    (hA : ∀ W, RdJ W R (.slice ao T.length cap) (p + 1) (d + 1) → TxJ W R ao cap T → Calls Tryz.prog 68 #[.pointer (some ⟨R, 0, none⟩)] W (ArrJ r W R (.slice ao T.length cap) (d + 1))) :
    Calls Tryz.prog 67 #[.pointer (some ⟨R, 0, none⟩), .func (.func 68) #[.pointer (some ⟨R, 0, none⟩)] #[]] w (ArrJ r w R (.slice ao T.length cap) d) := by
  have hRw := hr.lt
  have hb0 := bel w (.cells jv0 27)
  have hx0 := BoxC.new w 27 jv0
  unfold jv0 at hb0 hx0
  have hr0 := hr.below hb0
  have hT0 := hT.fr (Fr.of hb0)
  generalize hw0 : w.alloc (.cells #[.int .i64 0, .string ⟨#[]⟩, .slice none 0 0, .slice none 0 0] 27) = w0 at *
  obtain ⟨p1, hp1⟩ : ∃ p1, p + 1 = p1 := ⟨_, rfl⟩
  obtain ⟨d1, hd1⟩ : ∃ d1, d + 1 = d1 := ⟨_, rfl⟩
  rw [hp1, hd1] at hA
  have e1 : (p : Int) + 1 = (p1 : Int) := by omega
  have e2 : (d : Int) + 1 = (d1 : Int) := by omega
  have e3 : (d1 : Int) - 1 = (d : Int) := by omega
  have g1 : (p1 : Int) ≤ 1000000000 := by have := hT.len; omega
  have g2 : (d1 : Int) ≤ 1000000000 := by omega
  have g3 : ((d : Int) == 64) = false := beq_eq_false_iff_ne.2 (by omega)
  have c1 : w0.cell? ⟨R, 1, none⟩ = some (.int .i64 (p : Int)) := hr0.cell 1
  have c2 : w0.cell? ⟨R, 2, none⟩ = some (.int .i64 (d : Int)) := hr0.cell 2
  have f1 := hr0.frozen 1
  have f2 := hr0.frozen 2
  have lR := hr0.lt
  have hra : RdJ ((w0.setCell ⟨R, 1, none⟩ (.int .i64 (p1 : Int))).setCell ⟨R, 2, none⟩ (.int .i64 (d1 : Int))) R (.slice ao T.length cap) p1 d1 := (BoxC.set hr0 1 _).set 2 _
  have hfa : Fr R none w0 ((w0.setCell ⟨R, 1, none⟩ (.int .i64 (p1 : Int))).setCell ⟨R, 2, none⟩ (.int .i64 (d1 : Int))) := ((Fr.refl R none w0).set 1 _).set 2 _
  have hxa := (hx0.fr hfa (by omega) (by simp))
  have HCA := hide (hA _ hra (hT0.fr hfa))
  have HW0 := hide hw0
  have HFA := hide (Fr.after hb0 hfa)
  have HXA := hide hxa
  have HRW := hide hRw
  clear hr hT hd hp hA hb0 hx0 hr0 hT0 hw0 hp1 hd1 hra hfa hxa hRw
  go_enter Tryz.func67, Tryz.ntmps67
  go_upto_region 1 with fail
  rw [HW0.out]
  clear HW0
  go_wp2_with fail
  refine HCA.out.mono ?_
  intro e w1 hE
  cases r with
  | bad q e0 =>
    obtain ⟨he, hf⟩ := hE
    have HF := hide (HFA.out.trans hf (.inl rfl))
    rw [show e = _ from he]
    clear he hf
    go_wp2
    exact ⟨rfl, rfl, HF.out⟩
  | ok M q =>
    obtain ⟨lv, rfl, ho, hm, hr1, hf⟩ := hE
    obtain ⟨va, vn, vc, rfl⟩ := ho.slice
    unfold vagg
    have hsz : w.heap.size < w1.heap.size := (HXA.out.fr hf (by have := HRW.out; omega) (by simp)).lt
    have hx1 := HXA.out.fr hf (by have := HRW.out; omega) (by simp)
    have hf1 := HFA.out.trans hf (.inl rfl)
    have hb2 := bel w1 (.cells #[.int .i64 5, .string ⟨#[]⟩, .slice none 0 0, .slice va vn vc] 27)
    have hv2 := BoxC.new w1 27 #[.int .i64 5, .string ⟨#[]⟩, .slice none 0 0, .slice va vn vc]
    have ho2 : OwnV w.heap.size (w1.alloc (.cells #[.int .i64 5, .string ⟨#[]⟩, .slice none 0 0, .slice va vn vc] 27)) (.slice va vn vc) M := (ho.keep (fun j e => hb2.block j (ho.lt j e).2)).mono (by have := HFA.out.size; omega)
    have hox : (Value.slice va vn vc).ownBlock ≠ some w.heap.size := fun e => by
      have := (ho.lt _ e).1
      have := HXA.out.lt
      omega
    have hr2 := hr1.below hb2
    have hf2 := hf1.then hb2
    have hx2 := hx1.below hb2
    have hrw := HRW.out
    generalize hB : w1.heap.size = B at *
    generalize hw2 : w1.alloc (.cells #[.int .i64 5, .string ⟨#[]⟩, .slice none 0 0, .slice va vn vc] 27) = w2 at *
    have c2 : w2.cell? ⟨R, 2, none⟩ = some (.int .i64 (d1 : Int)) := hr2.cell 2
    have f2 := hr2.frozen 2
    have lR2 := hr2.lt
    have hr3 : RdJ (w2.setCell ⟨R, 2, none⟩ (.int .i64 (d : Int))) R (.slice ao T.length cap) q d := BoxC.set hr2 2 _
    have hf3 : Fr R none w (w2.setCell ⟨R, 2, none⟩ (.int .i64 (d : Int))) := hf2.set 2 _
    have hx3 := hx2.other (show w.heap.size ≠ R by omega) 2 (.int .i64 (d : Int))
    have hv3 := hv2.other (show B ≠ R by omega) 2 (.int .i64 (d : Int))
    have ho3 := ho2.set (B := R) (i := 2) (x := .int .i64 (d : Int)) (fun e => by have := (ho2.lt _ e).1; omega)
    have HW2 := hide hw2
    have HBB := hide hB
    have HR3 := hide hr3
    have HF3 := hide hf3
    have HX3 := hide hx3
    have HO3 := hide ho3
    have HOX := hide hox
    have HM := hide hm
    have hne1 : ¬ R = w.heap.size := by omega
    have hne2 : ¬ R = B := by omega
    have hne3 : ¬ w.heap.size = B := by omega
    have v0 := hv3.cell 0
    have v1 := hv3.cell 1
    have v2 := hv3.cell 2
    have v3 := hv3.cell 3
    have lV := hv3.lt
    have x0 := hx3.cell 0
    have x1 := hx3.cell 1
    have x2 := hx3.cell 2
    have x3 := hx3.cell 3
    have y0 := hx3.frozen 0
    have y1 := hx3.frozen 1
    have y2 := hx3.frozen 2
    have y3 := hx3.frozen 3
    have lX := hx3.lt
    simp only [List.getElem?_toArray, List.getElem?_cons_zero, List.getElem?_cons_succ, Nat.reduceAdd] at v0 v1 v2 v3 x0 x1 x2 x3
    clear ho hm hr1 hf hx1 hf1 hb2 hv2 ho2 hr2 hf2 hx2 hw2 hr3 hf3 hx3 hv3 ho3 hox hB hsz hrw
    go_upto_region 6 with fail
    rw [HW2.out, HBB.out]
    clear HW2 HBB
    go_wp2
    refine bodyPost_ret (results_jv rfl rfl ((((HX3.out.set 0 (.int .i64 5)).set 1 (.string ⟨#[]⟩)).set 2 (.slice none 0 0)).set 3 (.slice va vn vc))) rfl ?_
    exact ⟨_, rfl, (((HO3.out.set HOX.out).set HOX.out).set HOX.out).set HOX.out, HM.out, put4 (t := 0) (cs := #[]) (Nat.le_refl _) HRW.out HR3.out HF3.out _ _ _ _⟩

set_option maxHeartbeats 4000000 in
theorem value_arr (w : World) (R q d : Nat) (ao : Option Addr) (cap : Nat) (T : List Nat) (r : AR) (hr : RdJ w R (.slice ao T.length cap) q d) (hT : TxJ w R ao cap T) (hq : q ≤ T.length) (hlt : blEnd T q < T.length) (hc : nth T (blEnd T q) = 91) (hd : d < 64)
    (hA : ∀ W, RdJ W R (.slice ao T.length cap) (blEnd T q + 1) (d + 1) → TxJ W R ao cap T → Calls Tryz.prog 68 #[.pointer (some ⟨R, 0, none⟩)] W (ArrJ r W R (.slice ao T.length cap) (d + 1))) :
    Calls Tryz.prog 48 #[.pointer (some ⟨R, 0, none⟩)] w (ArrJ r w R (.slice ao T.length cap) d) := by
  have hmf : ∀ (fn : Fn) (first cap : Array Value) (w : World), (Instr.makeFunc fn first cap).run Tryz.prog w = .ok (.func fn first cap) w := fun _ _ _ _ => rfl
  have hRw := hr.lt
  have hb0 := bel w (.cells jv0 27)
  have hx0 := BoxC.new w 27 jv0
  unfold jv0 at hb0 hx0
  have hr0 := hr.below hb0
  have hT0 := hT.fr (Fr.of hb0)
  generalize hw0 : w.alloc (.cells #[.int .i64 0, .string ⟨#[]⟩, .slice none 0 0, .slice none 0 0] 27) = w0 at *
  have HS := hide (skipBlanks_calls w0 R q d ao cap T hr0 hT0 hq)
  generalize blEnd T q = b at *
  have HW0 := hide hw0
  have HB0 := hide hb0
  have HT0 := hide hT0
  have HX0 := hide hx0
  have HRW := hide hRw
  have HLT := hide hlt
  have HD := hide hd
  have HA := hide hA
  have HCC := hide hc
  clear hr hT hq hb0 hx0 hr0 hT0 hw0 hRw hlt hd hA hc
  go_enter Tryz.func48, Tryz.ntmps48
  go_wp2_with fail
  rw [HW0.out]
  clear HW0
  refine HS.out.mono ?_
  rintro e w1 ⟨rfl, hr1, _, hf1⟩
  have hx1 := HX0.out.fr hf1 (by have := HRW.out; omega) (by simp)
  have HT1 := hide (HT0.out.fr hf1)
  have HF1 := hide (Fr.after HB0.out hf1)
  have HR1 := hide hr1
  have HX1 := hide hx1
  clear hf1 hx1 HS HT0 HX0 HB0 hr1
  have HN := hide (next_some w1 R b d ao cap T HR1.out HT1.out HLT.out)
  rw [HCC.out] at HN
  go_wp2_with fail
  refine HN.out.mono ?_
  rintro e w2 ⟨rfl, hB⟩
  have HX2 := hide (HX1.out.below hB)
  have HF2 := hide (HF1.out.then hB)
  have HR2 := hide (HR1.out.below hB)
  have HT2 := hide (HT1.out.fr (Fr.of hB))
  clear hB HX1 HR1 HT1 HF1 HN
  have HC := hide (nested_calls w2 R b d ao cap T r HR2.out HT2.out HD.out HLT.out HA.out)
  go_wp2_with fail
  refine HC.out.mono ?_
  intro e w3 hE
  cases r with
  | bad z e0 =>
    obtain ⟨he, hf⟩ := hE
    have HF := hide (HF2.out.trans hf (.inl rfl))
    rw [show e = _ from he]
    clear he hf
    go_wp2
    exact ⟨rfl, rfl, HF.out⟩
  | ok M z =>
    obtain ⟨lv, rfl, ho, hm, hr3, hf3⟩ := hE
    obtain ⟨va, vn, vc, rfl⟩ := ho.slice
    unfold vagg
    have hx3 := HX2.out.fr hf3 (by have := HRW.out; omega) (by simp)
    have HF3 := hide (HF2.out.trans hf3 (.inl rfl))
    have HR3 := hide hr3
    have HX3 := hide hx3
    have hox : (Value.slice va vn vc).ownBlock ≠ some w.heap.size := fun e => by
      have := (ho.lt _ e).1
      have := HX2.out.lt
      omega
    have HOX := hide hox
    have HO3 := hide (ho.mono (show w.heap.size ≤ w2.heap.size by have := HF2.out.size; omega))
    have HM := hide hm
    have x0 : w3.cell? ⟨w.heap.size, 0, none⟩ = some (.int .i64 0) := hx3.cell 0
    have x1 : w3.cell? ⟨w.heap.size, 1, none⟩ = some (.string ⟨#[]⟩) := hx3.cell 1
    have x2 : w3.cell? ⟨w.heap.size, 2, none⟩ = some (.slice none 0 0) := hx3.cell 2
    have x3 : w3.cell? ⟨w.heap.size, 3, none⟩ = some (.slice none 0 0) := hx3.cell 3
    have y0 := hx3.frozen 0
    have y1 := hx3.frozen 1
    have y2 := hx3.frozen 2
    have y3 := hx3.frozen 3
    have lX := hx3.lt
    clear hr3 hf3 hx3 HX2 HF2 HR2 HT2 ho hox hm
    go_wp2
    refine bodyPost_ret (results_jv rfl rfl ((((HX3.out.set 0 (.int .i64 5)).set 1 (.string ⟨#[]⟩)).set 2 (.slice none 0 0)).set 3 (.slice va vn vc))) rfl ?_
    exact ⟨_, rfl, (((HO3.out.set HOX.out).set HOX.out).set HOX.out).set HOX.out, HM.out, put4 (t := 0) (cs := #[]) (Nat.le_refl _) HRW.out HR3.out HF3.out _ _ _ _⟩

end Go.Proofs.YtbdpmpepmjpadaaGreatDoor

namespace Go.Proofs.YtbdpmpepmjpadaaGreatDoor
set_option linter.unusedVariables false
set_option linter.unusedSimpArgs false
set_option maxRecDepth 100000
open Go Go.RowKit Go.Shelf Go.Lib

theorem results_ft {fn : Func} {i : Tmp} (h : fn.results = #[.cell i 97]) {tmps : Array Value} {W : World} {b : Nat} {x y : Value} {t : TypeId} (hp : tmps.getD i undef = .pointer (some ⟨b, 0, none⟩)) (T : BoxC W b t #[x, y]) :
    (results fn tmps).run Tryz.prog W = .ok (.agg #[x, y]) W := by
  have c0 : W.cell? ⟨b, 0, none⟩ = some x := T.cell 0
  have c1 : W.cell? ⟨b, 1, none⟩ = some y := T.cell 1
  have hp' : tmps[i]?.getD undef = .pointer (some ⟨b, 0, none⟩) := by simpa using hp
  simp [results, h, hp', go_sem, c0, c1]

theorem assert_yes (W : World) (v : Value) : (Instr.typeAssert (.iface 97 v) 20 97 true).run Tryz.prog W = .ok (.tuple #[v, .bool true]) W := by kernel_rfl

set_option maxHeartbeats 4000000 in
theorem caught_calls (w : World) (p : Nat) (e : Int) :
    Calls Tryz.prog 47 #[faultV p e] w fun n w' => n = .returned (.agg #[.int .i64 (p : Int), .int .i64 e]) ∧ Below w.heap.size w w' := by
  have has := assert_yes
  unfold faultV
  go_enter Tryz.func47, Tryz.ntmps47
  go_wp2
  refine bodyPost_ret (results_ft rfl rfl ((BoxC.new w 97 #[.int .i64 (p : Int), .int .i64 e]).alloc _)) rfl ?_
  exact ⟨rfl, ((Below.refl _ w).alloc (Nat.le_refl _) _).alloc (by simp) _⟩

/-- What Parse answers into: three boxes. -/
structure ResJ (W : World) (A : Nat) (x y z u pv ev : Value) : Prop where
  v : BoxC W A 27 #[x, y, z, u]
  p : BoxC W (A + 1) 3 #[pv]
  e : BoxC W (A + 1 + 1) 66 #[ev]

theorem BoxC.drew {W : World} {B : Nat} {t : TypeId} {cs : Array Value} (h : BoxC W B t cs) : BoxC W.drew B t cs := h
theorem resJ_v {W : World} {A : Nat} {x y z u : Value} {t : TypeId} (h : BoxC W A t #[x, y, z, u]) (x' y' z' u' : Value) :
    BoxC ((((W.setCell ⟨A, 0, none⟩ x').setCell ⟨A, 1, none⟩ y').setCell ⟨A, 2, none⟩ z').setCell ⟨A, 3, none⟩ u') A t #[x', y', z', u'] := by
  have h1 : BoxC (W.setCell ⟨A, 0, none⟩ x') A t #[x', y, z, u] := h.set 0 x'
  have h2 : BoxC ((W.setCell ⟨A, 0, none⟩ x').setCell ⟨A, 1, none⟩ y') A t #[x', y', z, u] := h1.set 1 y'
  have h3 : BoxC (((W.setCell ⟨A, 0, none⟩ x').setCell ⟨A, 1, none⟩ y').setCell ⟨A, 2, none⟩ z') A t #[x', y', z', u] := h2.set 2 z'
  exact h3.set 3 u'
theorem box_off4 {W : World} {A B : Nat} {t : TypeId} {cs : Array Value} (h : BoxC W B t cs) (hne : B ≠ A) (x' y' z' u' : Value) :
    BoxC ((((W.setCell ⟨A, 0, none⟩ x').setCell ⟨A, 1, none⟩ y').setCell ⟨A, 2, none⟩ z').setCell ⟨A, 3, none⟩ u') B t cs :=
  (((h.other hne 0 x').other hne 1 y').other hne 2 z').other hne 3 u'
theorem resJ_put {W : World} {A : Nat} {x y z u pv ev : Value} (h : ResJ W A x y z u pv ev) (x' y' z' u' pv' ev' : Value) :
    ResJ ((((((W.setCell ⟨A, 0, none⟩ x').setCell ⟨A, 1, none⟩ y').setCell ⟨A, 2, none⟩ z').setCell ⟨A, 3, none⟩ u').setCell ⟨A + 1, 0, none⟩ pv').setCell ⟨A + 1 + 1, 0, none⟩ ev') A x' y' z' u' pv' ev' := by
  have n1 : A ≠ A + 1 := by omega
  have n2 : A ≠ A + 1 + 1 := by omega
  have n3 : A + 1 ≠ A + 1 + 1 := by omega
  refine ⟨((resJ_v h.v x' y' z' u').other n1 0 pv').other n2 0 ev', ?_, ?_⟩
  · have h1 := box_off4 h.p n1.symm x' y' z' u'
    have h2 : BoxC _ (A + 1) 3 #[pv'] := h1.set 0 pv'
    exact h2.other n3 0 ev'
  · have h1 := (box_off4 h.e n2.symm x' y' z' u').other n3.symm 0 pv'
    exact h1.set 0 ev'
theorem below_put {W w : World} {A n : Nat} (h : Below n w W) (h1 : n ≤ A) (x' y' z' u' pv' ev' : Value) :
    Below n w ((((((W.setCell ⟨A, 0, none⟩ x').setCell ⟨A, 1, none⟩ y').setCell ⟨A, 2, none⟩ z').setCell ⟨A, 3, none⟩ u').setCell ⟨A + 1, 0, none⟩ pv').setCell ⟨A + 1 + 1, 0, none⟩ ev') :=
  (((((h.setCell (p := ⟨A, 0, none⟩) h1 x').setCell (p := ⟨A, 1, none⟩) h1 y').setCell (p := ⟨A, 2, none⟩) h1 z').setCell (p := ⟨A, 3, none⟩) h1 u').setCell (p := ⟨A + 1, 0, none⟩) (Nat.le_succ_of_le h1) pv').setCell (p := ⟨A + 1 + 1, 0, none⟩) (Nat.le_succ_of_le (Nat.le_succ_of_le h1)) ev'
theorem resJ_drew {W : World} {A : Nat} {x y z u pv ev : Value} (h : ResJ W A x y z u pv ev) : ResJ W.drew A x y z u pv ev := ⟨h.v, h.p, h.e⟩

set_option maxHeartbeats 4000000 in
theorem parse1_pan (w : World) (A p : Nat) (e : Int) (x y z u pv ev : Value) (older : List PanicEntry) (h : ResJ w A x y z u pv ev) :
    CallsD Tryz.prog 46 #[.pointer (some ⟨A, 0, none⟩), .pointer (some ⟨A + 1, 0, none⟩), .pointer (some ⟨A + 1 + 1, 0, none⟩)] (.panicking ({ v := faultV p e, recovered := false } :: older)) w fun n u' w' =>
      n = .returned (.tuple #[]) ∧ u' = .panicking ({ v := faultV p e, recovered := true } :: older) ∧ ResJ w' A (.int .i64 0) (.string ⟨#[]⟩) (.slice none 0 0) (.slice none 0 0) (.int .i64 (p : Int)) (.int .i64 e) ∧ (∀ n, n ≤ A → n ≤ w.heap.size → Below n w w') := by
  refine callsD_of_wpS Tryz.func46 rfl fun c₀ cs hu => ?_
  apply wpS_seq
  apply wpS_region
  simp [wpOpsS, go_sem, recoverD, hu, Tryz.ntmps46, Exit.thenS]
  refine wpS_of_wp ?_
  have HC := hide (caught_calls w p e)
  have HH := hide h
  clear h
  unfold faultV at *
  simp only [Array.replicate_succ, Array.replicate_zero, List.push_toArray, List.append_toArray, List.nil_append, List.cons_append, List.setIfInBounds_toArray, List.set_cons_zero, List.set_cons_succ]
  go_wp2_with fail
  refine HC.out.mono ?_
  rintro n w1 ⟨rfl, hB⟩
  have hb2 := bel w1 (.cells #[.int .i64 (p : Int), .int .i64 e] 97)
  have hf2 := BoxC.new w1 97 #[.int .i64 (p : Int), .int .i64 e]
  have hv2 := (HH.out.v.below hB).below hb2
  have hp2 := (HH.out.p.below hB).below hb2
  have he2 := (HH.out.e.below hB).below hb2
  have HB2 : Hid (∀ n, n ≤ w.heap.size → Below n w (w1.alloc (.cells #[.int .i64 (p : Int), .int .i64 e] 97))) := fun n hn => (hB.mono hn).trans (hb2.mono (Nat.le_trans hn hB.size))
  have hlt : A + 1 + 1 < w1.heap.size := (HH.out.e.below hB).lt
  generalize hw2 : w1.alloc (.cells #[.int .i64 (p : Int), .int .i64 e] 97) = w2 at *
  generalize hBB : w1.heap.size = B at *
  have HW2 := hide hw2
  have HBB := hide hBB
  have a0 := hv2.cell 0
  have a1 := hv2.cell 1
  have a2 := hv2.cell 2
  have a3 := hv2.cell 3
  have b0 := hp2.cell 0
  have b1 := he2.cell 0
  have u0 := hf2.cell 0
  have u1 := hf2.cell 1
  simp only [List.getElem?_toArray, List.getElem?_cons_zero, List.getElem?_cons_succ, Nat.reduceAdd] at a0 a1 a2 a3 b0 b1 u0 u1
  have f0 := hv2.frozen 0
  have f1 := hv2.frozen 1
  have f2 := hv2.frozen 2
  have f3 := hv2.frozen 3
  have f4 := hp2.frozen 0
  have f5 := he2.frozen 0
  have HV := hide hv2
  have HP := hide hp2
  have HE := hide he2
  have n1 : ¬ A = B := by omega
  have n2 : ¬ A + 1 = B := by omega
  have n3 : ¬ A + 1 + 1 = B := by omega
  have m1 : ¬ B = A := by omega
  have m2 : ¬ B = A + 1 := by omega
  have m3 : ¬ B = A + 1 + 1 := by omega
  clear hB hb2 hf2 hv2 hp2 he2 hw2 hBB HC HH
  go_upto_region 3 with fail
  rw [HW2.out, HBB.out]
  clear HW2 HBB
  go_region
  show bodyPostS Tryz.prog Tryz.f46 c₀ cs _ _ _ _ _
  have hR := resJ_drew (resJ_put (W := w2) (A := A) ⟨HV.out, HP.out, HE.out⟩ (.int .i64 0) (.string ⟨#[]⟩) (.slice none 0 0) (.slice none 0 0) (.int .i64 (p : Int)) (.int .i64 e))
  have hBl := fun n (h1 : n ≤ A) (h2 : n ≤ w.heap.size) => (below_put (HB2.out n h2) h1 (.int .i64 0) (.string ⟨#[]⟩) (.slice none 0 0) (.slice none 0 0) (.int .i64 (p : Int)) (.int .i64 e)).drew
  exact ⟨rfl, _, rfl, .tuple #[], results_none rfl _ _ _, rfl, rfl, hR, hBl⟩

end Go.Proofs.YtbdpmpepmjpadaaGreatDoor

namespace Go.Proofs.YtbdpmpepmjpadaaGreatDoor
set_option linter.unusedVariables false
set_option linter.unusedSimpArgs false
set_option maxRecDepth 100000
open Go Go.RowKit Go.Shelf Go.Lib

set_option maxHeartbeats 1000000 in
theorem parse1_ret (w : World) (A B C : Addr) :
    CallsD Tryz.prog 46 #[.pointer (some A), .pointer (some B), .pointer (some C)] .returning w fun n u' w' => n = .returned (.tuple #[]) ∧ u' = .returning ∧ w' = w := by
  refine callsD_of_wpS Tryz.func46 rfl fun c₀ cs hu => ?_
  apply wpS_seq
  apply wpS_region
  simp [wpOpsS, go_sem, recoverD, hu, Tryz.ntmps46, Exit.thenS]
  refine wpS_of_wp ?_
  simp only [Array.replicate_succ, Array.replicate_zero, List.push_toArray, List.append_toArray, List.nil_append, List.cons_append, List.setIfInBounds_toArray, List.set_cons_zero, List.set_cons_succ]
  go_wp2
  show bodyPostS Tryz.prog Tryz.f46 c₀ cs _ _ _ _ _
  cases c₀
  simp at hu
  subst hu
  exact ⟨rfl, _, rfl, .tuple #[], results_none rfl _ _ _, rfl, rfl, rfl⟩

def valG (T : List Nat) (q : Nat) : Option VR := if q ≤ T.length then valN T q else none
theorem arr_calls (w : World) (R p d : Nat) (ao : Option Addr) (cap : Nat) (T : List Nat) (hr : RdJ w R (.slice ao T.length cap) p d) (hT : TxJ w R ao cap T) (hp : p ≤ T.length) (N : Nat) (r : AR) (hN : arrF (valG T) T N p [] = some r) :
    Calls Tryz.prog 68 #[.pointer (some ⟨R, 0, none⟩)] w (ArrJ r w R (.slice ao T.length cap) d) :=
  array_calls (valG T) w R p d ao cap T hr hT hp (fun W q r h hq hr hT => value_num W R q d ao cap T r (by unfold valG at h; rw [if_pos hq] at h; exact h) hr hT hq) (okN T) N r hN

theorem results_p3 {fn : Func} {i j k : Tmp} (h : fn.results = #[.cell i 27, .cell j 3, .cell k 66]) {tmps : Array Value} {W : World} {A : Nat} {x y z u pv ev : Value} (hi : tmps.getD i undef = .pointer (some ⟨A, 0, none⟩)) (hj : tmps.getD j undef = .pointer (some ⟨A + 1, 0, none⟩)) (hk : tmps.getD k undef = .pointer (some ⟨A + 1 + 1, 0, none⟩)) (T : ResJ W A x y z u pv ev) :
    (results fn tmps).run Tryz.prog W = .ok (.tuple #[.agg #[x, y, z, u], pv, ev]) W := by
  have c0 : W.cell? ⟨A, 0, none⟩ = some x := T.v.cell 0
  have c1 : W.cell? ⟨A, 1, none⟩ = some y := T.v.cell 1
  have c2 : W.cell? ⟨A, 2, none⟩ = some z := T.v.cell 2
  have c3 : W.cell? ⟨A, 3, none⟩ = some u := T.v.cell 3
  have c4 : W.cell? ⟨A + 1, 0, none⟩ = some pv := T.p.cell 0
  have c5 : W.cell? ⟨A + 1 + 1, 0, none⟩ = some ev := T.e.cell 0
  have hi' : tmps[i]?.getD undef = .pointer (some ⟨A, 0, none⟩) := by simpa using hi
  have hj' : tmps[j]?.getD undef = .pointer (some ⟨A + 1, 0, none⟩) := by simpa using hj
  have hk' : tmps[k]?.getD undef = .pointer (some ⟨A + 1 + 1, 0, none⟩) := by simpa using hk
  simp [results, h, hi', hj', hk', go_sem, c0, c1, c2, c3, c4, c5]

/-- What Parse answers: of an array of numbers, what is behind it being nothing. -/
def ParR (T : List Nat) (r : AR) (n₀ : Nat) (e : Ending) (w' : World) : Prop := match r with
  | .bad p n => e = .returned (.tuple #[.agg #[.int .i64 0, .string ⟨#[]⟩, .slice none 0 0, .slice none 0 0], .int .i64 (p : Int), .int .i64 n])
  | .ok M p => ∃ lv, e = .returned (.tuple #[vagg (5, ⟨#[]⟩, .slice none 0 0, lv), .int .i64 0, .int .i64 0]) ∧ OwnV n₀ w' lv M ∧ M.length ≤ 1000000

set_option maxHeartbeats 4000000 in
theorem parse_calls (w : World) (ao : Option Addr) (cap : Nat) (T : List Nat) (N F : Nat) (r : AR) (h : Byts w (.slice ao T.length cap) T) (hU : Utf8Tabs 0 1 w) (h1 : ∀ k, k < N → posL T k < T.length) (h2 : posL T N = T.length) (hv : ∀ k, k < N → runeAt T (posL T k) ≠ -1) (hlen : T.length ≤ 1000000) (hcap : T.length ≤ cap)
    (hb : blEnd T 0 < T.length) (hc : nth T (blEnd T 0) = 91) (hF : arrF (valG T) T F (blEnd T 0 + 1) [] = some r) (hend : ∀ M q, r = .ok M q → blEnd T q = T.length ∧ q ≤ T.length) :
    Calls Tryz.prog 23 #[.slice ao T.length cap] w fun e w' => ParR T r w.heap.size e w' ∧ Below w.heap.size w w' := by
  have hmf : ∀ (fn : Fn) (first cap : Array Value) (w : World), (Instr.makeFunc fn first cap).run Tryz.prog w = .ok (.func fn first cap) w := fun _ _ _ _ => rfl
  have hb0 : Below w.heap.size w (((w.alloc (.cells jv0 27)).alloc (.cells #[.int .i64 0] 3)).alloc (.cells #[.int .i64 0] 66)) := ((bel w _).alloc (by simp) _).alloc (by simp; omega) _
  have hv0 := ((BoxC.new w 27 jv0).alloc (.cells #[.int .i64 0] 3)).alloc (.cells #[.int .i64 0] 66)
  have hp0 := (BoxC.new (w.alloc (.cells jv0 27)) 3 #[.int .i64 0]).alloc (.cells #[.int .i64 0] 66)
  have he0 := BoxC.new ((w.alloc (.cells jv0 27)).alloc (.cells #[.int .i64 0] 3)) 66 #[.int .i64 0]
  rw [World.size_alloc] at hp0
  rw [World.size_alloc, World.size_alloc] at he0
  unfold jv0 at hb0 hv0 hp0 he0
  have hR0 : ResJ _ w.heap.size (.int .i64 0) (.string ⟨#[]⟩) (.slice none 0 0) (.slice none 0 0) (.int .i64 0) (.int .i64 0) := ⟨hv0, hp0, he0⟩
  have hs0 : (((w.alloc (.cells #[.int .i64 0, .string ⟨#[]⟩, .slice none 0 0, .slice none 0 0] 27)).alloc (.cells #[.int .i64 0] 3)).alloc (.cells #[.int .i64 0] 66)).heap.size = w.heap.size + 3 := by simp
  generalize hw0 : ((w.alloc (.cells #[.int .i64 0, .string ⟨#[]⟩, .slice none 0 0, .slice none 0 0] 27)).alloc (.cells #[.int .i64 0] 3)).alloc (.cells #[.int .i64 0] 66) = w0 at *
  have HVC := hide (valid_calls w0 ao cap T N (h.below hb0) (Utf8Tabs_below hU hb0) h1 h2 (by omega) hcap)
  have HR0 := hide hR0
  have HB0 := hide hb0
  have HS0 := hide hs0
  have HW0 := hide hw0
  have HH := hide h
  have HV := hide hv
  have HF := hide hF
  have HE := hide hend
  have HLN := hide hlen
  have HCP := hide hcap
  have HBB := hide hb
  have HCC := hide hc
  clear hb0 hv0 hp0 he0 hR0 hs0 hw0 h hU h1 h2 hv hlen hcap hb hc hF hend
  go_enter_defers Tryz.func23, Tryz.ntmps23
  go_wp2_with fail
  rw [HW0.out]
  clear HW0
  refine HVC.out.mono ?_
  rintro e w1 ⟨at', er, rfl, hTold, hB1⟩
  have ht : at' = 0 ∧ er = 0 := by
    rcases hTold with ⟨k, hk, _, hx, _⟩ | ⟨_, ha, he⟩
    · exact absurd hx (HV.out k hk)
    · exact ⟨ha, he⟩
  obtain ⟨rfl, rfl⟩ := ht
  have hB1' := hB1
  have hR1 := (⟨HR0.out.v.below hB1, HR0.out.p.below hB1, HR0.out.e.below hB1⟩ : ResJ w1 w.heap.size _ _ _ _ _ _)
  have hb2 := bel w1 (.cells #[.slice ao T.length cap, .int .i64 0, .int .i64 0] 101)
  have hr2 : RdJ (w1.alloc (.cells #[.slice ao T.length cap, .int .i64 0, .int .i64 0] 101)) w1.heap.size (.slice ao T.length cap) 0 0 := BoxC.new w1 101 #[.slice ao T.length cap, .int .i64 0, .int .i64 0]
  have hR2 := (⟨hR1.v.below hb2, hR1.p.below hb2, hR1.e.below hb2⟩ : ResJ (w1.alloc (.cells #[.slice ao T.length cap, .int .i64 0, .int .i64 0] 101)) w.heap.size _ _ _ _ _ _)
  have hB2 : Below w.heap.size w (w1.alloc (.cells #[.slice ao T.length cap, .int .i64 0, .int .i64 0] 101)) := (HB0.out.trans (hB1.mono HB0.out.size)).trans (hb2.mono (Nat.le_trans HB0.out.size hB1.size))
  have hlt : w.heap.size + 1 + 1 < w1.heap.size := hR1.e.lt
  have hT2 : TxJ (w1.alloc (.cells #[.slice ao T.length cap, .int .i64 0, .int .i64 0] 101)) w1.heap.size ao cap T := by
    refine ⟨HH.out.below hB2, fun a e => ?_, HLN.out, HCP.out⟩
    obtain ⟨ao', c', e', _, hx⟩ := HH.out
    cases e'
    have hpos := HBB.out
    obtain ⟨b, off, e2, hx⟩ := hx 0 (by omega)
    rw [e] at e2
    cases e2
    have := block_lt hx
    have := hlt
    show b ≠ _
    omega
  generalize hw2 : w1.alloc (.cells #[.slice ao T.length cap, .int .i64 0, .int .i64 0] 101) = w2 at *
  generalize hRR : w1.heap.size = R at *
  have HW2 := hide hw2
  have HRR := hide hRR
  have HVA := hide (value_arr w2 R 0 0 ao cap T r hr2 hT2 (Nat.zero_le _) HBB.out HCC.out (by omega) (fun W hr hT => arr_calls W R _ _ ao cap T hr hT HBB.out F r HF.out))
  have HR2 := hide hR2
  have HB2 := hide hB2
  have HT2 := hide hT2
  have HLT := hide hlt
  have HRL := hide hr2.lt
  clear hB1 hB1' hR1 hb2 hr2 hR2 hB2 hlt hT2 hw2 hRR HR0 HVC HS0 hTold HB0
  go_wp2_with fail
  rw [HW2.out, HRR.out]
  clear HW2 HRR
  refine HVA.out.mono ?_
  intro e w3 hE
  cases r with
  | bad z e0 =>
    obtain ⟨he, hf⟩ := hE
    have HF3 := hide hf
    have n1 : w.heap.size ≠ R := by have := HLT.out; omega
    have n2 : w.heap.size + 1 ≠ R := by have := HLT.out; omega
    have n3 : w.heap.size + 1 + 1 ≠ R := by have := HLT.out; omega
    have HR3 := hide (⟨HR2.out.v.fr hf n1 (by simp), HR2.out.p.fr hf n2 (by simp), HR2.out.e.fr hf n3 (by simp)⟩ : ResJ w3 w.heap.size _ _ _ _ _ _)
    have HB3 : Hid (Below w.heap.size w w3) := HB2.out.trans (hf.below (by have := HLT.out; omega) (fun k e => by cases e) HB2.out.size)
    rw [show e = _ from he]
    clear he hf
    go_wp2
    refine leaves_cons (f := 46) (args := #[.pointer (some ⟨w.heap.size, 0, none⟩), .pointer (some ⟨w.heap.size + 1, 0, none⟩), .pointer (some ⟨w.heap.size + 1 + 1, 0, none⟩)]) (by simp) (by simp [go_sem]) ?_
    refine (parse1_pan w3 w.heap.size z e0 _ _ _ _ _ _ [] HR3.out).mono ?_
    rintro e u' w4 ⟨rfl, rfl, hR4, hB4⟩
    show Leaves _ _ _ _ [] .returning _
    exact ⟨_, results_p3 rfl rfl rfl rfl hR4, rfl, HB3.out.trans (hB4 _ (Nat.le_refl _) HB3.out.size)⟩
  | ok M z =>
    obtain ⟨lv, rfl, ho, hm, hr3, hf⟩ := hE
    obtain ⟨va, vn, vc, rfl⟩ := ho.slice
    unfold vagg
    obtain ⟨hz1, hz2⟩ := HE.out M z rfl
    have n1 : w.heap.size ≠ R := by have := HLT.out; omega
    have n2 : w.heap.size + 1 ≠ R := by have := HLT.out; omega
    have n3 : w.heap.size + 1 + 1 ≠ R := by have := HLT.out; omega
    have hR3 := (⟨HR2.out.v.fr hf n1 (by simp), HR2.out.p.fr hf n2 (by simp), HR2.out.e.fr hf n3 (by simp)⟩ : ResJ w3 w.heap.size _ _ _ _ _ _)
    have hT3 := HT2.out.fr hf
    have hB3 : Below w.heap.size w w3 := HB2.out.trans (hf.below (by have := HLT.out; omega) (fun k e => by cases e) HB2.out.size)
    have hle2 : w.heap.size + 1 + 1 < w2.heap.size := HR2.out.e.lt
    have hox : (Value.slice va vn vc).ownBlock ≠ some w.heap.size := fun e => by have := (ho.lt _ e).1; omega
    have hox1 : (Value.slice va vn vc).ownBlock ≠ some (w.heap.size + 1) := fun e => by have := (ho.lt _ e).1; omega
    have hox2 : (Value.slice va vn vc).ownBlock ≠ some (w.heap.size + 1 + 1) := fun e => by have := (ho.lt _ e).1; omega
    have a0 := hR3.v.cell 0
    have a1 := hR3.v.cell 1
    have a2 := hR3.v.cell 2
    have a3 := hR3.v.cell 3
    simp only [List.getElem?_toArray, List.getElem?_cons_zero, List.getElem?_cons_succ, Nat.reduceAdd] at a0 a1 a2 a3
    have f0 := hR3.v.frozen 0
    have f1 := hR3.v.frozen 1
    have f2 := hR3.v.frozen 2
    have f3 := hR3.v.frozen 3
    have lA := hR3.v.lt
    have hv4 := resJ_v hR3.v (.int .i64 5) (.string ⟨#[]⟩) (.slice none 0 0) (.slice va vn vc)
    have hp4 := box_off4 hR3.p (show w.heap.size + 1 ≠ w.heap.size by omega) (.int .i64 5) (.string ⟨#[]⟩) (.slice none 0 0) (.slice va vn vc)
    have he4 := box_off4 hR3.e (show w.heap.size + 1 + 1 ≠ w.heap.size by omega) (.int .i64 5) (.string ⟨#[]⟩) (.slice none 0 0) (.slice va vn vc)
    have hr4 := box_off4 hr3 n1.symm (.int .i64 5) (.string ⟨#[]⟩) (.slice none 0 0) (.slice va vn vc)
    have ho4 := (((ho.set hox (i := 0) (x := .int .i64 5)).set hox (i := 1) (x := .string ⟨#[]⟩)).set hox (i := 2) (x := .slice none 0 0)).set hox (i := 3) (x := .slice va vn vc)
    have hB4 : Below w.heap.size w ((((w3.setCell ⟨w.heap.size, 0, none⟩ (.int .i64 5)).setCell ⟨w.heap.size, 1, none⟩ (.string ⟨#[]⟩)).setCell ⟨w.heap.size, 2, none⟩ (.slice none 0 0)).setCell ⟨w.heap.size, 3, none⟩ (.slice va vn vc)) :=
      (((hB3.setCell (p := ⟨w.heap.size, 0, none⟩) (Nat.le_refl _) _).setCell (p := ⟨w.heap.size, 1, none⟩) (Nat.le_refl _) _).setCell (p := ⟨w.heap.size, 2, none⟩) (Nat.le_refl _) _).setCell (p := ⟨w.heap.size, 3, none⟩) (Nat.le_refl _) _
    have hT4 : TxJ ((((w3.setCell ⟨w.heap.size, 0, none⟩ (.int .i64 5)).setCell ⟨w.heap.size, 1, none⟩ (.string ⟨#[]⟩)).setCell ⟨w.heap.size, 2, none⟩ (.slice none 0 0)).setCell ⟨w.heap.size, 3, none⟩ (.slice va vn vc)) R ao cap T := ⟨HH.out.below hB4, hT3.off, hT3.len, hT3.cap⟩
    generalize hw4 : (((w3.setCell ⟨w.heap.size, 0, none⟩ (.int .i64 5)).setCell ⟨w.heap.size, 1, none⟩ (.string ⟨#[]⟩)).setCell ⟨w.heap.size, 2, none⟩ (.slice none 0 0)).setCell ⟨w.heap.size, 3, none⟩ (.slice va vn vc) = w4 at *
    have HW4 := hide hw4
    have HSK := hide (skipBlanks_calls w4 R z 0 ao cap T hr4 hT4 hz2)
    rw [hz1] at HSK
    have HV4 := hide hv4
    have HP4 := hide hp4
    have HE4 := hide he4
    have HO4 := hide ho4
    have HB4 := hide hB4
    have HM := hide hm
    have HOX := hide hox
    have HOX1 := hide hox1
    have HOX2 := hide hox2
    clear ho hm hr3 hf hR3 hT3 hB3 hle2 hv4 hp4 he4 hr4 ho4 hB4 hT4 hw4 hz1 hz2 hox hox1 hox2 HR2 HB2 HT2 n1 n2 n3
    go_wp2_with fail
    rw [HW4.out]
    clear HW4 a0 a1 a2 a3 f0 f1 f2 f3 lA
    refine HSK.out.mono ?_
    rintro e w5 ⟨rfl, hr5, _, hf5⟩
    have n1 : w.heap.size ≠ R := by have := HLT.out; omega
    have n2 : w.heap.size + 1 ≠ R := by have := HLT.out; omega
    have n3 : w.heap.size + 1 + 1 ≠ R := by have := HLT.out; omega
    have hv5 := HV4.out.fr hf5 n1 (by simp)
    have hp5 := HP4.out.fr hf5 n2 (by simp)
    have he5 := HE4.out.fr hf5 n3 (by simp)
    have ho5 := HO4.out.keep (fun j e => hf5.block (HO4.out.lt j e).2 (fun q => by have := (HO4.out.lt j e).1; have := HRL.out; omega) (by simp))
    have hB5 := HB4.out.trans (hf5.below (by have := HLT.out; omega) (fun k e => by cases e) HB4.out.size)
    have c1 : w5.cell? ⟨R, 1, none⟩ = some (.int .i64 (T.length : Int)) := hr5.cell 1
    have lR := hr5.lt
    have a0 := hv5.cell 0
    have a1 := hv5.cell 1
    have a2 := hv5.cell 2
    have a3 := hv5.cell 3
    have b0 := hp5.cell 0
    have b1 := he5.cell 0
    simp only [List.getElem?_toArray, List.getElem?_cons_zero, List.getElem?_cons_succ, Nat.reduceAdd] at a0 a1 a2 a3 b0 b1
    have f0 := hv5.frozen 0
    have f1 := hv5.frozen 1
    have f2 := hv5.frozen 2
    have f3 := hv5.frozen 3
    have f4 := hp5.frozen 0
    have f5 := he5.frozen 0
    have lA := hv5.lt
    have dlt : ¬ (T.length : Int) < (T.length : Int) := by omega
    have HR5 : Hid (ResJ w5 w.heap.size (.int .i64 5) (.string ⟨#[]⟩) (.slice none 0 0) (.slice va vn vc) (.int .i64 0) (.int .i64 0)) := ⟨hv5, hp5, he5⟩
    have HO5 := hide (ho5.mono (show w.heap.size ≤ w2.heap.size by have := HRL.out; have := HLT.out; omega))
    have HB5 := hide hB5
    clear hr5 hf5 hv5 hp5 he5 ho5 hB5 HV4 HP4 HE4 HO4 HB4 n1 n2 n3 HSK
    go_wp2
    have HR6 := resJ_put HR5.out (.int .i64 5) (.string ⟨#[]⟩) (.slice none 0 0) (.slice va vn vc) (.int .i64 0) (.int .i64 0)
    have HB6 := below_put HB5.out (Nat.le_refl _) (.int .i64 5) (.string ⟨#[]⟩) (.slice none 0 0) (.slice va vn vc) (.int .i64 0) (.int .i64 0)
    have HO6 := (((((HO5.out.set HOX.out (i := 0) (x := .int .i64 5)).set HOX.out (i := 1) (x := .string ⟨#[]⟩)).set HOX.out (i := 2) (x := .slice none 0 0)).set HOX.out (i := 3) (x := .slice va vn vc)).set HOX1.out (i := 0) (x := .int .i64 0)).set HOX2.out (i := 0) (x := .int .i64 0)
    refine leaves_cons (f := 46) (args := #[.pointer (some ⟨w.heap.size, 0, none⟩), .pointer (some ⟨w.heap.size + 1, 0, none⟩), .pointer (some ⟨w.heap.size + 1 + 1, 0, none⟩)]) (by simp) (by simp [go_sem]) ?_
    refine (parse1_ret _ _ _ _).mono ?_
    rintro e u' w6 ⟨rfl, rfl, hw6⟩
    rw [hw6]
    clear hw6
    show Leaves _ _ _ _ [] .returning _
    exact ⟨_, results_p3 rfl rfl rfl rfl HR6, ⟨_, rfl, HO6, HM.out⟩, HB6⟩

end Go.Proofs.YtbdpmpepmjpadaaGreatDoor

namespace Go.Proofs.YtbdpmpepmjpadaaGreatDoor
set_option linter.unusedVariables false
set_option linter.unusedSimpArgs false
set_option maxRecDepth 100000
open Go Go.RowKit Go.Shelf Go.Lib

/-- Is a block one of bytes? -/
def IsU8 (o : Option Obj) : Prop := ∃ cs z, o = some (.cells cs 5 z)
/-- Nothing is other than it was but block B, and blocks of bytes from n₀ on. -/
structure FrW (n₀ B : Nat) (w w' : World) : Prop where
  os : w'.os = w.os
  tape : w'.tape = w.tape
  output : w'.output = w.output
  size : w.heap.size ≤ w'.heap.size
  block : ∀ k, k < w.heap.size → k ≠ B → (k < n₀ ∨ ¬ IsU8 w.heap[k]?) → w'.heap[k]? = w.heap[k]?
theorem FrW.refl (n₀ B : Nat) (w : World) : FrW n₀ B w w := ⟨rfl, rfl, rfl, Nat.le_refl _, fun _ _ _ _ => rfl⟩
theorem FrW.trans {n₀ B : Nat} {a b c : World} (h : FrW n₀ B a b) (k : FrW n₀ B b c) : FrW n₀ B a c := by
  refine ⟨k.os.trans h.os, k.tape.trans h.tape, k.output.trans h.output, Nat.le_trans h.size k.size, fun i hi hne hc => ?_⟩
  have e := h.block i hi hne hc
  exact (k.block i (Nat.lt_of_lt_of_le hi h.size) hne (by rw [e]; exact hc)).trans e
theorem FrW.of {n₀ B : Nat} {w w' : World} (h : Below w.heap.size w w') : FrW n₀ B w w' := ⟨h.os, h.tape, h.output, h.size, fun k hk _ _ => h.block k hk⟩
theorem FrW.set {n₀ B : Nat} {w w' : World} (h : FrW n₀ B w w') (i : Nat) (x : Value) : FrW n₀ B w (w'.setCell ⟨B, i, none⟩ x) :=
  ⟨h.os, h.tape, h.output, by rw [World.size_setCell]; exact h.size, fun k hk hne hc => (Below.heap_setCell w' ⟨B, i, none⟩ x k hne).trans (h.block k hk hne hc)⟩
theorem FrW.grown {n₀ B : Nat} {w w' : World} {v : Value} {T : List Nat} (ho : OwnB n₀ w v T) (hg : w.grownBy w' v.ownBlock) : FrW n₀ B w w' := by
  have b := (Below.refl 0 w).grown hg (Nat.zero_le _) (fun _ _ => Nat.zero_le _)
  refine ⟨b.os, b.tape, b.output, b.size, fun k hk _ hc => hg.block k hk (fun e => ?_)⟩
  obtain ⟨c, fz, hkk⟩ := Lib.ownsRow_kind ho k e.symm
  have := (World.ownsRow.lt ho k e.symm).1
  rcases hc with h1 | h1
  · omega
  · exact h1 ⟨_, _, hkk⟩
theorem FrW.below {n₀ B n : Nat} {w w' : World} (h : FrW n₀ B w w') (hn : n ≤ n₀) (hB : n ≤ B) (hs : n ≤ w.heap.size) : Below n w w' :=
  ⟨h.os, h.tape, h.output, h.size, fun k hk => h.block k (by omega) (by omega) (.inl (by omega))⟩
end Go.Proofs.YtbdpmpepmjpadaaGreatDoor

namespace Go.Proofs.YtbdpmpepmjpadaaGreatDoor
set_option linter.unusedVariables false
set_option linter.unusedSimpArgs false
set_option maxRecDepth 100000
open Go Go.RowKit Go.Shelf Go.Lib

end Go.Proofs.YtbdpmpepmjpadaaGreatDoor

namespace Go.Proofs.YtbdpmpepmjpadaaGreatDoor
set_option linter.unusedVariables false
set_option linter.unusedSimpArgs false
set_option maxRecDepth 100000
open Go Go.RowKit Go.Shelf Go.Lib

end Go.Proofs.YtbdpmpepmjpadaaGreatDoor

namespace Go.Proofs.YtbdpmpepmjpadaaGreatDoor
set_option linter.unusedVariables false
set_option linter.unusedSimpArgs false
set_option maxRecDepth 100000
open Go Go.RowKit Go.Shelf Go.Lib

end Go.Proofs.YtbdpmpepmjpadaaGreatDoor

namespace Go.Proofs.YtbdpmpepmjpadaaGreatDoor
set_option linter.unusedVariables false
set_option linter.unusedSimpArgs false
set_option maxRecDepth 100000
open Go Go.RowKit Go.Shelf Go.Lib

end Go.Proofs.YtbdpmpepmjpadaaGreatDoor

namespace Go.Proofs.YtbdpmpepmjpadaaGreatDoor
set_option linter.unusedVariables false
set_option linter.unusedSimpArgs false
set_option maxRecDepth 100000
open Go Go.RowKit Go.Shelf Go.Lib

theorem OwnB.byts {n₀ : Nat} {W : World} {v : Value} {T : List Nat} (hT : ∀ x ∈ T, x < 256) (h : OwnB n₀ W v T) : Byts W v T := by
  obtain ⟨ao, cap, rfl, hb, _⟩ := own_byts hT h
  exact hb

end Go.Proofs.YtbdpmpepmjpadaaGreatDoor

namespace Go.Proofs.YtbdpmpepmjpadaaGreatDoor
set_option linter.unusedVariables false
set_option linter.unusedSimpArgs false
set_option maxRecDepth 100000
open Go Go.RowKit Go.Shelf Go.Lib

set_option maxHeartbeats 2000000 in
theorem text_calls (w : World) (s : ByteArray) :
    Calls Tryz.prog 38 #[.string s] w fun e w' => e = .returned (vagg (4, s, .slice none 0 0, .slice none 0 0)) ∧ Below w.heap.size w w' := by
  go_enter Tryz.func38, Tryz.ntmps38
  go_wp2
  refine bodyPost_ret (results_jv rfl rfl (BoxC.new w 27 #[.int .i64 4, .string s, .slice none 0 0, .slice none 0 0])) rfl ?_
  exact ⟨rfl, bel w _⟩

theorem below4 {W w : World} {A n : Nat} (h : Below n w W) (h1 : n ≤ A) (x' y' z' u' : Value) :
    Below n w ((((W.setCell ⟨A, 0, none⟩ x').setCell ⟨A, 1, none⟩ y').setCell ⟨A, 2, none⟩ z').setCell ⟨A, 3, none⟩ u') :=
  (((h.setCell (p := ⟨A, 0, none⟩) h1 x').setCell (p := ⟨A, 1, none⟩) h1 y').setCell (p := ⟨A, 2, none⟩) h1 z').setCell (p := ⟨A, 3, none⟩) h1 u'
end Go.Proofs.YtbdpmpepmjpadaaGreatDoor

namespace Go.Proofs.YtbdpmpepmjpadaaGreatDoor
set_option linter.unusedVariables false
set_option linter.unusedSimpArgs false
set_option maxRecDepth 100000
open Go Go.RowKit Go.Shelf Go.Lib

end Go.Proofs.YtbdpmpepmjpadaaGreatDoor

namespace Go.Proofs.YtbdpmpepmjpadaaGreatDoor
set_option linter.unusedVariables false
set_option linter.unusedSimpArgs false
set_option maxRecDepth 100000
open Go Go.RowKit Go.Shelf Go.Lib

/-- Strings in a row of one's own. -/
def OwnS (n₀ : Nat) (W : World) (v : Value) (K : List ByteArray) : Prop := W.ownsRow n₀ 9 1 v K.length (K.map Value.string)
theorem infoStr : (Tryz.prog.info? 9).map (fun i => (i.zero, i.size, i.bytes)) = some (some (.string ⟨#[]⟩), 1, 16) := by kernel_rfl
theorem ownS_nil (n₀ : Nat) (W : World) : OwnS n₀ W (.slice none 0 0) [] := World.ownsRow_nil _ _ _ _
theorem OwnS.lt {n₀ : Nat} {w : World} {v : Value} {K : List ByteArray} (h : OwnS n₀ w v K) : ∀ j, v.ownBlock = some j → n₀ ≤ j ∧ j < w.heap.size := World.ownsRow.lt h
theorem OwnS.len {n₀ : Nat} {w : World} {v : Value} {K : List ByteArray} (h : OwnS n₀ w v K) : ∃ ao c, v = .slice ao K.length c ∧ K.length ≤ c := by
  rcases id h.2 with ⟨rfl, h0⟩ | ⟨g, cap, cur, rfl, hg, hh, hn, hm, hc, ht⟩
  · exact ⟨none, 0, by rw [h0], by rw [h0]; exact Nat.le_refl _⟩
  · exact ⟨_, _, rfl, hn⟩
theorem OwnS.keep {n₀ : Nat} {w w' : World} {v : Value} {K : List ByteArray} (h : OwnS n₀ w v K) (k : ∀ j, v.ownBlock = some j → w'.heap[j]? = w.heap[j]?) : OwnS n₀ w' v K := by
  rcases id h.2 with ⟨rfl, h0⟩ | ⟨g, cap, cur, rfl, hg, hh, hn, hm, hc, ht⟩
  · exact ⟨h.1, .inl ⟨rfl, h0⟩⟩
  · exact ⟨h.1, .inr ⟨g, cap, cur, rfl, hg, by rw [k g rfl, hh], hn, hm, hc, ht⟩⟩
theorem OwnS.set {n₀ B i : Nat} {w : World} {v x : Value} {K : List ByteArray} (h : OwnS n₀ w v K) (hB : v.ownBlock ≠ some B) : OwnS n₀ (w.setCell ⟨B, i, none⟩ x) v K := h.keep fun j e => Below.heap_setCell w ⟨B, i, none⟩ x j (fun q => hB (by rw [e, q]))
theorem OwnS.off {n₀ B : Nat} {w : World} {v : Value} {K : List ByteArray} (h : OwnS n₀ w v K) (hB : B < n₀) : v.ownBlock ≠ some B := fun e => by
  have := (h.lt B e).1
  omega
theorem OwnS.cell {n₀ : Nat} {w : World} {ao : Option Addr} {n c : Nat} {K : List ByteArray} (h : OwnS n₀ w (.slice ao n c) K) {i : Nat} {x : ByteArray} (hx : K[i]? = some x) : ∃ g, ao = some ⟨g, 0, none⟩ ∧ w.cell? ⟨g, i, none⟩ = some (.string x) := by
  have hi : i < K.length := (List.getElem?_eq_some_iff.1 hx).1
  rcases id h.2 with ⟨hv, h0⟩ | ⟨g, cap, cur, hv, hg, hh, hn, hm, hc, ht⟩
  · omega
  · cases hv
    refine ⟨g, rfl, ?_⟩
    have h1 := World.ownsRow.cellAt h (j := i) (by omega)
    rw [h1]
    simp [hx]
/-- Rows of two kinds lie apart. -/
theorem ownSV {n m : Nat} {w : World} {v u : Value} {K : List ByteArray} {M : List JC} (h : OwnS n w v K) (k : OwnV m w u M) : ∀ j, v.ownBlock = some j → u.ownBlock ≠ some j := by
  intro j e q
  obtain ⟨c, fz, h1⟩ := Lib.ownsRow_kind h j e
  obtain ⟨c', fz', h2⟩ := Lib.ownsRow_kind k j q
  rw [h1] at h2
  cases h2

/-- A pair's cells: a key, and a number. -/
def pcell (x : ByteArray × ByteArray) : List Value := [.string x.1, .int .i64 3, .string x.2, .slice none 0 0, .slice none 0 0]
def pcells (P : List (ByteArray × ByteArray)) : List Value := P.flatMap pcell
theorem pcells_get : ∀ (P : List (ByteArray × ByteArray)) (i : Nat) (x : ByteArray × ByteArray) (r : Nat), P[i]? = some x → r < 5 → (pcells P)[i * 5 + r]? = (pcell x)[r]? := by
  intro P
  induction P with
  | nil => intro i x r h; simp at h
  | cons a l ih =>
    intro i x r h hr
    have e : pcells (a :: l) = pcell a ++ pcells l := rfl
    have hl : (pcell a).length = 5 := rfl
    cases i with
    | zero =>
      simp at h
      subst h
      rw [e, Nat.zero_mul, Nat.zero_add, List.getElem?_append_left (by omega)]
    | succ i =>
      rw [e, List.getElem?_append_right (by omega), hl, show (i + 1) * 5 + r - 5 = i * 5 + r by omega]
      exact ih i x r (by simpa using h) hr
def OwnP (n₀ : Nat) (W : World) (v : Value) (P : List (ByteArray × ByteArray)) : Prop := W.ownsRow n₀ 85 5 v P.length (pcells P)
theorem OwnP.lt {n₀ : Nat} {w : World} {v : Value} {P : List (ByteArray × ByteArray)} (h : OwnP n₀ w v P) : ∀ j, v.ownBlock = some j → n₀ ≤ j ∧ j < w.heap.size := World.ownsRow.lt h
theorem OwnP.len {n₀ : Nat} {w : World} {v : Value} {P : List (ByteArray × ByteArray)} (h : OwnP n₀ w v P) : ∃ ao c, v = .slice ao P.length c ∧ P.length ≤ c := by
  rcases id h.2 with ⟨rfl, h0⟩ | ⟨g, cap, cur, rfl, hg, hh, hn, hm, hc, ht⟩
  · exact ⟨none, 0, by rw [h0], by rw [h0]; exact Nat.le_refl _⟩
  · exact ⟨_, _, rfl, hn⟩
theorem OwnP.keep {n₀ : Nat} {w w' : World} {v : Value} {P : List (ByteArray × ByteArray)} (h : OwnP n₀ w v P) (k : ∀ j, v.ownBlock = some j → w'.heap[j]? = w.heap[j]?) : OwnP n₀ w' v P := by
  rcases id h.2 with ⟨rfl, h0⟩ | ⟨g, cap, cur, rfl, hg, hh, hn, hm, hc, ht⟩
  · exact ⟨h.1, .inl ⟨rfl, h0⟩⟩
  · exact ⟨h.1, .inr ⟨g, cap, cur, rfl, hg, by rw [k g rfl, hh], hn, hm, hc, ht⟩⟩
theorem OwnP.below {n₀ : Nat} {w w' : World} {v : Value} {P : List (ByteArray × ByteArray)} (h : OwnP n₀ w v P) (hb : Below w.heap.size w w') : OwnP n₀ w' v P := h.keep fun j e => hb.block j (h.lt j e).2
theorem OwnP.cell {n₀ : Nat} {w : World} {ao : Option Addr} {n c : Nat} {P : List (ByteArray × ByteArray)} (h : OwnP n₀ w (.slice ao n c) P) {i : Nat} {x : ByteArray × ByteArray} (hx : P[i]? = some x) : ∃ g, ao = some ⟨g, 0, none⟩ ∧ ∀ r, r < 5 → w.cell? ⟨g, i * 5 + r, none⟩ = (pcell x)[r]? := by
  have hi : i < P.length := (List.getElem?_eq_some_iff.1 hx).1
  rcases id h.2 with ⟨hv, h0⟩ | ⟨g, cap, cur, hv, hg, hh, hn, hm, hc, ht⟩
  · omega
  · cases hv
    refine ⟨g, rfl, fun r hr => ?_⟩
    have h1 := World.ownsRow.cellAt h (j := i * 5 + r) (by omega)
    rw [h1]
    exact pcells_get P i x r hx hr

/-- An object on its way. -/
structure MadeJ (w W : World) (kv lv : Value) (K : List ByteArray) (M : List JC) : Prop where
  box : BoxC W (w.heap.size + 1) 27 #[.int .i64 6, .string ⟨#[]⟩, kv, lv]
  ks : OwnS (w.heap.size + 2) W kv K
  vs : OwnV (w.heap.size + 2) W lv M
  low : Below w.heap.size w W
  res : BoxC W w.heap.size 27 #[.int .i64 0, .string ⟨#[]⟩, .slice none 0 0, .slice none 0 0]
theorem MadeJ.below {w W W' : World} {kv lv : Value} {K : List ByteArray} {M : List JC} (h : MadeJ w W kv lv K M) (hb : Below W.heap.size W W') : MadeJ w W' kv lv K M :=
  ⟨h.box.below hb, h.ks.keep (fun j e => hb.block j (h.ks.lt j e).2), h.vs.keep (fun j e => hb.block j (h.vs.lt j e).2), h.low.trans (hb.mono h.low.size), h.res.below hb⟩
theorem MadeJ.putK {w W W' : World} {kv lv kv' : Value} {K K' : List ByteArray} {M : List JC} (h : MadeJ w W kv lv K M) (hg : W.grownBy W' kv.ownBlock) (ho : OwnS (w.heap.size + 2) W' kv' K') : MadeJ w (W'.setCell ⟨w.heap.size + 1, 2, none⟩ kv') kv' lv K' M := by
  have n1 : some (w.heap.size + 1) ≠ kv.ownBlock := fun e => by have := (h.ks.lt _ e.symm).1; omega
  have n2 : some w.heap.size ≠ kv.ownBlock := fun e => by have := (h.ks.lt _ e.symm).1; omega
  refine ⟨(h.box.kept hg n1).set 2 kv', ho.set (ho.off (by omega)), ?_, ?_, (h.res.kept hg n2).other (by omega) 2 kv'⟩
  · have hv : OwnV (w.heap.size + 2) W' lv M := h.vs.keep (fun j e => hg.block j (h.vs.lt j e).2 (fun q => ownSV h.ks h.vs j q.symm e))
    exact hv.set (hv.off (by omega))
  · exact (h.low.grown hg h.low.size (fun j e => by have := (h.ks.lt j e).1; omega)).setCell (p := ⟨w.heap.size + 1, 2, none⟩) (Nat.le_succ _) kv'
theorem MadeJ.putV {w W W' : World} {kv lv lv' : Value} {K : List ByteArray} {M M' : List JC} (h : MadeJ w W kv lv K M) (hg : W.grownBy W' lv.ownBlock) (ho : OwnV (w.heap.size + 2) W' lv' M') : MadeJ w (W'.setCell ⟨w.heap.size + 1, 3, none⟩ lv') kv lv' K M' := by
  have n1 : some (w.heap.size + 1) ≠ lv.ownBlock := fun e => by have := (h.vs.lt _ e.symm).1; omega
  have n2 : some w.heap.size ≠ lv.ownBlock := fun e => by have := (h.vs.lt _ e.symm).1; omega
  refine ⟨(h.box.kept hg n1).set 3 lv', ?_, ho.set (ho.off (by omega)), ?_, (h.res.kept hg n2).other (by omega) 3 lv'⟩
  · have hk : OwnS (w.heap.size + 2) W' kv K := h.ks.keep (fun j e => hg.block j (h.ks.lt j e).2 (fun q => ownSV h.ks h.vs j e q.symm))
    exact hk.set (hk.off (by omega))
  · exact (h.low.grown hg h.low.size (fun j e => by have := (h.vs.lt j e).1; omega)).setCell (p := ⟨w.heap.size + 1, 3, none⟩) (Nat.le_succ _) lv'
/-- A key more. -/
theorem MadeJ.key {w W : World} {kv lv : Value} {K : List ByteArray} {M : List JC} (h : MadeJ w W kv lv K M) (s : ByteArray) (hlen : K.length ≤ 1000000) :
    ∃ va vn vc w', (Builtin.append_ #[24, 24] 24 #[kv, .slice (some ⟨W.heap.size, 0, none⟩) 1 1]).run Tryz.prog (W.alloc (.cells #[.string s] 9)) = .ok (.slice va vn vc) w' ∧ MadeJ w (w'.setCell ⟨w.heap.size + 1, 2, none⟩ (.slice va vn vc)) (.slice va vn vc) lv (K ++ [s]) M ∧
      w'.cell? ⟨w.heap.size + 1, 2, none⟩ = some kv ∧ w'.frozen? ⟨w.heap.size + 1, 2, none⟩ = false ∧ w.heap.size + 1 < w'.heap.size ∧ (∀ B cs, BoxC W B 85 cs → BoxC w' B 85 cs) := by
  obtain ⟨i0, hi, hz0, hz1, hz2⟩ := info_parts infoStr
  have hb := bel W (.cells #[.string s] 9)
  have h1 := h.below hb
  have hx := BoxC.new W 9 #[.string s]
  have hbase := h1.box.lt
  obtain ⟨v', w', hr, h2, h3, _, h5⟩ := run_append_own_at (P := Tryz.prog) (W.alloc (.cells #[.string s] 9)) (w.heap.size + 2) 24 24 9 i0 (.string ⟨#[]⟩) 1 16 Tryz.underlying24 hi hz0 hz1 hz2 rfl (by decide) kv K.length (K.map Value.string) h1.ks ⟨W.heap.size, 0, none⟩ 1 1 [.string s] rfl (by
      intro j u hj
      have := hx.cell j
      rw [addr_plus, Nat.zero_add, this]
      simpa using hj) (by
      intro u hu
      simp only [List.mem_cons, List.not_mem_nil, or_false] at hu
      subst hu
      rfl) (by unfold maxLen; omega) (by omega) (by omega)
  have ho : OwnS (w.heap.size + 2) w' v' (K ++ [s]) := by
    unfold OwnS
    rw [List.length_append, List.map_append]
    exact h2
  obtain ⟨va, vc, rfl, _⟩ := ho.len
  have n1 : some (w.heap.size + 1) ≠ kv.ownBlock := fun e => by have := (h.ks.lt _ e.symm).1; omega
  have hbk := h1.box.kept h3 n1
  refine ⟨_, _, _, w', hr, h1.putK h3 ho, hbk.cell 2, hbk.frozen 2, hbk.lt, fun B cs hB => (hB.below hb).kept h3 (fun e => ?_)⟩
  obtain ⟨c, fz, hk⟩ := Lib.ownsRow_kind h1.ks B e.symm
  rw [show (W.alloc (.cells #[.string s] 9)).heap[B]? = _ from hB.below hb] at hk
  cases hk

end Go.Proofs.YtbdpmpepmjpadaaGreatDoor

namespace Go.Proofs.YtbdpmpepmjpadaaGreatDoor
set_option linter.unusedVariables false
set_option linter.unusedSimpArgs false
set_option maxRecDepth 100000
open Go Go.RowKit Go.Shelf Go.Lib

end Go.Proofs.YtbdpmpepmjpadaaGreatDoor

namespace Go.Proofs.YtbdpmpepmjpadaaGreatDoor
set_option linter.unusedVariables false
set_option linter.unusedSimpArgs false
set_option maxRecDepth 100000
open Go Go.RowKit Go.Shelf Go.Lib

def nthS (K : List ByteArray) (j : Nat) : ByteArray := K[j]?.getD ⟨#[]⟩
/-- Strings that came in. -/
def StrsIn (W : World) (v : Value) (K : List ByteArray) : Prop := ∃ ao cap, v = .slice ao K.length cap ∧ ∀ j, j < K.length → ∃ b off, ao = some ⟨b, off, none⟩ ∧ W.cell? ⟨b, off + j, none⟩ = some (.string (nthS K j))
theorem StrsIn.below {W W' : World} {v : Value} {K : List ByteArray} (h : StrsIn W v K) (hb : Below W.heap.size W W') : StrsIn W' v K := by
  obtain ⟨ao, cap, h1, h3⟩ := h
  refine ⟨ao, cap, h1, fun j hj => ?_⟩
  obtain ⟨b, off, h4, h5⟩ := h3 j hj
  exact ⟨b, off, h4, (hb.cell (p := ⟨b, off + j, none⟩) (block_lt h5)).trans h5⟩
end Go.Proofs.YtbdpmpepmjpadaaGreatDoor

namespace Go.Proofs.YtbdpmpepmjpadaaGreatDoor
set_option linter.unusedVariables false
set_option linter.unusedSimpArgs false
set_option maxRecDepth 100000
open Go Go.RowKit Go.Shelf Go.Lib

inductive JT where
  | mk (k : Int) (s : ByteArray) (K : List ByteArray) (L : List JT)

/-- Strings, in blocks of which something is so. -/
def StrsS (W : World) (S : Nat → Prop) (v : Value) (K : List ByteArray) : Prop := ∃ ao cap, v = .slice ao K.length cap ∧ ∀ j, j < K.length → ∃ b off, ao = some ⟨b, off, none⟩ ∧ S b ∧ W.cell? ⟨b, off + j, none⟩ = some (.string (nthS K j))
/-- A value and all that it is made of, in blocks of which something is so. -/
inductive TIn (W : World) (S : Nat → Prop) : JC → JT → Prop where
  | mk (k : Int) (s : ByteArray) (kv : Value) (la : Option Addr) (lc : Nat) (K : List ByteArray) (L : List JT) (xs : Nat → JC)
      (hK : StrsS W S kv K)
      (hc : ∀ i, i < L.length → ∃ b off, la = some ⟨b, off, none⟩ ∧ S b ∧ ∀ r, r < 4 → W.cell? ⟨b, off + (i * 4 + r), none⟩ = (vcell (xs i))[r]?)
      (hsl : ∀ i, i < L.length → IsSl (xs i).2.2.1 ∧ IsSl (xs i).2.2.2)
      (ht : ∀ i (h : i < L.length), TIn W S (xs i) L[i]) : TIn W S (k, s, kv, .slice la L.length lc) (.mk k s K L)
theorem StrsS.keep {W W' : World} {S S' : Nat → Prop} {v : Value} {K : List ByteArray} (h : StrsS W S v K) (hb : ∀ b, S b → b < W.heap.size → S' b ∧ W'.heap[b]? = W.heap[b]?) : StrsS W' S' v K := by
  obtain ⟨ao, cap, h1, h2⟩ := h
  refine ⟨ao, cap, h1, fun j hj => ?_⟩
  obtain ⟨b, off, e, hs, hc⟩ := h2 j hj
  have hlt := block_lt hc
  exact ⟨b, off, e, (hb b hs hlt).1, (World.cell?_of_block (a := ⟨b, off + j, none⟩) (hb b hs hlt).2).trans hc⟩
theorem TIn.keep {W W' : World} {S S' : Nat → Prop} {x : JC} {T : JT} (h : TIn W S x T) (hb : ∀ b, S b → b < W.heap.size → S' b ∧ W'.heap[b]? = W.heap[b]?) : TIn W' S' x T := by
  induction h with
  | mk k s kv la lc K L xs hK hc hsl ht ih =>
    refine .mk k s kv la lc K L xs (hK.keep hb) (fun i hi => ?_) hsl (fun i hi => ih i hi)
    obtain ⟨b, off, e, hs, hx⟩ := hc i hi
    have h0 := hx 0 (by omega)
    simp only [vcell, List.getElem?_cons_zero] at h0
    have hlt := block_lt h0
    exact ⟨b, off, e, (hb b hs hlt).1, fun r hr => (World.cell?_of_block (a := ⟨b, off + (i * 4 + r), none⟩) (hb b hs hlt).2).trans (hx r hr)⟩
theorem TIn.bel {W W' : World} {S : Nat → Prop} {x : JC} {T : JT} (h : TIn W S x T) (hb : Below W.heap.size W W') : TIn W' S x T := h.keep fun b hs hlt => ⟨hs, hb.block b hlt⟩
/-- Trees that are small enough. -/
inductive LtT : JT → Prop where
  | mk (k : Int) (s : ByteArray) (K : List ByteArray) (L : List JT) (hK : K.length ≤ 1000000) (hL : L.length ≤ 1000000) (hs : k = 3 → s.size ≤ 100000) (ht : ∀ i (h : i < L.length), LtT L[i]) : LtT (.mk k s K L)

end Go.Proofs.YtbdpmpepmjpadaaGreatDoor

namespace Go.Proofs.YtbdpmpepmjpadaaGreatDoor
set_option linter.unusedVariables false
set_option linter.unusedSimpArgs false
set_option maxRecDepth 100000
open Go Go.RowKit Go.Shelf Go.Lib

end Go.Proofs.YtbdpmpepmjpadaaGreatDoor

namespace Go.Proofs.YtbdpmpepmjpadaaGreatDoor
set_option linter.unusedVariables false
set_option linter.unusedSimpArgs false
set_option maxRecDepth 100000
open Go Go.RowKit Go.Shelf Go.Lib

/-- Values in a row of one's own. -/
def OwnQ (n₀ : Nat) (W : World) (v : Value) (M : List JC) : Prop := W.ownsRow n₀ 36 4 v M.length (vcells M)
theorem infoQ : (Tryz.prog.info? 36).map (fun i => (i.zero, i.size, i.bytes)) = some (some (.agg #[.int .i64 0, .string ⟨#[]⟩, .slice none 0 0, .slice none 0 0]), 4, 72) := by kernel_rfl
theorem ownQ_nil (n₀ : Nat) (W : World) : OwnQ n₀ W (.slice none 0 0) [] := World.ownsRow_nil _ _ _ _
theorem OwnQ.slice {n₀ : Nat} {w : World} {v : Value} {M : List JC} (h : OwnQ n₀ w v M) : ∃ ao n c, v = .slice ao n c := by
  rcases id h.2 with ⟨rfl, h0⟩ | ⟨g, cap, cur, rfl, hg, hh, hn, hm, hc, ht⟩
  · exact ⟨none, 0, 0, rfl⟩
  · exact ⟨_, _, _, rfl⟩
/-- Its length, whatever it is. -/
theorem OwnQ.len {n₀ : Nat} {w : World} {v : Value} {M : List JC} (h : OwnQ n₀ w v M) : ∃ ao c, v = .slice ao M.length c ∧ M.length ≤ c := by
  rcases id h.2 with ⟨rfl, h0⟩ | ⟨g, cap, cur, rfl, hg, hh, hn, hm, hc, ht⟩
  · exact ⟨none, 0, by rw [h0], by rw [h0]; exact Nat.le_refl _⟩
  · exact ⟨_, _, rfl, hn⟩
theorem OwnQ.keep {n₀ : Nat} {w w' : World} {v : Value} {M : List JC} (h : OwnQ n₀ w v M) (k : ∀ j, v.ownBlock = some j → w'.heap[j]? = w.heap[j]?) : OwnQ n₀ w' v M := by
  rcases id h.2 with ⟨rfl, h0⟩ | ⟨g, cap, cur, rfl, hg, hh, hn, hm, hc, ht⟩
  · exact ⟨h.1, .inl ⟨rfl, h0⟩⟩
  · exact ⟨h.1, .inr ⟨g, cap, cur, rfl, hg, by rw [k g rfl, hh], hn, hm, hc, ht⟩⟩
theorem OwnQ.lt {n₀ : Nat} {w : World} {v : Value} {M : List JC} (h : OwnQ n₀ w v M) : ∀ j, v.ownBlock = some j → n₀ ≤ j ∧ j < w.heap.size := World.ownsRow.lt h
theorem OwnQ.mono {n m : Nat} {w : World} {v : Value} {M : List JC} (h : OwnQ m w v M) (k : n ≤ m) : OwnQ n w v M := by
  rcases id h.2 with ⟨rfl, h0⟩ | ⟨g, cap, cur, rfl, hg, hh, hn, hm, hc, ht⟩
  · exact ⟨h.1, .inl ⟨rfl, h0⟩⟩
  · exact ⟨h.1, .inr ⟨g, cap, cur, rfl, Nat.le_trans k hg, hh, hn, hm, hc, ht⟩⟩
theorem OwnQ.off {n₀ B : Nat} {w : World} {v : Value} {M : List JC} (h : OwnQ n₀ w v M) (hB : B < n₀) : v.ownBlock ≠ some B := fun e => by
  have := (h.lt B e).1
  omega
theorem OwnQ.set {n₀ B i : Nat} {w : World} {v x : Value} {M : List JC} (h : OwnQ n₀ w v M) (hB : v.ownBlock ≠ some B) : OwnQ n₀ (w.setCell ⟨B, i, none⟩ x) v M := h.keep fun j e => Below.heap_setCell w ⟨B, i, none⟩ x j (fun q => hB (by rw [e, q]))
theorem OwnQ.cell {n₀ : Nat} {w : World} {ao : Option Addr} {n c : Nat} {M : List JC} (h : OwnQ n₀ w (.slice ao n c) M) {i : Nat} {x : JC} (hx : M[i]? = some x) : ∃ g, ao = some ⟨g, 0, none⟩ ∧ ∀ r, r < 4 → w.cell? ⟨g, i * 4 + r, none⟩ = (vcell x)[r]? := by
  have hi : i < M.length := (List.getElem?_eq_some_iff.1 hx).1
  rcases id h.2 with ⟨hv, h0⟩ | ⟨g, cap, cur, hv, hg, hh, hn, hm, hc, ht⟩
  · omega
  · cases hv
    refine ⟨g, rfl, fun r hr => ?_⟩
    have h1 := World.ownsRow.cellAt h (j := i * 4 + r) (by omega)
    rw [h1]
    have key : ∀ (M : List JC) (i : Nat), M[i]? = some x → (vcells M)[i * 4 + r]? = (vcell x)[r]? := by
      intro M
      induction M with
      | nil => intro i h; simp at h
      | cons a l ih =>
        intro i h
        have e : vcells (a :: l) = vcell a ++ vcells l := rfl
        have hl : (vcell a).length = 4 := rfl
        cases i with
        | zero =>
          simp at h
          subst h
          rw [e, Nat.zero_mul, Nat.zero_add, List.getElem?_append_left (by omega)]
        | succ i =>
          rw [e, List.getElem?_append_right (by omega), hl, show (i + 1) * 4 + r - 4 = i * 4 + r by omega]
          exact ih i (by simpa using h)
    exact key M i hx

/-- Appending values to one's own, in a region that draws. -/
theorem wp_appQ (w : World) {o : Oper} {a : Act} {K : Act → World → Prop} {Q : Exit → Act → World → Prop} (s x : Operand)
    (ho : o.op = .call { callee := .builtin .append, args := #[s, x], argTypes := #[34, 34] })
    (n₀ : Nat) (v : Value) (M : List JC) (hs : a.eval s = v) (hown : OwnQ n₀ w v M) (b c : Nat) (y : JC) (hx : a.eval x = .slice (some ⟨b, 0, none⟩) 1 c) (hl : BoxC w b 36 (vcell y).toArray) (h1 : y.2.2.1.oneCell' = true ∧ y.2.2.2.oneCell' = true) (hsum : M.length ≤ 1000000000) (hbase : n₀ ≤ w.heap.size)
    (h : ∀ v' w', OwnQ n₀ w' v' (M ++ [y]) → w.grownBy w' v.ownBlock → (v'.ownBlock = v.ownBlock ∨ v'.ownBlock = some w.heap.size) → K (a.put o.dst v') w') : o.wp Tryz.prog a w K Q := by
  obtain ⟨i0, hi, hz0, hz1, hz2⟩ := info_parts infoQ
  obtain ⟨v', w', hr, h2, h3', _, h5⟩ := run_append_own_at (P := Tryz.prog) w n₀ 34 o.type 36 i0 _ 4 72 Tryz.underlying34 hi hz0 hz1 hz2 rfl (by decide) v M.length (vcells M) hown ⟨b, 0, none⟩ 1 c (vcell y) rfl (by
      intro j u hj
      have := hl.cell j
      rw [addr_plus, Nat.zero_add, this]
      simpa using hj) (by
      intro u hu
      simp only [vcell, List.mem_cons, List.not_mem_nil, or_false] at hu
      rcases hu with rfl | rfl | rfl | rfl
      · rfl
      · rfl
      · exact h1.1
      · exact h1.2) (by unfold maxLen; omega) (by omega) hbase
  have h2' : OwnQ n₀ w' v' (M ++ [y]) := by
    unfold OwnQ
    rw [List.length_append, vcells_append]
    exact h2
  unfold Oper.wp execOp
  simp only [ho, resolve, invoke, builtin, Sem.run_bind, Sem.run_pure, Result.andThen_ok, List.map_toArray, List.map_cons, List.map_nil, hs, hx, hr]
  exact h v' w' h2' h3' h5

theorem results_rv {fn : Func} {i : Tmp} (h : fn.results = #[.cell i 36]) {tmps : Array Value} {W : World} {b : Nat} {x y z u : Value} {t : TypeId} (hp : tmps.getD i undef = .pointer (some ⟨b, 0, none⟩)) (T : BoxC W b t #[x, y, z, u]) :
    (results fn tmps).run Tryz.prog W = .ok (.agg #[x, y, z, u]) W := by
  have c0 : W.cell? ⟨b, 0, none⟩ = some x := T.cell 0
  have c1 : W.cell? ⟨b, 1, none⟩ = some y := T.cell 1
  have c2 : W.cell? ⟨b, 2, none⟩ = some z := T.cell 2
  have c3 : W.cell? ⟨b, 3, none⟩ = some u := T.cell 3
  have hp' : tmps[i]?.getD undef = .pointer (some ⟨b, 0, none⟩) := by simpa using hp
  simp [results, h, hp', go_sem, c0, c1, c2, c3]

end Go.Proofs.YtbdpmpepmjpadaaGreatDoor

namespace Go.Proofs.YtbdpmpepmjpadaaGreatDoor
set_option linter.unusedVariables false
set_option linter.unusedSimpArgs false
set_option maxRecDepth 100000
open Go Go.RowKit Go.Shelf Go.Lib

/-- Where a tree of a call's own may lie. -/
def LiesQ (N : Nat) (w : World) (lv : Value) (b : Nat) : Prop := (b < N ∨ w.heap.size + 3 ≤ b) ∧ lv.ownBlock ≠ some b
/-- A copy on its way. -/
structure OfJQ (N : Nat) (w W : World) (k : Int) (s : ByteArray) (kv iv lv : Value) (L : List JT) (M : List JC) : Prop where
  inb : BoxC W w.heap.size 27 #[.int .i64 k, .string s, kv, iv]
  res : BoxC W (w.heap.size + 1) 36 #[.int .i64 0, .string ⟨#[]⟩, .slice none 0 0, .slice none 0 0]
  box : BoxC W (w.heap.size + 2) 36 #[.int .i64 k, .string s, kv, lv]
  vs : OwnQ (w.heap.size + 3) W lv M
  low : Below w.heap.size w W
  ps : ∀ (q : Nat) (x : JC) (T : JT), M[q]? = some x → L[q]? = some T → TIn W (LiesQ N w lv) x T ∧ IsSl x.2.2.1 ∧ IsSl x.2.2.2
theorem OfJQ.below {N : Nat} {w W W' : World} {k : Int} {s : ByteArray} {kv iv lv : Value} {L : List JT} {M : List JC} (h : OfJQ N w W k s kv iv lv L M) (hb : Below W.heap.size W W') : OfJQ N w W' k s kv iv lv L M :=
  ⟨h.inb.below hb, h.res.below hb, h.box.below hb, h.vs.keep (fun j e => hb.block j (h.vs.lt j e).2), h.low.trans (hb.mono h.low.size), fun q x T hx hT => ⟨(h.ps q x T hx hT).1.bel hb, (h.ps q x T hx hT).2⟩⟩
theorem OfJQ.put {N : Nat} {w W W' : World} {k : Int} {s : ByteArray} {kv iv lv lv' : Value} {L : List JT} {M : List JC} {y : JC} {T : JT} (h : OfJQ N w W k s kv iv lv L M) (hN : N ≤ w.heap.size) (hg : W.grownBy W' lv.ownBlock) (ho : OwnQ (w.heap.size + 3) W' lv' (M ++ [y])) (hrow : lv'.ownBlock = lv.ownBlock ∨ lv'.ownBlock = some W.heap.size)
    (hT : L[M.length]? = some T) (hy : TIn W (LiesQ N w lv) y T) (hy2 : IsSl y.2.2.1) (hy3 : IsSl y.2.2.2) : OfJQ N w (W'.setCell ⟨w.heap.size + 2, 3, none⟩ lv') k s kv iv lv' L (M ++ [y]) := by
  have n0 : some w.heap.size ≠ lv.ownBlock := fun e => by have := (h.vs.lt _ e.symm).1; omega
  have n1 : some (w.heap.size + 1) ≠ lv.ownBlock := fun e => by have := (h.vs.lt _ e.symm).1; omega
  have n2 : some (w.heap.size + 2) ≠ lv.ownBlock := fun e => by have := (h.vs.lt _ e.symm).1; omega
  have hkeep : ∀ b, LiesQ N w lv b → b < W.heap.size → LiesQ N w lv' b ∧ (W'.setCell ⟨w.heap.size + 2, 3, none⟩ lv').heap[b]? = W.heap[b]? := by
    intro b hs hlt
    obtain ⟨h1, h2⟩ := hs
    refine ⟨⟨h1, ?_⟩, ?_⟩
    · rcases hrow with e | e
      · rw [e]
        exact h2
      · rw [e]
        intro q
        simp only [Option.some.injEq] at q
        omega
    · rw [Below.heap_setCell W' ⟨w.heap.size + 2, 3, none⟩ lv' b (by simp only [ne_eq]; omega)]
      exact hg.block b hlt (fun q => h2 q.symm)
  refine ⟨(h.inb.kept hg n0).other (by omega) 3 lv', (h.res.kept hg n1).other (by omega) 3 lv', (h.box.kept hg n2).set 3 lv', ho.set (ho.off (by omega)), (h.low.grown hg h.low.size (fun j e => by have := (h.vs.lt j e).1; omega)).setCell (p := ⟨w.heap.size + 2, 3, none⟩) (by show w.heap.size ≤ w.heap.size + 2; omega) lv', ?_⟩
  intro q x T' hx hT'
  rcases Nat.lt_or_ge q M.length with hq | hq
  · rw [List.getElem?_append_left hq] at hx
    exact ⟨(h.ps q x T' hx hT').1.keep hkeep, (h.ps q x T' hx hT').2⟩
  · rw [List.getElem?_append_right hq] at hx
    obtain rfl : q = M.length := by
      have := (List.getElem?_eq_some_iff.1 hx).1
      simp at this
      omega
    simp at hx
    subst hx
    rw [hT] at hT'
    cases hT'
    exact ⟨hy.keep hkeep, hy2, hy3⟩

theorem OfJQ.lies {N : Nat} {w W : World} {k : Int} {s : ByteArray} {kv iv lv : Value} {L : List JT} {M : List JC} (h : OfJQ N w W k s kv iv lv L M) (hN : N ≤ w.heap.size) (b : Nat) (hb : b < N ∨ W.heap.size ≤ b) : LiesQ N w lv b := by
  have hV := h.box.lt
  refine ⟨?_, fun e => ?_⟩
  · rcases hb with h | h
    · exact .inl h
    · exact .inr (by omega)
  · have := h.vs.lt b e
    rcases hb with h | h <;> omega
theorem OfJQ.mid {N : Nat} {w W W' : World} {k : Int} {s : ByteArray} {kv iv lv : Value} {L : List JT} {M : List JC} (h : OfJQ N w W k s kv iv lv L M) (hg : W.grownBy W' lv.ownBlock) : BoxC W' w.heap.size 27 #[.int .i64 k, .string s, kv, iv] ∧ Below w.heap.size w W' ∧ BoxC W' (w.heap.size + 2) 36 #[.int .i64 k, .string s, kv, lv] :=
  ⟨h.inb.kept hg (fun e => by have := (h.vs.lt _ e.symm).1; omega), h.low.grown hg h.low.size (fun j e => by have := (h.vs.lt j e).1; omega), h.box.kept hg (fun e => by have := (h.vs.lt _ e.symm).1; omega)⟩
theorem OfJQ.tree {N : Nat} {w W : World} {k : Int} {s : ByteArray} {kv iv lv : Value} {K : List ByteArray} {L : List JT} {M : List JC} (h : OfJQ N w W k s kv iv lv L M) (hM : M.length = L.length) (hN : N ≤ w.heap.size) (hK : StrsS w (fun b => b < N) kv K) (x' y' z' u' : Value) :
    TIn ((((W.setCell ⟨w.heap.size + 1, 0, none⟩ x').setCell ⟨w.heap.size + 1, 1, none⟩ y').setCell ⟨w.heap.size + 1, 2, none⟩ z').setCell ⟨w.heap.size + 1, 3, none⟩ u') (fun b => b < N ∨ w.heap.size ≤ b) (k, s, kv, lv) (.mk k s K L) := by
  obtain ⟨ya, yc, hlv, _⟩ := h.vs.len
  have hown := h.vs
  have hps := h.ps
  rw [hM] at hlv
  subst hlv
  have hk : ∀ b, b ≠ w.heap.size + 1 → ((((W.setCell ⟨w.heap.size + 1, 0, none⟩ x').setCell ⟨w.heap.size + 1, 1, none⟩ y').setCell ⟨w.heap.size + 1, 2, none⟩ z').setCell ⟨w.heap.size + 1, 3, none⟩ u').heap[b]? = W.heap[b]? := fun b hb => by
    rw [Below.heap_setCell _ ⟨w.heap.size + 1, 3, none⟩ u' b hb, Below.heap_setCell _ ⟨w.heap.size + 1, 2, none⟩ z' b hb, Below.heap_setCell _ ⟨w.heap.size + 1, 1, none⟩ y' b hb, Below.heap_setCell _ ⟨w.heap.size + 1, 0, none⟩ x' b hb]
  generalize ((((W.setCell ⟨w.heap.size + 1, 0, none⟩ x').setCell ⟨w.heap.size + 1, 1, none⟩ y').setCell ⟨w.heap.size + 1, 2, none⟩ z').setCell ⟨w.heap.size + 1, 3, none⟩ u') = W' at *
  have hex : ∀ i (h : i < L.length), M[i]? = some (M[i]'(by omega)) := fun i h => List.getElem?_eq_getElem (by omega)
  refine .mk k s kv ya yc K L (fun i => (M[i]?).getD (0, ⟨#[]⟩, kv, kv)) (hK.keep fun b hs hlt => ⟨.inl hs, (hk b (by omega)).trans (h.low.block b hlt)⟩) (fun i hi => ?_) (fun i hi => ?_) (fun i hi => ?_)
  · obtain ⟨g, hg, hcl⟩ := hown.cell (hex i hi)
    subst hg
    have hlow := (hown.lt g rfl).1
    refine ⟨g, 0, rfl, .inr (by omega), fun r hr => ?_⟩
    rw [hex i hi, Nat.zero_add]
    exact (World.cell?_of_block (a := ⟨g, i * 4 + r, none⟩) (hk g (by omega))).trans (hcl r hr)
  · rw [hex i hi]
    exact (hps i _ _ (hex i hi) (List.getElem?_eq_getElem hi)).2
  · rw [hex i hi]
    refine (hps i _ _ (hex i hi) (List.getElem?_eq_getElem hi)).1.keep fun b hs hlt => ⟨?_, hk b ?_⟩
    · rcases hs.1 with h | h
      · exact .inl h
      · exact .inr (by omega)
    · rcases hs.1 with h | h
      · omega
      · omega

/-- What it answers. -/
def OfRQ (N : Nat) (w : World) (T : JT) (e : Ending) (w' : World) : Prop := ∃ x : JC, e = .returned (vagg x) ∧ Below w.heap.size w w' ∧ TIn w' (fun b => b < N ∨ w.heap.size ≤ b) x T ∧ IsSl x.2.2.1 ∧ IsSl x.2.2.2

set_option maxHeartbeats 16000000 in
theorem of_any {W : World} {S : Nat → Prop} {x : JC} {T : JT} (h : TIn W S x T) (hl : LtT T) : ∀ (w : World), Below W.heap.size W w → Calls Tryz.prog 10 #[vagg x] w (OfRQ W.heap.size w T) := by
  induction h with
  | mk k s kv la lc K L xs hK hc hsl ht ih =>
    intro w hW
    obtain ⟨_, _, _, _, hKl, hLl, hsz, hll⟩ := hl
    unfold vagg
    simp only
    have hNw := hW.size
    have hKk := hK.keep (W' := w) (S' := fun b => b < W.heap.size) (fun b _ hlt => ⟨hlt, hW.block b hlt⟩)
    obtain ⟨ka, kc, rfl, hKc⟩ := hK
    obtain ⟨kn, hkn⟩ : ∃ kn, K.length = kn := ⟨_, rfl⟩
    obtain ⟨ln, hln⟩ : ∃ ln, L.length = ln := ⟨_, rfl⟩
    rw [hkn] at hKk
    rw [hln] at hLl hc hsl
    rw [hkn, hln]
    have HI : Hid (OfJQ W.heap.size w (((w.alloc (.cells #[.int .i64 k, .string s, .slice ka kn kc, .slice la ln lc] 27)).alloc (.cells #[.int .i64 0, .string ⟨#[]⟩, .slice none 0 0, .slice none 0 0] 36)).alloc (.cells #[.int .i64 k, .string s, .slice ka kn kc, .slice none 0 0] 36)) k s (.slice ka kn kc) (.slice la ln lc) (.slice none 0 0) L []) := by
      have h1 := BoxC.new w 27 #[.int .i64 k, .string s, .slice ka kn kc, .slice la ln lc]
      have h2 := BoxC.new (w.alloc (.cells #[.int .i64 k, .string s, .slice ka kn kc, .slice la ln lc] 27)) 36 #[.int .i64 0, .string ⟨#[]⟩, .slice none 0 0, .slice none 0 0]
      have h3 := BoxC.new ((w.alloc (.cells #[.int .i64 k, .string s, .slice ka kn kc, .slice la ln lc] 27)).alloc (.cells #[.int .i64 0, .string ⟨#[]⟩, .slice none 0 0, .slice none 0 0] 36)) 36 #[.int .i64 k, .string s, .slice ka kn kc, .slice none 0 0]
      simp only [World.size_alloc] at h2 h3
      exact ⟨(h1.alloc _).alloc _, h2.alloc _, h3, ownQ_nil _ _, ((bel w _).alloc (by simp) _).alloc (by simp only [World.size_alloc]; omega) _, fun q x T hx => by simp at hx⟩
    have HPS : Hid (∀ w2, Below w.heap.size w w2 → ∀ i, i < ln → ∃ b off, la = some ⟨b, off, none⟩ ∧ ∀ r, r < 4 → w2.cell? ⟨b, off + (i * 4 + r), none⟩ = (vcell (xs i))[r]?) := fun w2 h2 i hi => by
      obtain ⟨b, off, e, _, hx⟩ := hc i hi
      have hW2 := hW.trans (h2.mono hW.size)
      refine ⟨b, off, e, fun r hr => ?_⟩
      have h0 := hx 0 (by omega)
      simp only [vcell, List.getElem?_cons_zero] at h0
      exact (hW2.cell (p := ⟨b, off + (i * 4 + r), none⟩) (block_lt h0)).trans (hx r hr)
    have HIH : Hid (∀ i (hi : i < L.length) w2, Below w.heap.size w w2 → Calls Tryz.prog 10 #[vagg (xs i)] w2 (OfRQ W.heap.size w2 L[i])) := fun i hi w2 h2 => ih i hi (hll i hi) w2 (hW.trans (h2.mono hW.size))
    have HSL := hide hsl
    have HKK := hide hKk
    have HNW := hide hNw
    have HKN := hide hkn
    have HLN := hide hln
    have HLL := hide hLl
    clear hKc hc hsl ht ih hll hsz hKl hKk hNw hkn hln hLl hW
    go_enter Tryz.func10, Tryz.ntmps10
    go_wp2
    go_loopw [4] (fun iv wr => ∃ (i : Nat) (lv : Value) (M : List JC), i ≤ ln ∧ iv = .int .i64 (i : Int) ∧ M.length = i ∧ OfJQ W.heap.size w wr k s (.slice ka kn kc) (.slice la ln lc) lv L M) (fun iv _ => ln - (RowKit.intOf iv).toNat)
    case atStart => exact ⟨0, _, [], Nat.zero_le _, rfl, rfl, HI.out⟩
    case round =>
      obtain ⟨i, lv, M, hi, rfl, hM, hm⟩ := hrel
      have v3 : wr.cell? ⟨w.heap.size, 3, none⟩ = some (.slice la ln lc) := hm.inb.cell 3
      obtain ⟨ya, yc, hlv, _⟩ := hm.vs.len
      have HMI := hide hM
      have HNI := hide hi
      have HM0 := hide hm
      clear HI hm hM
      subst hlv
      obtain ⟨yl, hyl⟩ : ∃ yl, M.length = yl := ⟨_, rfl⟩
      rw [hyl] at HM0
      have HYL := hide hyl
      clear hyl
      by_cases hlt : i < ln
      · obtain ⟨b, off, rfl, _⟩ := HPS.out w (Below.refl _ _) i hlt
        obtain ⟨hs2, hs3⟩ := HSL.out i hlt
        obtain ⟨Ti, hTi⟩ : ∃ Ti, L[i]? = some Ti := ⟨L[i]'(by have := HLN.out; omega), List.getElem?_eq_getElem _⟩
        have hcall : ∀ w2, Below w.heap.size w w2 → Calls Tryz.prog 10 #[vagg (xs i)] w2 (OfRQ W.heap.size w2 Ti) := fun w2 h2 => by
          obtain ⟨h, rfl⟩ := List.getElem?_eq_some_iff.1 hTi
          exact HIH.out i h w2 h2
        have hparts : ∀ w2, Below w.heap.size w w2 → ∀ r, r < 4 → w2.cell? ⟨b, off + (i * 4 + r), none⟩ = (vcell (xs i))[r]? := fun w2 h2 => by
          obtain ⟨b', off', e, h⟩ := HPS.out w2 h2 i hlt
          cases e
          exact h
        generalize xs i = y at *
        obtain ⟨yk, ys, yK, yL⟩ := y
        simp only [vagg, vcell] at hcall hparts hs2 hs3
        obtain ⟨ka', kl', kc', rfl⟩ := hs2
        obtain ⟨la', ll', lc', rfl⟩ := hs3
        have HSX : Hid (∀ X0 : World, BoxC X0 w.heap.size 27 #[.int .i64 k, .string s, .slice ka kn kc, .slice (some ⟨b, off, none⟩) ln lc] → Below w.heap.size w X0 → (X0.cell? ⟨w.heap.size, 3, none⟩ = some (.slice (some ⟨b, off, none⟩) ln lc) ∧ X0.cell? ⟨b, off + i * 4, none⟩ = some (.int .i64 yk) ∧ X0.cell? ⟨b, off + i * 4 + 1, none⟩ = some (.string ys) ∧ X0.cell? ⟨b, off + i * 4 + 2, none⟩ = some (.slice ka' kl' kc') ∧ X0.cell? ⟨b, off + i * 4 + 3, none⟩ = some (.slice la' ll' lc'))) := fun X0 h1 h2 => by
          have x0 := hparts X0 h2 0 (by omega)
          have x1 := hparts X0 h2 1 (by omega)
          have x2 := hparts X0 h2 2 (by omega)
          have x3 := hparts X0 h2 3 (by omega)
          simp only [List.getElem?_cons_zero, List.getElem?_cons_succ, ← Nat.add_assoc, Nat.add_zero] at x0 x1 x2 x3
          exact ⟨h1.cell 3, x0, x1, x2, x3⟩
        have HCALL := hide hcall
        have HTI := hide hTi
        obtain ⟨i1, hi1⟩ : ∃ i1, i + 1 = i1 := ⟨_, rfl⟩
        have e1 : (i : Int) + 1 = (i1 : Int) := by omega
        have g1 : (i1 : Int) ≤ 1000000000 := by have := HLL.out; omega
        have d1 : (i : Int) < (ln : Int) := by omega
        have d0 : (0 : Int) ≤ (i : Int) := by omega
        have HI1 := hide hi1
        have HIL := hide hlt
        clear hcall hTi hi1 hlt hi hparts
        go_upto_region 5 with fail
        refine wp_region_held_drew (S := fun X0 : World => X0.cell? ⟨w.heap.size, 3, none⟩ = some (.slice (some ⟨b, off, none⟩) ln lc) ∧ X0.cell? ⟨b, off + i * 4, none⟩ = some (.int .i64 yk) ∧ X0.cell? ⟨b, off + i * 4 + 1, none⟩ = some (.string ys) ∧ X0.cell? ⟨b, off + i * 4 + 2, none⟩ = some (.slice ka' kl' kc') ∧ X0.cell? ⟨b, off + i * 4 + 3, none⟩ = some (.slice la' ll' lc')) (by kernel_rfl) (HSX.out _ HM0.out.inb HM0.out.low.drew) (fun hHeld => ?_)
        have hdr : Below wr.heap.size wr wr.drew := (Below.refl _ _).drew
        have HMD := hide (HM0.out.below hdr)
        clear hdr v3
        generalize wr.drew = w8 at *
        refine takeD (i := 0) (v := ?v1) (some 19) rfl (by kernel_rfl) (by kernel_rfl) (by kernel_rfl) (fun _ _ _ h => h) (Or.inl ⟨by rfl, ?hy1⟩) (HSX.out _ HMD.out.inb HMD.out.low) (by rfl) ?rest1
        case hy1 => first | (intro w hSw; (try dsimp only at hSw); obtain ⟨s0, s1, s2, s3, s4⟩ := hSw; go_simp; done) | (intro w hSw; (try dsimp only at hSw); obtain ⟨s0, s1, s2, s3, s4⟩ := hSw; go_simp; with_reducible rfl)
        try simp only [Act.put, List.setIfInBounds_toArray, List.set_cons_zero, List.set_cons_succ, vagg]
        refine takeD (i := 2) (v := ?v2) (some 21) rfl (by kernel_rfl) (by kernel_rfl) (by kernel_rfl) (fun _ _ _ h => h) (Or.inl ⟨by rfl, ?hy2⟩) (HSX.out _ HMD.out.inb HMD.out.low) (by rfl) ?rest2
        case hy2 => first | (intro w hSw; (try dsimp only at hSw); obtain ⟨s0, s1, s2, s3, s4⟩ := hSw; go_simp; done) | (intro w hSw; (try dsimp only at hSw); obtain ⟨s0, s1, s2, s3, s4⟩ := hSw; go_simp; with_reducible rfl)
        try simp only [Act.put, List.setIfInBounds_toArray, List.set_cons_zero, List.set_cons_succ, vagg]
        refine takeD (i := 3) (v := ?v3) (some 22) rfl (by kernel_rfl) (by kernel_rfl) (by kernel_rfl) (fun _ _ _ h => h) (Or.inl ⟨by rfl, ?hy3⟩) (HSX.out _ HMD.out.inb HMD.out.low) (by rfl) ?rest3
        case hy3 => first | (intro w hSw; (try dsimp only at hSw); obtain ⟨s0, s1, s2, s3, s4⟩ := hSw; go_simp; done) | (intro w hSw; (try dsimp only at hSw); obtain ⟨s0, s1, s2, s3, s4⟩ := hSw; go_simp; with_reducible rfl)
        try simp only [Act.put, List.setIfInBounds_toArray, List.set_cons_zero, List.set_cons_succ, vagg]
        refine takeD (i := 4) (v := ?v4) (some 23) rfl (by kernel_rfl) (by kernel_rfl) (by kernel_rfl) (fun _ _ _ h => h) (Or.inl ⟨by rfl, ?hy4⟩) (HSX.out _ HMD.out.inb HMD.out.low) (by rfl) ?rest4
        case hy4 => first | (intro w hSw; (try dsimp only at hSw); obtain ⟨s0, s1, s2, s3, s4⟩ := hSw; go_simp; done) | (intro w hSw; (try dsimp only at hSw); obtain ⟨s0, s1, s2, s3, s4⟩ := hSw; go_simp; with_reducible rfl)
        try simp only [Act.put, List.setIfInBounds_toArray, List.set_cons_zero, List.set_cons_succ, vagg]
        refine takeD (i := 5) (v := ?v5) (some 24) rfl (by kernel_rfl) (by kernel_rfl) (by kernel_rfl) (fun _ _ _ h => h) (Or.inl ⟨by rfl, ?hy5⟩) (HSX.out _ HMD.out.inb HMD.out.low) (by rfl) ?rest5
        case hy5 => first | (intro w hSw; (try dsimp only at hSw); obtain ⟨s0, s1, s2, s3, s4⟩ := hSw; go_simp; done) | (intro w hSw; (try dsimp only at hSw); obtain ⟨s0, s1, s2, s3, s4⟩ := hSw; go_simp; with_reducible rfl)
        try simp only [Act.put, List.setIfInBounds_toArray, List.set_cons_zero, List.set_cons_succ, vagg]
        refine takeD (i := 6) (v := ?v6) (some 25) rfl (by kernel_rfl) (by kernel_rfl) (by kernel_rfl) (fun _ _ _ h => h) (Or.inl ⟨by rfl, ?hy6⟩) (HSX.out _ HMD.out.inb HMD.out.low) (by rfl) ?rest6
        case hy6 => first | (intro w hSw; (try dsimp only at hSw); obtain ⟨s0, s1, s2, s3, s4⟩ := hSw; go_simp; done) | (intro w hSw; (try dsimp only at hSw); obtain ⟨s0, s1, s2, s3, s4⟩ := hSw; go_simp; with_reducible rfl)
        try simp only [Act.put, List.setIfInBounds_toArray, List.set_cons_zero, List.set_cons_succ, vagg]
        refine wpAnyH_ready (rs := [1, 7]) (by kernel_rfl) (by simp) ?_
        refine AllReadyH.cons rfl (fun K hK => ?_) (AllReadyH.cons rfl (fun K hK => ?_) AllReadyH.nil)
        · have clw : w8.cell? ⟨w.heap.size + 2, 3, none⟩ = some (.slice ya yl yc) := HMD.out.box.cell 3
          go_simp
          refine hK.out _ _ (HSX.out _ HMD.out.inb HMD.out.low) (fun _ => ?_)
          clear hK K clw
          try simp only [Act.put, List.setIfInBounds_toArray, List.set_cons_zero, List.set_cons_succ, vagg]
          refine wpAnyH_ready (rs := [7]) (by kernel_rfl) (by simp) ?_
          refine AllReadyH.cons rfl (fun K hK => ?_) AllReadyH.nil
          go_simp
          refine (HCALL.out w8 HMD.out.low).mono ?_
          rintro e w4 ⟨x', rfl, hB4, hT4, hs4, hs5⟩
          obtain ⟨xk, xs', xK, xL⟩ := x'
          simp only at hs4 hs5
          obtain ⟨pa, pn, pc, rfl⟩ := hs4
          obtain ⟨qa, qn, qc, rfl⟩ := hs5
          have HM4 := hide (HMD.out.below hB4)
          have HT4 := hide (hT4.keep (W' := w4) (fun b h _ => And.intro (HMD.out.lies HNW.out b h) rfl))
          refine hK.out _ _ (HSX.out _ HM4.out.inb HM4.out.low) (fun _ => ?_)
          clear hK K hB4 hT4
          try simp only [Act.put, List.setIfInBounds_toArray, List.set_cons_zero, List.set_cons_succ, vagg]
          refine wpAnyH_ready (rs := [8]) (by kernel_rfl) (by simp) ?_
          refine AllReadyH.cons rfl (fun K hK => ?_) AllReadyH.nil
          go_simp
          have hbl := bel w4 (.cells #[.int .i64 xk, .string xs', .slice pa pn pc, .slice qa qn qc] 36)
          have hbx := BoxC.new w4 36 #[.int .i64 xk, .string xs', .slice pa pn pc, .slice qa qn qc]
          have HM5 := hide (HM4.out.below hbl)
          have HT5 := hide (HT4.out.bel hbl)
          refine hK.out _ _ (HSX.out _ HM5.out.inb HM5.out.low) (fun _ => ?_)
          clear hK K hbl
          try simp only [Act.put, List.setIfInBounds_toArray, List.set_cons_zero, List.set_cons_succ, vagg]
          generalize hBn : w4.heap.size = BN at *
          generalize hw5 : w4.alloc (.cells #[.int .i64 xk, .string xs', .slice pa pn pc, .slice qa qn qc] 36) = w5 at *
          have HBX := hide hbx
          clear hbx hw5
          refine wpAnyH_ready (rs := [9]) (by kernel_rfl) (by simp) ?_
          refine AllReadyH.cons rfl (fun K hK => ?_) AllReadyH.nil
          refine wp_appQ _ (.tmp 20) (.tmp 27) rfl (w.heap.size + 3) (.slice ya yl yc) M rfl HM5.out.vs BN _ (xk, xs', .slice pa pn pc, .slice qa qn qc) rfl HBX.out ⟨rfl, rfl⟩ (by have := HMI.out; have := HLL.out; have := HIL.out; omega) (by have := HM5.out.box.lt; omega) ?_
          intro lv' w6 hown hgrow hrow
          obtain ⟨va, vn, vc, rfl⟩ := hown.slice
          have hm6 := HM5.out.put HNW.out hgrow hown hrow (by rw [HMI.out]; exact HTI.out) HT5.out ⟨_, _, _, rfl⟩ ⟨_, _, _, rfl⟩
          obtain ⟨hi6, hl6, hx6⟩ := HM5.out.mid hgrow
          have lV6 := hx6.lt
          have cV6 : w6.cell? ⟨w.heap.size + 2, 3, none⟩ = some (.slice ya yl yc) := hx6.cell 3
          have fV6 : w6.frozen? ⟨w.heap.size + 2, 3, none⟩ = false := hx6.frozen 3
          have HM6 := hide hm6
          have HI6 := hide hi6
          have HL6 := hide hl6
          refine hK.out _ _ (HSX.out _ HI6.out HL6.out) (fun _ => ?_)
          clear hK K hown hgrow hrow hm6 hi6 hl6 hx6
          try simp only [Act.put, List.setIfInBounds_toArray, List.set_cons_zero, List.set_cons_succ, vagg]
          refine takeD (i := 10) (v := ?v7) (some 29) rfl (by kernel_rfl) (by kernel_rfl) (by kernel_rfl) (fun _ _ _ h => h) (Or.inl ⟨by rfl, ?hy7⟩) (HSX.out _ HI6.out HL6.out) (by rfl) ?rest7
          case hy7 => first | (intro w hSw; (try dsimp only at hSw); obtain ⟨s0, s1, s2, s3, s4⟩ := hSw; go_simp; done) | (intro w hSw; (try dsimp only at hSw); obtain ⟨s0, s1, s2, s3, s4⟩ := hSw; go_simp; with_reducible rfl)
          try simp only [Act.put, List.setIfInBounds_toArray, List.set_cons_zero, List.set_cons_succ, vagg]
          refine wpAnyH_ready (rs := [11]) (by kernel_rfl) (by simp) ?_
          refine AllReadyH.cons rfl (fun K hK => ?_) AllReadyH.nil
          go_simp
          refine hK.out _ _ (HSX.out _ HM6.out.inb HM6.out.low) (fun _ => ?_)
          clear hK K
          try simp only [Act.put, List.setIfInBounds_toArray, List.set_cons_zero, List.set_cons_succ, vagg]
          refine wpAnyH_done (by kernel_rfl) ?_ _
          go_wp2
          go_roundw
          case rel =>
            refine ⟨i1, .slice va vn vc, _, by have := HIL.out; have := HI1.out; omega, by first | rfl | go_num, ?_, HM6.out⟩
            rw [List.length_append, HMI.out, ← HI1.out]
            rfl
          case measure => have := HIL.out; have := HI1.out; simp [RowKit.intOf]; omega
        · go_simp
          refine (HCALL.out w8 HMD.out.low).mono ?_
          rintro e w4 ⟨x', rfl, hB4, hT4, hs4, hs5⟩
          obtain ⟨xk, xs', xK, xL⟩ := x'
          simp only at hs4 hs5
          obtain ⟨pa, pn, pc, rfl⟩ := hs4
          obtain ⟨qa, qn, qc, rfl⟩ := hs5
          have HM4 := hide (HMD.out.below hB4)
          have HT4 := hide (hT4.keep (W' := w4) (fun b h _ => And.intro (HMD.out.lies HNW.out b h) rfl))
          refine hK.out _ _ (HSX.out _ HM4.out.inb HM4.out.low) (fun _ => ?_)
          clear hK K hB4 hT4
          try simp only [Act.put, List.setIfInBounds_toArray, List.set_cons_zero, List.set_cons_succ, vagg]
          refine wpAnyH_ready (rs := [1, 8]) (by kernel_rfl) (by simp) ?_
          refine AllReadyH.cons rfl (fun K hK => ?_) (AllReadyH.cons rfl (fun K hK => ?_) AllReadyH.nil)
          · have clw : w4.cell? ⟨w.heap.size + 2, 3, none⟩ = some (.slice ya yl yc) := HM4.out.box.cell 3
            go_simp
            refine hK.out _ _ (HSX.out _ HM4.out.inb HM4.out.low) (fun _ => ?_)
            clear hK K clw
            try simp only [Act.put, List.setIfInBounds_toArray, List.set_cons_zero, List.set_cons_succ, vagg]
            refine wpAnyH_ready (rs := [8]) (by kernel_rfl) (by simp) ?_
            refine AllReadyH.cons rfl (fun K hK => ?_) AllReadyH.nil
            go_simp
            have hbl := bel w4 (.cells #[.int .i64 xk, .string xs', .slice pa pn pc, .slice qa qn qc] 36)
            have hbx := BoxC.new w4 36 #[.int .i64 xk, .string xs', .slice pa pn pc, .slice qa qn qc]
            have HM5 := hide (HM4.out.below hbl)
            have HT5 := hide (HT4.out.bel hbl)
            refine hK.out _ _ (HSX.out _ HM5.out.inb HM5.out.low) (fun _ => ?_)
            clear hK K hbl
            try simp only [Act.put, List.setIfInBounds_toArray, List.set_cons_zero, List.set_cons_succ, vagg]
            generalize hBn : w4.heap.size = BN at *
            generalize hw5 : w4.alloc (.cells #[.int .i64 xk, .string xs', .slice pa pn pc, .slice qa qn qc] 36) = w5 at *
            have HBX := hide hbx
            clear hbx hw5
            refine wpAnyH_ready (rs := [9]) (by kernel_rfl) (by simp) ?_
            refine AllReadyH.cons rfl (fun K hK => ?_) AllReadyH.nil
            refine wp_appQ _ (.tmp 20) (.tmp 27) rfl (w.heap.size + 3) (.slice ya yl yc) M rfl HM5.out.vs BN _ (xk, xs', .slice pa pn pc, .slice qa qn qc) rfl HBX.out ⟨rfl, rfl⟩ (by have := HMI.out; have := HLL.out; have := HIL.out; omega) (by have := HM5.out.box.lt; omega) ?_
            intro lv' w6 hown hgrow hrow
            obtain ⟨va, vn, vc, rfl⟩ := hown.slice
            have hm6 := HM5.out.put HNW.out hgrow hown hrow (by rw [HMI.out]; exact HTI.out) HT5.out ⟨_, _, _, rfl⟩ ⟨_, _, _, rfl⟩
            obtain ⟨hi6, hl6, hx6⟩ := HM5.out.mid hgrow
            have lV6 := hx6.lt
            have cV6 : w6.cell? ⟨w.heap.size + 2, 3, none⟩ = some (.slice ya yl yc) := hx6.cell 3
            have fV6 : w6.frozen? ⟨w.heap.size + 2, 3, none⟩ = false := hx6.frozen 3
            have HM6 := hide hm6
            have HI6 := hide hi6
            have HL6 := hide hl6
            refine hK.out _ _ (HSX.out _ HI6.out HL6.out) (fun _ => ?_)
            clear hK K hown hgrow hrow hm6 hi6 hl6 hx6
            try simp only [Act.put, List.setIfInBounds_toArray, List.set_cons_zero, List.set_cons_succ, vagg]
            refine takeD (i := 10) (v := ?v8) (some 29) rfl (by kernel_rfl) (by kernel_rfl) (by kernel_rfl) (fun _ _ _ h => h) (Or.inl ⟨by rfl, ?hy8⟩) (HSX.out _ HI6.out HL6.out) (by rfl) ?rest8
            case hy8 => first | (intro w hSw; (try dsimp only at hSw); obtain ⟨s0, s1, s2, s3, s4⟩ := hSw; go_simp; done) | (intro w hSw; (try dsimp only at hSw); obtain ⟨s0, s1, s2, s3, s4⟩ := hSw; go_simp; with_reducible rfl)
            try simp only [Act.put, List.setIfInBounds_toArray, List.set_cons_zero, List.set_cons_succ, vagg]
            refine wpAnyH_ready (rs := [11]) (by kernel_rfl) (by simp) ?_
            refine AllReadyH.cons rfl (fun K hK => ?_) AllReadyH.nil
            go_simp
            refine hK.out _ _ (HSX.out _ HM6.out.inb HM6.out.low) (fun _ => ?_)
            clear hK K
            try simp only [Act.put, List.setIfInBounds_toArray, List.set_cons_zero, List.set_cons_succ, vagg]
            refine wpAnyH_done (by kernel_rfl) ?_ _
            go_wp2
            go_roundw
            case rel =>
              refine ⟨i1, .slice va vn vc, _, by have := HIL.out; have := HI1.out; omega, by first | rfl | go_num, ?_, HM6.out⟩
              rw [List.length_append, HMI.out, ← HI1.out]
              rfl
            case measure => have := HIL.out; have := HI1.out; simp [RowKit.intOf]; omega
          · go_simp
            have hbl := bel w4 (.cells #[.int .i64 xk, .string xs', .slice pa pn pc, .slice qa qn qc] 36)
            have hbx := BoxC.new w4 36 #[.int .i64 xk, .string xs', .slice pa pn pc, .slice qa qn qc]
            have HM5 := hide (HM4.out.below hbl)
            have HT5 := hide (HT4.out.bel hbl)
            refine hK.out _ _ (HSX.out _ HM5.out.inb HM5.out.low) (fun _ => ?_)
            clear hK K hbl
            try simp only [Act.put, List.setIfInBounds_toArray, List.set_cons_zero, List.set_cons_succ, vagg]
            generalize hBn : w4.heap.size = BN at *
            generalize hw5 : w4.alloc (.cells #[.int .i64 xk, .string xs', .slice pa pn pc, .slice qa qn qc] 36) = w5 at *
            have HBX := hide hbx
            clear hbx hw5
            refine wpAnyH_ready (rs := [1]) (by kernel_rfl) (by simp) ?_
            refine AllReadyH.cons rfl (fun K hK => ?_) AllReadyH.nil
            have clw : w5.cell? ⟨w.heap.size + 2, 3, none⟩ = some (.slice ya yl yc) := HM5.out.box.cell 3
            go_simp
            refine hK.out _ _ (HSX.out _ HM5.out.inb HM5.out.low) (fun _ => ?_)
            clear hK K clw
            try simp only [Act.put, List.setIfInBounds_toArray, List.set_cons_zero, List.set_cons_succ, vagg]
            refine wpAnyH_ready (rs := [9]) (by kernel_rfl) (by simp) ?_
            refine AllReadyH.cons rfl (fun K hK => ?_) AllReadyH.nil
            refine wp_appQ _ (.tmp 20) (.tmp 27) rfl (w.heap.size + 3) (.slice ya yl yc) M rfl HM5.out.vs BN _ (xk, xs', .slice pa pn pc, .slice qa qn qc) rfl HBX.out ⟨rfl, rfl⟩ (by have := HMI.out; have := HLL.out; have := HIL.out; omega) (by have := HM5.out.box.lt; omega) ?_
            intro lv' w6 hown hgrow hrow
            obtain ⟨va, vn, vc, rfl⟩ := hown.slice
            have hm6 := HM5.out.put HNW.out hgrow hown hrow (by rw [HMI.out]; exact HTI.out) HT5.out ⟨_, _, _, rfl⟩ ⟨_, _, _, rfl⟩
            obtain ⟨hi6, hl6, hx6⟩ := HM5.out.mid hgrow
            have lV6 := hx6.lt
            have cV6 : w6.cell? ⟨w.heap.size + 2, 3, none⟩ = some (.slice ya yl yc) := hx6.cell 3
            have fV6 : w6.frozen? ⟨w.heap.size + 2, 3, none⟩ = false := hx6.frozen 3
            have HM6 := hide hm6
            have HI6 := hide hi6
            have HL6 := hide hl6
            refine hK.out _ _ (HSX.out _ HI6.out HL6.out) (fun _ => ?_)
            clear hK K hown hgrow hrow hm6 hi6 hl6 hx6
            try simp only [Act.put, List.setIfInBounds_toArray, List.set_cons_zero, List.set_cons_succ, vagg]
            refine takeD (i := 10) (v := ?v9) (some 29) rfl (by kernel_rfl) (by kernel_rfl) (by kernel_rfl) (fun _ _ _ h => h) (Or.inl ⟨by rfl, ?hy9⟩) (HSX.out _ HI6.out HL6.out) (by rfl) ?rest9
            case hy9 => first | (intro w hSw; (try dsimp only at hSw); obtain ⟨s0, s1, s2, s3, s4⟩ := hSw; go_simp; done) | (intro w hSw; (try dsimp only at hSw); obtain ⟨s0, s1, s2, s3, s4⟩ := hSw; go_simp; with_reducible rfl)
            try simp only [Act.put, List.setIfInBounds_toArray, List.set_cons_zero, List.set_cons_succ, vagg]
            refine wpAnyH_ready (rs := [11]) (by kernel_rfl) (by simp) ?_
            refine AllReadyH.cons rfl (fun K hK => ?_) AllReadyH.nil
            go_simp
            refine hK.out _ _ (HSX.out _ HM6.out.inb HM6.out.low) (fun _ => ?_)
            clear hK K
            try simp only [Act.put, List.setIfInBounds_toArray, List.set_cons_zero, List.set_cons_succ, vagg]
            refine wpAnyH_done (by kernel_rfl) ?_ _
            go_wp2
            go_roundw
            case rel =>
              refine ⟨i1, .slice va vn vc, _, by have := HIL.out; have := HI1.out; omega, by first | rfl | go_num, ?_, HM6.out⟩
              rw [List.length_append, HMI.out, ← HI1.out]
              rfl
            case measure => have := HIL.out; have := HI1.out; simp [RowKit.intOf]; omega
      · obtain rfl : i = ln := by omega
        have d1 : ¬ (i : Int) < (i : Int) := by omega
        have z0 := HM0.out.box.cell 0
        have z1 := HM0.out.box.cell 1
        have z2 := HM0.out.box.cell 2
        have z3 := HM0.out.box.cell 3
        have x0 := HM0.out.res.cell 0
        have x1 := HM0.out.res.cell 1
        have x2 := HM0.out.res.cell 2
        have x3 := HM0.out.res.cell 3
        simp only [List.getElem?_toArray, List.getElem?_cons_zero, List.getElem?_cons_succ] at z0 z1 z2 z3 x0 x1 x2 x3
        have y0 := HM0.out.res.frozen 0
        have y1 := HM0.out.res.frozen 1
        have y2 := HM0.out.res.frozen 2
        have y3 := HM0.out.res.frozen 3
        have lX := HM0.out.res.lt
        have lV := HM0.out.box.lt
        clear hlt hi
        go_wp2
        refine bodyPost_ret (results_rv rfl rfl (resJ_v HM0.out.res (.int .i64 k) (.string s) (.slice ka kn kc) (.slice ya yl yc))) rfl ?_
        exact ⟨(k, s, .slice ka kn kc, .slice ya yl yc), rfl, below4 HM0.out.low (Nat.le_succ _) _ _ _ _, HM0.out.tree (by rw [HMI.out, HLN.out]) HNW.out HKK.out _ _ _ _, ⟨_, _, _, rfl⟩, ⟨_, _, _, rfl⟩⟩

end Go.Proofs.YtbdpmpepmjpadaaGreatDoor

namespace Go.Proofs.YtbdpmpepmjpadaaGreatDoor
set_option linter.unusedVariables false
set_option linter.unusedSimpArgs false
set_option maxRecDepth 100000
open Go Go.RowKit Go.Shelf Go.Lib

/-- Where a tree of a call's own may lie. -/
def LiesV (N : Nat) (w : World) (lv : Value) (b : Nat) : Prop := (b < N ∨ w.heap.size + 3 ≤ b) ∧ lv.ownBlock ≠ some b
/-- A copy on its way. -/
structure OfJV (N : Nat) (w W : World) (k : Int) (s : ByteArray) (kv iv lv : Value) (L : List JT) (M : List JC) : Prop where
  inb : BoxC W w.heap.size 36 #[.int .i64 k, .string s, kv, iv]
  res : BoxC W (w.heap.size + 1) 27 #[.int .i64 0, .string ⟨#[]⟩, .slice none 0 0, .slice none 0 0]
  box : BoxC W (w.heap.size + 2) 27 #[.int .i64 k, .string s, kv, lv]
  vs : OwnV (w.heap.size + 3) W lv M
  low : Below w.heap.size w W
  ps : ∀ (q : Nat) (x : JC) (T : JT), M[q]? = some x → L[q]? = some T → TIn W (LiesV N w lv) x T ∧ IsSl x.2.2.1 ∧ IsSl x.2.2.2
theorem OfJV.below {N : Nat} {w W W' : World} {k : Int} {s : ByteArray} {kv iv lv : Value} {L : List JT} {M : List JC} (h : OfJV N w W k s kv iv lv L M) (hb : Below W.heap.size W W') : OfJV N w W' k s kv iv lv L M :=
  ⟨h.inb.below hb, h.res.below hb, h.box.below hb, h.vs.keep (fun j e => hb.block j (h.vs.lt j e).2), h.low.trans (hb.mono h.low.size), fun q x T hx hT => ⟨(h.ps q x T hx hT).1.bel hb, (h.ps q x T hx hT).2⟩⟩
theorem OfJV.put {N : Nat} {w W W' : World} {k : Int} {s : ByteArray} {kv iv lv lv' : Value} {L : List JT} {M : List JC} {y : JC} {T : JT} (h : OfJV N w W k s kv iv lv L M) (hN : N ≤ w.heap.size) (hg : W.grownBy W' lv.ownBlock) (ho : OwnV (w.heap.size + 3) W' lv' (M ++ [y])) (hrow : lv'.ownBlock = lv.ownBlock ∨ lv'.ownBlock = some W.heap.size)
    (hT : L[M.length]? = some T) (hy : TIn W (LiesV N w lv) y T) (hy2 : IsSl y.2.2.1) (hy3 : IsSl y.2.2.2) : OfJV N w (W'.setCell ⟨w.heap.size + 2, 3, none⟩ lv') k s kv iv lv' L (M ++ [y]) := by
  have n0 : some w.heap.size ≠ lv.ownBlock := fun e => by have := (h.vs.lt _ e.symm).1; omega
  have n1 : some (w.heap.size + 1) ≠ lv.ownBlock := fun e => by have := (h.vs.lt _ e.symm).1; omega
  have n2 : some (w.heap.size + 2) ≠ lv.ownBlock := fun e => by have := (h.vs.lt _ e.symm).1; omega
  have hkeep : ∀ b, LiesV N w lv b → b < W.heap.size → LiesV N w lv' b ∧ (W'.setCell ⟨w.heap.size + 2, 3, none⟩ lv').heap[b]? = W.heap[b]? := by
    intro b hs hlt
    obtain ⟨h1, h2⟩ := hs
    refine ⟨⟨h1, ?_⟩, ?_⟩
    · rcases hrow with e | e
      · rw [e]
        exact h2
      · rw [e]
        intro q
        simp only [Option.some.injEq] at q
        omega
    · rw [Below.heap_setCell W' ⟨w.heap.size + 2, 3, none⟩ lv' b (by simp only [ne_eq]; omega)]
      exact hg.block b hlt (fun q => h2 q.symm)
  refine ⟨(h.inb.kept hg n0).other (by omega) 3 lv', (h.res.kept hg n1).other (by omega) 3 lv', (h.box.kept hg n2).set 3 lv', ho.set (ho.off (by omega)), (h.low.grown hg h.low.size (fun j e => by have := (h.vs.lt j e).1; omega)).setCell (p := ⟨w.heap.size + 2, 3, none⟩) (by show w.heap.size ≤ w.heap.size + 2; omega) lv', ?_⟩
  intro q x T' hx hT'
  rcases Nat.lt_or_ge q M.length with hq | hq
  · rw [List.getElem?_append_left hq] at hx
    exact ⟨(h.ps q x T' hx hT').1.keep hkeep, (h.ps q x T' hx hT').2⟩
  · rw [List.getElem?_append_right hq] at hx
    obtain rfl : q = M.length := by
      have := (List.getElem?_eq_some_iff.1 hx).1
      simp at this
      omega
    simp at hx
    subst hx
    rw [hT] at hT'
    cases hT'
    exact ⟨hy.keep hkeep, hy2, hy3⟩

theorem OfJV.lies {N : Nat} {w W : World} {k : Int} {s : ByteArray} {kv iv lv : Value} {L : List JT} {M : List JC} (h : OfJV N w W k s kv iv lv L M) (hN : N ≤ w.heap.size) (b : Nat) (hb : b < N ∨ W.heap.size ≤ b) : LiesV N w lv b := by
  have hV := h.box.lt
  refine ⟨?_, fun e => ?_⟩
  · rcases hb with h | h
    · exact .inl h
    · exact .inr (by omega)
  · have := h.vs.lt b e
    rcases hb with h | h <;> omega
theorem OfJV.mid {N : Nat} {w W W' : World} {k : Int} {s : ByteArray} {kv iv lv : Value} {L : List JT} {M : List JC} (h : OfJV N w W k s kv iv lv L M) (hg : W.grownBy W' lv.ownBlock) : BoxC W' w.heap.size 36 #[.int .i64 k, .string s, kv, iv] ∧ Below w.heap.size w W' ∧ BoxC W' (w.heap.size + 2) 27 #[.int .i64 k, .string s, kv, lv] :=
  ⟨h.inb.kept hg (fun e => by have := (h.vs.lt _ e.symm).1; omega), h.low.grown hg h.low.size (fun j e => by have := (h.vs.lt j e).1; omega), h.box.kept hg (fun e => by have := (h.vs.lt _ e.symm).1; omega)⟩
theorem OfJV.tree {N : Nat} {w W : World} {k : Int} {s : ByteArray} {kv iv lv : Value} {K : List ByteArray} {L : List JT} {M : List JC} (h : OfJV N w W k s kv iv lv L M) (hM : M.length = L.length) (hN : N ≤ w.heap.size) (hK : StrsS w (fun b => b < N) kv K) (x' y' z' u' : Value) :
    TIn ((((W.setCell ⟨w.heap.size + 1, 0, none⟩ x').setCell ⟨w.heap.size + 1, 1, none⟩ y').setCell ⟨w.heap.size + 1, 2, none⟩ z').setCell ⟨w.heap.size + 1, 3, none⟩ u') (fun b => b < N ∨ w.heap.size ≤ b) (k, s, kv, lv) (.mk k s K L) := by
  obtain ⟨ya, yc, hlv, _⟩ := h.vs.len
  have hown := h.vs
  have hps := h.ps
  rw [hM] at hlv
  subst hlv
  have hk : ∀ b, b ≠ w.heap.size + 1 → ((((W.setCell ⟨w.heap.size + 1, 0, none⟩ x').setCell ⟨w.heap.size + 1, 1, none⟩ y').setCell ⟨w.heap.size + 1, 2, none⟩ z').setCell ⟨w.heap.size + 1, 3, none⟩ u').heap[b]? = W.heap[b]? := fun b hb => by
    rw [Below.heap_setCell _ ⟨w.heap.size + 1, 3, none⟩ u' b hb, Below.heap_setCell _ ⟨w.heap.size + 1, 2, none⟩ z' b hb, Below.heap_setCell _ ⟨w.heap.size + 1, 1, none⟩ y' b hb, Below.heap_setCell _ ⟨w.heap.size + 1, 0, none⟩ x' b hb]
  generalize ((((W.setCell ⟨w.heap.size + 1, 0, none⟩ x').setCell ⟨w.heap.size + 1, 1, none⟩ y').setCell ⟨w.heap.size + 1, 2, none⟩ z').setCell ⟨w.heap.size + 1, 3, none⟩ u') = W' at *
  have hex : ∀ i (h : i < L.length), M[i]? = some (M[i]'(by omega)) := fun i h => List.getElem?_eq_getElem (by omega)
  refine .mk k s kv ya yc K L (fun i => (M[i]?).getD (0, ⟨#[]⟩, kv, kv)) (hK.keep fun b hs hlt => ⟨.inl hs, (hk b (by omega)).trans (h.low.block b hlt)⟩) (fun i hi => ?_) (fun i hi => ?_) (fun i hi => ?_)
  · obtain ⟨g, hg, hcl⟩ := hown.cell (hex i hi)
    subst hg
    have hlow := (hown.lt g rfl).1
    refine ⟨g, 0, rfl, .inr (by omega), fun r hr => ?_⟩
    rw [hex i hi, Nat.zero_add]
    exact (World.cell?_of_block (a := ⟨g, i * 4 + r, none⟩) (hk g (by omega))).trans (hcl r hr)
  · rw [hex i hi]
    exact (hps i _ _ (hex i hi) (List.getElem?_eq_getElem hi)).2
  · rw [hex i hi]
    refine (hps i _ _ (hex i hi) (List.getElem?_eq_getElem hi)).1.keep fun b hs hlt => ⟨?_, hk b ?_⟩
    · rcases hs.1 with h | h
      · exact .inl h
      · exact .inr (by omega)
    · rcases hs.1 with h | h
      · omega
      · omega

/-- What it answers. -/
def OfRV (N : Nat) (w : World) (T : JT) (e : Ending) (w' : World) : Prop := ∃ x : JC, e = .returned (vagg x) ∧ Below w.heap.size w w' ∧ TIn w' (fun b => b < N ∨ w.heap.size ≤ b) x T ∧ IsSl x.2.2.1 ∧ IsSl x.2.2.2

set_option maxHeartbeats 16000000 in
theorem to_any {W : World} {S : Nat → Prop} {x : JC} {T : JT} (h : TIn W S x T) (hl : LtT T) : ∀ (w : World), Below W.heap.size W w → Calls Tryz.prog 13 #[vagg x] w (OfRV W.heap.size w T) := by
  induction h with
  | mk k s kv la lc K L xs hK hc hsl ht ih =>
    intro w hW
    obtain ⟨_, _, _, _, hKl, hLl, hsz, hll⟩ := hl
    unfold vagg
    simp only
    have hNw := hW.size
    have hKk := hK.keep (W' := w) (S' := fun b => b < W.heap.size) (fun b _ hlt => ⟨hlt, hW.block b hlt⟩)
    obtain ⟨ka, kc, rfl, hKc⟩ := hK
    obtain ⟨kn, hkn⟩ : ∃ kn, K.length = kn := ⟨_, rfl⟩
    obtain ⟨ln, hln⟩ : ∃ ln, L.length = ln := ⟨_, rfl⟩
    rw [hkn] at hKk
    rw [hln] at hLl hc hsl
    rw [hkn, hln]
    have HI : Hid (OfJV W.heap.size w (((w.alloc (.cells #[.int .i64 k, .string s, .slice ka kn kc, .slice la ln lc] 36)).alloc (.cells #[.int .i64 0, .string ⟨#[]⟩, .slice none 0 0, .slice none 0 0] 27)).alloc (.cells #[.int .i64 k, .string s, .slice ka kn kc, .slice none 0 0] 27)) k s (.slice ka kn kc) (.slice la ln lc) (.slice none 0 0) L []) := by
      have h1 := BoxC.new w 36 #[.int .i64 k, .string s, .slice ka kn kc, .slice la ln lc]
      have h2 := BoxC.new (w.alloc (.cells #[.int .i64 k, .string s, .slice ka kn kc, .slice la ln lc] 36)) 27 #[.int .i64 0, .string ⟨#[]⟩, .slice none 0 0, .slice none 0 0]
      have h3 := BoxC.new ((w.alloc (.cells #[.int .i64 k, .string s, .slice ka kn kc, .slice la ln lc] 36)).alloc (.cells #[.int .i64 0, .string ⟨#[]⟩, .slice none 0 0, .slice none 0 0] 27)) 27 #[.int .i64 k, .string s, .slice ka kn kc, .slice none 0 0]
      simp only [World.size_alloc] at h2 h3
      exact ⟨(h1.alloc _).alloc _, h2.alloc _, h3, ownV_nil _ _, ((bel w _).alloc (by simp) _).alloc (by simp only [World.size_alloc]; omega) _, fun q x T hx => by simp at hx⟩
    have HPS : Hid (∀ w2, Below w.heap.size w w2 → ∀ i, i < ln → ∃ b off, la = some ⟨b, off, none⟩ ∧ ∀ r, r < 4 → w2.cell? ⟨b, off + (i * 4 + r), none⟩ = (vcell (xs i))[r]?) := fun w2 h2 i hi => by
      obtain ⟨b, off, e, _, hx⟩ := hc i hi
      have hW2 := hW.trans (h2.mono hW.size)
      refine ⟨b, off, e, fun r hr => ?_⟩
      have h0 := hx 0 (by omega)
      simp only [vcell, List.getElem?_cons_zero] at h0
      exact (hW2.cell (p := ⟨b, off + (i * 4 + r), none⟩) (block_lt h0)).trans (hx r hr)
    have HIH : Hid (∀ i (hi : i < L.length) w2, Below w.heap.size w w2 → Calls Tryz.prog 13 #[vagg (xs i)] w2 (OfRV W.heap.size w2 L[i])) := fun i hi w2 h2 => ih i hi (hll i hi) w2 (hW.trans (h2.mono hW.size))
    have HSL := hide hsl
    have HKK := hide hKk
    have HNW := hide hNw
    have HKN := hide hkn
    have HLN := hide hln
    have HLL := hide hLl
    clear hKc hc hsl ht ih hll hsz hKl hKk hNw hkn hln hLl hW
    go_enter Tryz.func13, Tryz.ntmps13
    go_wp2
    go_loopw [4] (fun iv wr => ∃ (i : Nat) (lv : Value) (M : List JC), i ≤ ln ∧ iv = .int .i64 (i : Int) ∧ M.length = i ∧ OfJV W.heap.size w wr k s (.slice ka kn kc) (.slice la ln lc) lv L M) (fun iv _ => ln - (RowKit.intOf iv).toNat)
    case atStart => exact ⟨0, _, [], Nat.zero_le _, rfl, rfl, HI.out⟩
    case round =>
      obtain ⟨i, lv, M, hi, rfl, hM, hm⟩ := hrel
      have v3 : wr.cell? ⟨w.heap.size, 3, none⟩ = some (.slice la ln lc) := hm.inb.cell 3
      obtain ⟨ya, yc, hlv, _⟩ := hm.vs.len
      have HMI := hide hM
      have HNI := hide hi
      have HM0 := hide hm
      clear HI hm hM
      subst hlv
      obtain ⟨yl, hyl⟩ : ∃ yl, M.length = yl := ⟨_, rfl⟩
      rw [hyl] at HM0
      have HYL := hide hyl
      clear hyl
      by_cases hlt : i < ln
      · obtain ⟨b, off, rfl, _⟩ := HPS.out w (Below.refl _ _) i hlt
        obtain ⟨hs2, hs3⟩ := HSL.out i hlt
        obtain ⟨Ti, hTi⟩ : ∃ Ti, L[i]? = some Ti := ⟨L[i]'(by have := HLN.out; omega), List.getElem?_eq_getElem _⟩
        have hcall : ∀ w2, Below w.heap.size w w2 → Calls Tryz.prog 13 #[vagg (xs i)] w2 (OfRV W.heap.size w2 Ti) := fun w2 h2 => by
          obtain ⟨h, rfl⟩ := List.getElem?_eq_some_iff.1 hTi
          exact HIH.out i h w2 h2
        have hparts : ∀ w2, Below w.heap.size w w2 → ∀ r, r < 4 → w2.cell? ⟨b, off + (i * 4 + r), none⟩ = (vcell (xs i))[r]? := fun w2 h2 => by
          obtain ⟨b', off', e, h⟩ := HPS.out w2 h2 i hlt
          cases e
          exact h
        generalize xs i = y at *
        obtain ⟨yk, ys, yK, yL⟩ := y
        simp only [vagg, vcell] at hcall hparts hs2 hs3
        obtain ⟨ka', kl', kc', rfl⟩ := hs2
        obtain ⟨la', ll', lc', rfl⟩ := hs3
        have HSX : Hid (∀ X0 : World, BoxC X0 w.heap.size 36 #[.int .i64 k, .string s, .slice ka kn kc, .slice (some ⟨b, off, none⟩) ln lc] → Below w.heap.size w X0 → (X0.cell? ⟨w.heap.size, 3, none⟩ = some (.slice (some ⟨b, off, none⟩) ln lc) ∧ X0.cell? ⟨b, off + i * 4, none⟩ = some (.int .i64 yk) ∧ X0.cell? ⟨b, off + i * 4 + 1, none⟩ = some (.string ys) ∧ X0.cell? ⟨b, off + i * 4 + 2, none⟩ = some (.slice ka' kl' kc') ∧ X0.cell? ⟨b, off + i * 4 + 3, none⟩ = some (.slice la' ll' lc'))) := fun X0 h1 h2 => by
          have x0 := hparts X0 h2 0 (by omega)
          have x1 := hparts X0 h2 1 (by omega)
          have x2 := hparts X0 h2 2 (by omega)
          have x3 := hparts X0 h2 3 (by omega)
          simp only [List.getElem?_cons_zero, List.getElem?_cons_succ, ← Nat.add_assoc, Nat.add_zero] at x0 x1 x2 x3
          exact ⟨h1.cell 3, x0, x1, x2, x3⟩
        have HCALL := hide hcall
        have HTI := hide hTi
        obtain ⟨i1, hi1⟩ : ∃ i1, i + 1 = i1 := ⟨_, rfl⟩
        have e1 : (i : Int) + 1 = (i1 : Int) := by omega
        have g1 : (i1 : Int) ≤ 1000000000 := by have := HLL.out; omega
        have d1 : (i : Int) < (ln : Int) := by omega
        have d0 : (0 : Int) ≤ (i : Int) := by omega
        have HI1 := hide hi1
        have HIL := hide hlt
        clear hcall hTi hi1 hlt hi hparts
        go_upto_region 5 with fail
        refine wp_region_held_drew (S := fun X0 : World => X0.cell? ⟨w.heap.size, 3, none⟩ = some (.slice (some ⟨b, off, none⟩) ln lc) ∧ X0.cell? ⟨b, off + i * 4, none⟩ = some (.int .i64 yk) ∧ X0.cell? ⟨b, off + i * 4 + 1, none⟩ = some (.string ys) ∧ X0.cell? ⟨b, off + i * 4 + 2, none⟩ = some (.slice ka' kl' kc') ∧ X0.cell? ⟨b, off + i * 4 + 3, none⟩ = some (.slice la' ll' lc')) (by kernel_rfl) (HSX.out _ HM0.out.inb HM0.out.low.drew) (fun hHeld => ?_)
        have hdr : Below wr.heap.size wr wr.drew := (Below.refl _ _).drew
        have HMD := hide (HM0.out.below hdr)
        clear hdr v3
        generalize wr.drew = w8 at *
        refine takeD (i := 0) (v := ?v1) (some 19) rfl (by kernel_rfl) (by kernel_rfl) (by kernel_rfl) (fun _ _ _ h => h) (Or.inl ⟨by rfl, ?hy1⟩) (HSX.out _ HMD.out.inb HMD.out.low) (by rfl) ?rest1
        case hy1 => first | (intro w hSw; (try dsimp only at hSw); obtain ⟨s0, s1, s2, s3, s4⟩ := hSw; go_simp; done) | (intro w hSw; (try dsimp only at hSw); obtain ⟨s0, s1, s2, s3, s4⟩ := hSw; go_simp; with_reducible rfl)
        try simp only [Act.put, List.setIfInBounds_toArray, List.set_cons_zero, List.set_cons_succ, vagg]
        refine takeD (i := 2) (v := ?v2) (some 21) rfl (by kernel_rfl) (by kernel_rfl) (by kernel_rfl) (fun _ _ _ h => h) (Or.inl ⟨by rfl, ?hy2⟩) (HSX.out _ HMD.out.inb HMD.out.low) (by rfl) ?rest2
        case hy2 => first | (intro w hSw; (try dsimp only at hSw); obtain ⟨s0, s1, s2, s3, s4⟩ := hSw; go_simp; done) | (intro w hSw; (try dsimp only at hSw); obtain ⟨s0, s1, s2, s3, s4⟩ := hSw; go_simp; with_reducible rfl)
        try simp only [Act.put, List.setIfInBounds_toArray, List.set_cons_zero, List.set_cons_succ, vagg]
        refine takeD (i := 3) (v := ?v3) (some 22) rfl (by kernel_rfl) (by kernel_rfl) (by kernel_rfl) (fun _ _ _ h => h) (Or.inl ⟨by rfl, ?hy3⟩) (HSX.out _ HMD.out.inb HMD.out.low) (by rfl) ?rest3
        case hy3 => first | (intro w hSw; (try dsimp only at hSw); obtain ⟨s0, s1, s2, s3, s4⟩ := hSw; go_simp; done) | (intro w hSw; (try dsimp only at hSw); obtain ⟨s0, s1, s2, s3, s4⟩ := hSw; go_simp; with_reducible rfl)
        try simp only [Act.put, List.setIfInBounds_toArray, List.set_cons_zero, List.set_cons_succ, vagg]
        refine takeD (i := 4) (v := ?v4) (some 23) rfl (by kernel_rfl) (by kernel_rfl) (by kernel_rfl) (fun _ _ _ h => h) (Or.inl ⟨by rfl, ?hy4⟩) (HSX.out _ HMD.out.inb HMD.out.low) (by rfl) ?rest4
        case hy4 => first | (intro w hSw; (try dsimp only at hSw); obtain ⟨s0, s1, s2, s3, s4⟩ := hSw; go_simp; done) | (intro w hSw; (try dsimp only at hSw); obtain ⟨s0, s1, s2, s3, s4⟩ := hSw; go_simp; with_reducible rfl)
        try simp only [Act.put, List.setIfInBounds_toArray, List.set_cons_zero, List.set_cons_succ, vagg]
        refine takeD (i := 5) (v := ?v5) (some 24) rfl (by kernel_rfl) (by kernel_rfl) (by kernel_rfl) (fun _ _ _ h => h) (Or.inl ⟨by rfl, ?hy5⟩) (HSX.out _ HMD.out.inb HMD.out.low) (by rfl) ?rest5
        case hy5 => first | (intro w hSw; (try dsimp only at hSw); obtain ⟨s0, s1, s2, s3, s4⟩ := hSw; go_simp; done) | (intro w hSw; (try dsimp only at hSw); obtain ⟨s0, s1, s2, s3, s4⟩ := hSw; go_simp; with_reducible rfl)
        try simp only [Act.put, List.setIfInBounds_toArray, List.set_cons_zero, List.set_cons_succ, vagg]
        refine takeD (i := 6) (v := ?v6) (some 25) rfl (by kernel_rfl) (by kernel_rfl) (by kernel_rfl) (fun _ _ _ h => h) (Or.inl ⟨by rfl, ?hy6⟩) (HSX.out _ HMD.out.inb HMD.out.low) (by rfl) ?rest6
        case hy6 => first | (intro w hSw; (try dsimp only at hSw); obtain ⟨s0, s1, s2, s3, s4⟩ := hSw; go_simp; done) | (intro w hSw; (try dsimp only at hSw); obtain ⟨s0, s1, s2, s3, s4⟩ := hSw; go_simp; with_reducible rfl)
        try simp only [Act.put, List.setIfInBounds_toArray, List.set_cons_zero, List.set_cons_succ, vagg]
        refine wpAnyH_ready (rs := [1, 7]) (by kernel_rfl) (by simp) ?_
        refine AllReadyH.cons rfl (fun K hK => ?_) (AllReadyH.cons rfl (fun K hK => ?_) AllReadyH.nil)
        · have clw : w8.cell? ⟨w.heap.size + 2, 3, none⟩ = some (.slice ya yl yc) := HMD.out.box.cell 3
          go_simp
          refine hK.out _ _ (HSX.out _ HMD.out.inb HMD.out.low) (fun _ => ?_)
          clear hK K clw
          try simp only [Act.put, List.setIfInBounds_toArray, List.set_cons_zero, List.set_cons_succ, vagg]
          refine wpAnyH_ready (rs := [7]) (by kernel_rfl) (by simp) ?_
          refine AllReadyH.cons rfl (fun K hK => ?_) AllReadyH.nil
          go_simp
          refine (HCALL.out w8 HMD.out.low).mono ?_
          rintro e w4 ⟨x', rfl, hB4, hT4, hs4, hs5⟩
          obtain ⟨xk, xs', xK, xL⟩ := x'
          simp only at hs4 hs5
          obtain ⟨pa, pn, pc, rfl⟩ := hs4
          obtain ⟨qa, qn, qc, rfl⟩ := hs5
          have HM4 := hide (HMD.out.below hB4)
          have HT4 := hide (hT4.keep (W' := w4) (fun b h _ => And.intro (HMD.out.lies HNW.out b h) rfl))
          refine hK.out _ _ (HSX.out _ HM4.out.inb HM4.out.low) (fun _ => ?_)
          clear hK K hB4 hT4
          try simp only [Act.put, List.setIfInBounds_toArray, List.set_cons_zero, List.set_cons_succ, vagg]
          refine wpAnyH_ready (rs := [8]) (by kernel_rfl) (by simp) ?_
          refine AllReadyH.cons rfl (fun K hK => ?_) AllReadyH.nil
          go_simp
          have hbl := bel w4 (.cells #[.int .i64 xk, .string xs', .slice pa pn pc, .slice qa qn qc] 27)
          have hbx := BoxC.new w4 27 #[.int .i64 xk, .string xs', .slice pa pn pc, .slice qa qn qc]
          have HM5 := hide (HM4.out.below hbl)
          have HT5 := hide (HT4.out.bel hbl)
          refine hK.out _ _ (HSX.out _ HM5.out.inb HM5.out.low) (fun _ => ?_)
          clear hK K hbl
          try simp only [Act.put, List.setIfInBounds_toArray, List.set_cons_zero, List.set_cons_succ, vagg]
          generalize hBn : w4.heap.size = BN at *
          generalize hw5 : w4.alloc (.cells #[.int .i64 xk, .string xs', .slice pa pn pc, .slice qa qn qc] 27) = w5 at *
          have HBX := hide hbx
          clear hbx hw5
          refine wpAnyH_ready (rs := [9]) (by kernel_rfl) (by simp) ?_
          refine AllReadyH.cons rfl (fun K hK => ?_) AllReadyH.nil
          refine wp_appV _ (.tmp 20) (.tmp 27) rfl (w.heap.size + 3) (.slice ya yl yc) M rfl HM5.out.vs BN _ (xk, xs', .slice pa pn pc, .slice qa qn qc) rfl HBX.out ⟨rfl, rfl⟩ (by have := HMI.out; have := HLL.out; have := HIL.out; omega) (by have := HM5.out.box.lt; omega) ?_
          intro lv' w6 hown hgrow hrow
          obtain ⟨va, vn, vc, rfl⟩ := hown.slice
          have hm6 := HM5.out.put HNW.out hgrow hown hrow (by rw [HMI.out]; exact HTI.out) HT5.out ⟨_, _, _, rfl⟩ ⟨_, _, _, rfl⟩
          obtain ⟨hi6, hl6, hx6⟩ := HM5.out.mid hgrow
          have lV6 := hx6.lt
          have cV6 : w6.cell? ⟨w.heap.size + 2, 3, none⟩ = some (.slice ya yl yc) := hx6.cell 3
          have fV6 : w6.frozen? ⟨w.heap.size + 2, 3, none⟩ = false := hx6.frozen 3
          have HM6 := hide hm6
          have HI6 := hide hi6
          have HL6 := hide hl6
          refine hK.out _ _ (HSX.out _ HI6.out HL6.out) (fun _ => ?_)
          clear hK K hown hgrow hrow hm6 hi6 hl6 hx6
          try simp only [Act.put, List.setIfInBounds_toArray, List.set_cons_zero, List.set_cons_succ, vagg]
          refine takeD (i := 10) (v := ?v7) (some 29) rfl (by kernel_rfl) (by kernel_rfl) (by kernel_rfl) (fun _ _ _ h => h) (Or.inl ⟨by rfl, ?hy7⟩) (HSX.out _ HI6.out HL6.out) (by rfl) ?rest7
          case hy7 => first | (intro w hSw; (try dsimp only at hSw); obtain ⟨s0, s1, s2, s3, s4⟩ := hSw; go_simp; done) | (intro w hSw; (try dsimp only at hSw); obtain ⟨s0, s1, s2, s3, s4⟩ := hSw; go_simp; with_reducible rfl)
          try simp only [Act.put, List.setIfInBounds_toArray, List.set_cons_zero, List.set_cons_succ, vagg]
          refine wpAnyH_ready (rs := [11]) (by kernel_rfl) (by simp) ?_
          refine AllReadyH.cons rfl (fun K hK => ?_) AllReadyH.nil
          go_simp
          refine hK.out _ _ (HSX.out _ HM6.out.inb HM6.out.low) (fun _ => ?_)
          clear hK K
          try simp only [Act.put, List.setIfInBounds_toArray, List.set_cons_zero, List.set_cons_succ, vagg]
          refine wpAnyH_done (by kernel_rfl) ?_ _
          go_wp2
          go_roundw
          case rel =>
            refine ⟨i1, .slice va vn vc, _, by have := HIL.out; have := HI1.out; omega, by first | rfl | go_num, ?_, HM6.out⟩
            rw [List.length_append, HMI.out, ← HI1.out]
            rfl
          case measure => have := HIL.out; have := HI1.out; simp [RowKit.intOf]; omega
        · go_simp
          refine (HCALL.out w8 HMD.out.low).mono ?_
          rintro e w4 ⟨x', rfl, hB4, hT4, hs4, hs5⟩
          obtain ⟨xk, xs', xK, xL⟩ := x'
          simp only at hs4 hs5
          obtain ⟨pa, pn, pc, rfl⟩ := hs4
          obtain ⟨qa, qn, qc, rfl⟩ := hs5
          have HM4 := hide (HMD.out.below hB4)
          have HT4 := hide (hT4.keep (W' := w4) (fun b h _ => And.intro (HMD.out.lies HNW.out b h) rfl))
          refine hK.out _ _ (HSX.out _ HM4.out.inb HM4.out.low) (fun _ => ?_)
          clear hK K hB4 hT4
          try simp only [Act.put, List.setIfInBounds_toArray, List.set_cons_zero, List.set_cons_succ, vagg]
          refine wpAnyH_ready (rs := [1, 8]) (by kernel_rfl) (by simp) ?_
          refine AllReadyH.cons rfl (fun K hK => ?_) (AllReadyH.cons rfl (fun K hK => ?_) AllReadyH.nil)
          · have clw : w4.cell? ⟨w.heap.size + 2, 3, none⟩ = some (.slice ya yl yc) := HM4.out.box.cell 3
            go_simp
            refine hK.out _ _ (HSX.out _ HM4.out.inb HM4.out.low) (fun _ => ?_)
            clear hK K clw
            try simp only [Act.put, List.setIfInBounds_toArray, List.set_cons_zero, List.set_cons_succ, vagg]
            refine wpAnyH_ready (rs := [8]) (by kernel_rfl) (by simp) ?_
            refine AllReadyH.cons rfl (fun K hK => ?_) AllReadyH.nil
            go_simp
            have hbl := bel w4 (.cells #[.int .i64 xk, .string xs', .slice pa pn pc, .slice qa qn qc] 27)
            have hbx := BoxC.new w4 27 #[.int .i64 xk, .string xs', .slice pa pn pc, .slice qa qn qc]
            have HM5 := hide (HM4.out.below hbl)
            have HT5 := hide (HT4.out.bel hbl)
            refine hK.out _ _ (HSX.out _ HM5.out.inb HM5.out.low) (fun _ => ?_)
            clear hK K hbl
            try simp only [Act.put, List.setIfInBounds_toArray, List.set_cons_zero, List.set_cons_succ, vagg]
            generalize hBn : w4.heap.size = BN at *
            generalize hw5 : w4.alloc (.cells #[.int .i64 xk, .string xs', .slice pa pn pc, .slice qa qn qc] 27) = w5 at *
            have HBX := hide hbx
            clear hbx hw5
            refine wpAnyH_ready (rs := [9]) (by kernel_rfl) (by simp) ?_
            refine AllReadyH.cons rfl (fun K hK => ?_) AllReadyH.nil
            refine wp_appV _ (.tmp 20) (.tmp 27) rfl (w.heap.size + 3) (.slice ya yl yc) M rfl HM5.out.vs BN _ (xk, xs', .slice pa pn pc, .slice qa qn qc) rfl HBX.out ⟨rfl, rfl⟩ (by have := HMI.out; have := HLL.out; have := HIL.out; omega) (by have := HM5.out.box.lt; omega) ?_
            intro lv' w6 hown hgrow hrow
            obtain ⟨va, vn, vc, rfl⟩ := hown.slice
            have hm6 := HM5.out.put HNW.out hgrow hown hrow (by rw [HMI.out]; exact HTI.out) HT5.out ⟨_, _, _, rfl⟩ ⟨_, _, _, rfl⟩
            obtain ⟨hi6, hl6, hx6⟩ := HM5.out.mid hgrow
            have lV6 := hx6.lt
            have cV6 : w6.cell? ⟨w.heap.size + 2, 3, none⟩ = some (.slice ya yl yc) := hx6.cell 3
            have fV6 : w6.frozen? ⟨w.heap.size + 2, 3, none⟩ = false := hx6.frozen 3
            have HM6 := hide hm6
            have HI6 := hide hi6
            have HL6 := hide hl6
            refine hK.out _ _ (HSX.out _ HI6.out HL6.out) (fun _ => ?_)
            clear hK K hown hgrow hrow hm6 hi6 hl6 hx6
            try simp only [Act.put, List.setIfInBounds_toArray, List.set_cons_zero, List.set_cons_succ, vagg]
            refine takeD (i := 10) (v := ?v8) (some 29) rfl (by kernel_rfl) (by kernel_rfl) (by kernel_rfl) (fun _ _ _ h => h) (Or.inl ⟨by rfl, ?hy8⟩) (HSX.out _ HI6.out HL6.out) (by rfl) ?rest8
            case hy8 => first | (intro w hSw; (try dsimp only at hSw); obtain ⟨s0, s1, s2, s3, s4⟩ := hSw; go_simp; done) | (intro w hSw; (try dsimp only at hSw); obtain ⟨s0, s1, s2, s3, s4⟩ := hSw; go_simp; with_reducible rfl)
            try simp only [Act.put, List.setIfInBounds_toArray, List.set_cons_zero, List.set_cons_succ, vagg]
            refine wpAnyH_ready (rs := [11]) (by kernel_rfl) (by simp) ?_
            refine AllReadyH.cons rfl (fun K hK => ?_) AllReadyH.nil
            go_simp
            refine hK.out _ _ (HSX.out _ HM6.out.inb HM6.out.low) (fun _ => ?_)
            clear hK K
            try simp only [Act.put, List.setIfInBounds_toArray, List.set_cons_zero, List.set_cons_succ, vagg]
            refine wpAnyH_done (by kernel_rfl) ?_ _
            go_wp2
            go_roundw
            case rel =>
              refine ⟨i1, .slice va vn vc, _, by have := HIL.out; have := HI1.out; omega, by first | rfl | go_num, ?_, HM6.out⟩
              rw [List.length_append, HMI.out, ← HI1.out]
              rfl
            case measure => have := HIL.out; have := HI1.out; simp [RowKit.intOf]; omega
          · go_simp
            have hbl := bel w4 (.cells #[.int .i64 xk, .string xs', .slice pa pn pc, .slice qa qn qc] 27)
            have hbx := BoxC.new w4 27 #[.int .i64 xk, .string xs', .slice pa pn pc, .slice qa qn qc]
            have HM5 := hide (HM4.out.below hbl)
            have HT5 := hide (HT4.out.bel hbl)
            refine hK.out _ _ (HSX.out _ HM5.out.inb HM5.out.low) (fun _ => ?_)
            clear hK K hbl
            try simp only [Act.put, List.setIfInBounds_toArray, List.set_cons_zero, List.set_cons_succ, vagg]
            generalize hBn : w4.heap.size = BN at *
            generalize hw5 : w4.alloc (.cells #[.int .i64 xk, .string xs', .slice pa pn pc, .slice qa qn qc] 27) = w5 at *
            have HBX := hide hbx
            clear hbx hw5
            refine wpAnyH_ready (rs := [1]) (by kernel_rfl) (by simp) ?_
            refine AllReadyH.cons rfl (fun K hK => ?_) AllReadyH.nil
            have clw : w5.cell? ⟨w.heap.size + 2, 3, none⟩ = some (.slice ya yl yc) := HM5.out.box.cell 3
            go_simp
            refine hK.out _ _ (HSX.out _ HM5.out.inb HM5.out.low) (fun _ => ?_)
            clear hK K clw
            try simp only [Act.put, List.setIfInBounds_toArray, List.set_cons_zero, List.set_cons_succ, vagg]
            refine wpAnyH_ready (rs := [9]) (by kernel_rfl) (by simp) ?_
            refine AllReadyH.cons rfl (fun K hK => ?_) AllReadyH.nil
            refine wp_appV _ (.tmp 20) (.tmp 27) rfl (w.heap.size + 3) (.slice ya yl yc) M rfl HM5.out.vs BN _ (xk, xs', .slice pa pn pc, .slice qa qn qc) rfl HBX.out ⟨rfl, rfl⟩ (by have := HMI.out; have := HLL.out; have := HIL.out; omega) (by have := HM5.out.box.lt; omega) ?_
            intro lv' w6 hown hgrow hrow
            obtain ⟨va, vn, vc, rfl⟩ := hown.slice
            have hm6 := HM5.out.put HNW.out hgrow hown hrow (by rw [HMI.out]; exact HTI.out) HT5.out ⟨_, _, _, rfl⟩ ⟨_, _, _, rfl⟩
            obtain ⟨hi6, hl6, hx6⟩ := HM5.out.mid hgrow
            have lV6 := hx6.lt
            have cV6 : w6.cell? ⟨w.heap.size + 2, 3, none⟩ = some (.slice ya yl yc) := hx6.cell 3
            have fV6 : w6.frozen? ⟨w.heap.size + 2, 3, none⟩ = false := hx6.frozen 3
            have HM6 := hide hm6
            have HI6 := hide hi6
            have HL6 := hide hl6
            refine hK.out _ _ (HSX.out _ HI6.out HL6.out) (fun _ => ?_)
            clear hK K hown hgrow hrow hm6 hi6 hl6 hx6
            try simp only [Act.put, List.setIfInBounds_toArray, List.set_cons_zero, List.set_cons_succ, vagg]
            refine takeD (i := 10) (v := ?v9) (some 29) rfl (by kernel_rfl) (by kernel_rfl) (by kernel_rfl) (fun _ _ _ h => h) (Or.inl ⟨by rfl, ?hy9⟩) (HSX.out _ HI6.out HL6.out) (by rfl) ?rest9
            case hy9 => first | (intro w hSw; (try dsimp only at hSw); obtain ⟨s0, s1, s2, s3, s4⟩ := hSw; go_simp; done) | (intro w hSw; (try dsimp only at hSw); obtain ⟨s0, s1, s2, s3, s4⟩ := hSw; go_simp; with_reducible rfl)
            try simp only [Act.put, List.setIfInBounds_toArray, List.set_cons_zero, List.set_cons_succ, vagg]
            refine wpAnyH_ready (rs := [11]) (by kernel_rfl) (by simp) ?_
            refine AllReadyH.cons rfl (fun K hK => ?_) AllReadyH.nil
            go_simp
            refine hK.out _ _ (HSX.out _ HM6.out.inb HM6.out.low) (fun _ => ?_)
            clear hK K
            try simp only [Act.put, List.setIfInBounds_toArray, List.set_cons_zero, List.set_cons_succ, vagg]
            refine wpAnyH_done (by kernel_rfl) ?_ _
            go_wp2
            go_roundw
            case rel =>
              refine ⟨i1, .slice va vn vc, _, by have := HIL.out; have := HI1.out; omega, by first | rfl | go_num, ?_, HM6.out⟩
              rw [List.length_append, HMI.out, ← HI1.out]
              rfl
            case measure => have := HIL.out; have := HI1.out; simp [RowKit.intOf]; omega
      · obtain rfl : i = ln := by omega
        have d1 : ¬ (i : Int) < (i : Int) := by omega
        have z0 := HM0.out.box.cell 0
        have z1 := HM0.out.box.cell 1
        have z2 := HM0.out.box.cell 2
        have z3 := HM0.out.box.cell 3
        have x0 := HM0.out.res.cell 0
        have x1 := HM0.out.res.cell 1
        have x2 := HM0.out.res.cell 2
        have x3 := HM0.out.res.cell 3
        simp only [List.getElem?_toArray, List.getElem?_cons_zero, List.getElem?_cons_succ] at z0 z1 z2 z3 x0 x1 x2 x3
        have y0 := HM0.out.res.frozen 0
        have y1 := HM0.out.res.frozen 1
        have y2 := HM0.out.res.frozen 2
        have y3 := HM0.out.res.frozen 3
        have lX := HM0.out.res.lt
        have lV := HM0.out.box.lt
        clear hlt hi
        go_wp2
        refine bodyPost_ret (results_jv rfl rfl (resJ_v HM0.out.res (.int .i64 k) (.string s) (.slice ka kn kc) (.slice ya yl yc))) rfl ?_
        exact ⟨(k, s, .slice ka kn kc, .slice ya yl yc), rfl, below4 HM0.out.low (Nat.le_succ _) _ _ _ _, HM0.out.tree (by rw [HMI.out, HLN.out]) HNW.out HKK.out _ _ _ _, ⟨_, _, _, rfl⟩, ⟨_, _, _, rfl⟩⟩

end Go.Proofs.YtbdpmpepmjpadaaGreatDoor

namespace Go.Proofs.YtbdpmpepmjpadaaGreatDoor
set_option linter.unusedVariables false
set_option linter.unusedSimpArgs false
set_option maxRecDepth 100000
open Go Go.RowKit Go.Shelf Go.Lib

end Go.Proofs.YtbdpmpepmjpadaaGreatDoor

namespace Go.Proofs.YtbdpmpepmjpadaaGreatDoor
set_option linter.unusedVariables false
set_option linter.unusedSimpArgs false
set_option maxRecDepth 100000
open Go Go.RowKit Go.Shelf Go.Lib

theorem TIn.sl {W : World} {S : Nat → Prop} {x : JC} {T : JT} (h : TIn W S x T) : IsSl x.2.2.1 ∧ IsSl x.2.2.2 := by
  cases h with
  | mk k s kv la lc K L xs hK hc hsl ht =>
    obtain ⟨ao, cap, rfl, _⟩ := hK
    exact ⟨⟨_, _, _, rfl⟩, ⟨_, _, _, rfl⟩⟩

end Go.Proofs.YtbdpmpepmjpadaaGreatDoor

namespace Go.Proofs.YtbdpmpepmjpadaaGreatDoor
set_option linter.unusedVariables false
set_option linter.unusedSimpArgs false
set_option maxRecDepth 100000
open Go Go.RowKit Go.Shelf Go.Lib

mutual
/-- Are two trees the same? -/
def eqJ : JT → JT → Bool
  | .mk k s K L, .mk k' s' K' L' =>
    if k ≠ k' then false
    else if k = 3 ∨ k = 4 then decide (s = s')
    else if k = 5 then eqJs L L'
    else if k = 6 then decide (K = K') && eqJs L L'
    else true
def eqJs : List JT → List JT → Bool
  | [], [] => true
  | a :: l, b :: m => eqJ a b && eqJs l m
  | _, _ => false
end

theorem eqJs_iff : ∀ (L M : List JT), eqJs L M = true ↔ L.length = M.length ∧ ∀ (i : Nat) (a b : JT), L[i]? = some a → M[i]? = some b → eqJ a b = true
  | [], [] => by simp [eqJs]
  | [], b :: m => by simp [eqJs]
  | a :: l, [] => by simp [eqJs]
  | a :: l, b :: m => by
    rw [eqJs, Bool.and_eq_true, eqJs_iff l m]
    constructor
    · rintro ⟨h1, h2, h3⟩
      refine ⟨by simp [h2], fun i x y hx hy => ?_⟩
      cases i with
      | zero => simp at hx hy; subst hx hy; exact h1
      | succ i => exact h3 i x y (by simpa using hx) (by simpa using hy)
    · rintro ⟨h1, h2⟩
      exact ⟨h2 0 a b rfl rfl, by simpa using h1, fun i x y hx hy => h2 (i + 1) x y (by simpa using hx) (by simpa using hy)⟩
theorem eqJ_kind {k k' : Int} {s s' : ByteArray} {K K' : List ByteArray} {L L' : List JT} (h : k ≠ k') : eqJ (.mk k s K L) (.mk k' s' K' L') = false := by rw [eqJ, if_pos h]
theorem eqJ_text {k : Int} {s s' : ByteArray} {K K' : List ByteArray} {L L' : List JT} (h : k = 3 ∨ k = 4) : eqJ (.mk k s K L) (.mk k s' K' L') = decide (s = s') := by rw [eqJ, if_neg (by simp), if_pos h]
theorem eqJ_plain {k : Int} {s s' : ByteArray} {K K' : List ByteArray} {L L' : List JT} (h3 : k ≠ 3) (h4 : k ≠ 4) (h5 : k ≠ 5) (h6 : k ≠ 6) : eqJ (.mk k s K L) (.mk k s' K' L') = true := by rw [eqJ, if_neg (by simp), if_neg (by omega), if_neg h5, if_neg h6]
theorem eqJ_five {s s' : ByteArray} {K K' : List ByteArray} {L L' : List JT} : eqJ (.mk 5 s K L) (.mk 5 s' K' L') = eqJs L L' := by rw [eqJ, if_neg (by simp), if_neg (by omega), if_pos rfl]
theorem eqJ_six {s s' : ByteArray} {K K' : List ByteArray} {L L' : List JT} : eqJ (.mk 6 s K L) (.mk 6 s' K' L') = (decide (K = K') && eqJs L L') := by rw [eqJ, if_neg (by simp), if_neg (by omega), if_neg (by omega), if_pos rfl]
/-- What decides of two that have parts. -/
theorem eqJ_parts {k : Int} (h : k = 5 ∨ k = 6) {s s' : ByteArray} {K K' : List ByteArray} {L L' : List JT} : eqJ (.mk k s K L) (.mk k s' K' L') = true ↔ (k = 6 → K = K') ∧ L.length = L'.length ∧ ∀ (i : Nat) (a b : JT), L[i]? = some a → L'[i]? = some b → eqJ a b = true := by
  rcases h with rfl | rfl
  · rw [eqJ_five, eqJs_iff]
    exact ⟨fun h => ⟨fun e => absurd e (by omega), h⟩, fun h => h.2⟩
  · rw [eqJ_six, Bool.and_eq_true, eqJs_iff, decide_eq_true_iff]
    exact ⟨fun h => ⟨fun _ => h.1, h.2⟩, fun h => ⟨h.1 rfl, h.2⟩⟩
/-- Rows of strings: the same, or other somewhere. -/
theorem keys_same {K K' : List ByteArray} (h : K.length = K'.length) (hq : ∀ j, j < K.length → nthS K j = nthS K' j) : K = K' := by
  apply List.ext_getElem h
  intro i h1 h2
  have := hq i h1
  simpa [nthS, h1, h2] using this

end Go.Proofs.YtbdpmpepmjpadaaGreatDoor

namespace Go.Proofs.YtbdpmpepmjpadaaGreatDoor
set_option linter.unusedVariables false
set_option linter.unusedSimpArgs false
set_option maxRecDepth 100000
open Go Go.RowKit Go.Shelf Go.Lib

def REqR (w : World) (T T' : JT) (e : Ending) (w' : World) : Prop := e = .returned (.bool (eqJ T T')) ∧ Below w.heap.size w w'

theorem str_ne {s u : ByteArray} (h : s ≠ u) : (s.toList == u.toList) = false := by
  have h1 : s.data ≠ u.data := fun e => h (by cases s; cases u; simpa using e)
  rw [toList_data, toList_data]
  simpa using h1

set_option maxHeartbeats 16000000 in
theorem requal_any {W : World} {S : Nat → Prop} {x : JC} {T : JT} (h : TIn W S x T) (hl : LtT T) : ∀ {S' : Nat → Prop} {y : JC} {T' : JT}, TIn W S' y T' → LtT T' → ∀ (w : World), Below W.heap.size W w → Calls Tryz.prog 9 #[vagg x, vagg y] w (REqR w T T') := by
  induction h with
  | mk k s kv la lc K L xs hK hc hsl ht ih =>
    intro S' y T' hy hl' w hW
    cases hy with
    | mk k' s' kv' la' lc' K' L' ys hK' hc' hsl' ht' =>
    obtain ⟨_, _, _, _, hKl, hLl, hsz, hll⟩ := hl
    obtain ⟨_, _, _, _, hKl', hLl', hsz', hll'⟩ := hl'
    obtain ⟨ka, kc, rfl, hKc⟩ := hK
    obtain ⟨ka', kc', rfl, hKc'⟩ := hK'
    unfold vagg
    simp only
    have hb1 : Below w.heap.size w ((w.alloc (.cells #[.int .i64 k, .string s, .slice ka K.length kc, .slice la L.length lc] 36)).alloc (.cells #[.int .i64 k', .string s', .slice ka' K'.length kc', .slice la' L'.length lc'] 36)) := (bel w _).alloc (by simp) _
    have hx1 := (BoxC.new w 36 #[.int .i64 k, .string s, .slice ka K.length kc, .slice la L.length lc]).alloc (.cells #[.int .i64 k', .string s', .slice ka' K'.length kc', .slice la' L'.length lc'] 36)
    have hy1 := BoxC.new (w.alloc (.cells #[.int .i64 k, .string s, .slice ka K.length kc, .slice la L.length lc] 36)) 36 #[.int .i64 k', .string s', .slice ka' K'.length kc', .slice la' L'.length lc']
    rw [World.size_alloc] at hy1
    obtain ⟨w1, hw1⟩ : ∃ w1, (w.alloc (.cells #[.int .i64 k, .string s, .slice ka K.length kc, .slice la L.length lc] 36)).alloc (.cells #[.int .i64 k', .string s', .slice ka' K'.length kc', .slice la' L'.length lc'] 36) = w1 := ⟨_, rfl⟩
    rw [hw1] at hb1 hx1 hy1
    have hW1 := hW.trans (hb1.mono hW.size)
    have HIH : Hid (∀ i (hi : i < L.length) (hi' : i < L'.length) w2, Below w1.heap.size w1 w2 → Calls Tryz.prog 9 #[vagg (xs i), vagg (ys i)] w2 (REqR w2 L[i] L'[i])) := fun i hi hi' w2 h2 => ih i hi (hll i hi) (ht' i hi') (hll' i hi') w2 (hW1.trans (h2.mono hW1.size))
    have HV : Hid (∀ w2, Below w1.heap.size w1 w2 → w2.cell? ⟨w.heap.size, 0, none⟩ = some (.int .i64 k) ∧ w2.cell? ⟨w.heap.size, 1, none⟩ = some (.string s) ∧ w2.cell? ⟨w.heap.size, 2, none⟩ = some (.slice ka K.length kc) ∧ w2.cell? ⟨w.heap.size, 3, none⟩ = some (.slice la L.length lc) ∧ w2.cell? ⟨w.heap.size + 1, 0, none⟩ = some (.int .i64 k') ∧ w2.cell? ⟨w.heap.size + 1, 1, none⟩ = some (.string s') ∧ w2.cell? ⟨w.heap.size + 1, 2, none⟩ = some (.slice ka' K'.length kc') ∧ w2.cell? ⟨w.heap.size + 1, 3, none⟩ = some (.slice la' L'.length lc')) := fun w2 h2 => ⟨(hx1.below h2).cell 0, (hx1.below h2).cell 1, (hx1.below h2).cell 2, (hx1.below h2).cell 3, (hy1.below h2).cell 0, (hy1.below h2).cell 1, (hy1.below h2).cell 2, (hy1.below h2).cell 3⟩
    obtain ⟨kn, hkn⟩ : ∃ kn, K.length = kn := ⟨_, rfl⟩
    obtain ⟨ln, hln⟩ : ∃ ln, L.length = ln := ⟨_, rfl⟩
    obtain ⟨kn', hkn'⟩ : ∃ kn, K'.length = kn := ⟨_, rfl⟩
    obtain ⟨ln', hln'⟩ : ∃ ln, L'.length = ln := ⟨_, rfl⟩
    have HKN := hide hkn
    have HLN := hide hln
    have HKN' := hide hkn'
    have HLN' := hide hln'
    rw [hkn, hln, hkn', hln'] at HV
    have HKC : Hid (∀ w2, Below w1.heap.size w1 w2 → ∀ j, j < kn → ∃ b off, ka = some ⟨b, off, none⟩ ∧ w2.cell? ⟨b, off + j, none⟩ = some (.string (nthS K j))) := fun w2 h2 j hj => by
      obtain ⟨b, off, e, _, hx⟩ := hKc j (by omega)
      exact ⟨b, off, e, ((hW1.trans (h2.mono hW1.size)).cell (p := ⟨b, off + j, none⟩) (block_lt hx)).trans hx⟩
    have HLC : Hid (∀ w2, Below w1.heap.size w1 w2 → ∀ i, i < ln → ∃ b off, la = some ⟨b, off, none⟩ ∧ ∀ r, r < 4 → w2.cell? ⟨b, off + (i * 4 + r), none⟩ = (vcell (xs i))[r]?) := fun w2 h2 i hi => by
      obtain ⟨b, off, e, _, hx⟩ := hc i (by omega)
      refine ⟨b, off, e, fun r hr => ?_⟩
      have h0 := hx 0 (by omega)
      simp only [vcell, List.getElem?_cons_zero] at h0
      exact ((hW1.trans (h2.mono hW1.size)).cell (p := ⟨b, off + (i * 4 + r), none⟩) (block_lt h0)).trans (hx r hr)
    have HSL : Hid (∀ i, i < ln → IsSl (xs i).2.2.1 ∧ IsSl (xs i).2.2.2) := fun i hi => hsl i (by omega)
    have HKC' : Hid (∀ w2, Below w1.heap.size w1 w2 → ∀ j, j < kn' → ∃ b off, ka' = some ⟨b, off, none⟩ ∧ w2.cell? ⟨b, off + j, none⟩ = some (.string (nthS K' j))) := fun w2 h2 j hj => by
      obtain ⟨b, off, e, _, hx⟩ := hKc' j (by omega)
      exact ⟨b, off, e, ((hW1.trans (h2.mono hW1.size)).cell (p := ⟨b, off + j, none⟩) (block_lt hx)).trans hx⟩
    have HLC' : Hid (∀ w2, Below w1.heap.size w1 w2 → ∀ i, i < ln' → ∃ b off, la' = some ⟨b, off, none⟩ ∧ ∀ r, r < 4 → w2.cell? ⟨b, off + (i * 4 + r), none⟩ = (vcell (ys i))[r]?) := fun w2 h2 i hi => by
      obtain ⟨b, off, e, _, hx⟩ := hc' i (by omega)
      refine ⟨b, off, e, fun r hr => ?_⟩
      have h0 := hx 0 (by omega)
      simp only [vcell, List.getElem?_cons_zero] at h0
      exact ((hW1.trans (h2.mono hW1.size)).cell (p := ⟨b, off + (i * 4 + r), none⟩) (block_lt h0)).trans (hx r hr)
    have HSL' : Hid (∀ i, i < ln' → IsSl (ys i).2.2.1 ∧ IsSl (ys i).2.2.2) := fun i hi => hsl' i (by omega)
    have HH : Hid (ln ≤ 1000000 ∧ kn ≤ 1000000) := ⟨by omega, by omega⟩
    have HW1 := hide hw1
    have HB1 := hide hb1
    rw [hkn, hln, hkn', hln'] at HW1 ⊢
    clear hw1 hb1 hx1 hy1 hW1 hW ih ht ht' hc hc' hsl hsl' hKc hKc' hll hll' hKl hKl' hLl hLl' hsz hsz' hkn hln hkn' hln'
    by_cases hk : k = k'
    rotate_left
    · obtain ⟨v0, v1, v2, v3, u0, u1, u2, u3⟩ := HV.out _ (Below.refl _ _)
      have d1 : (k != k') = true := by simpa using hk
      have HKK := hide hk
      clear hk
      go_enter Tryz.func9, Tryz.ntmps9
      go_upto_region 1 with fail
      rw [HW1.out]
      clear HW1
      go_wp2
      go_ret
      refine ⟨?_, HB1.out⟩
      rw [eqJ_kind HKK.out]
      rfl
    subst hk
    by_cases h3 : k = 3
    · subst h3
      by_cases hs : s = s'
      · subst hs
        obtain ⟨v0, v1, v2, v3, u0, u1, u2, u3⟩ := HV.out _ (Below.refl _ _)
        go_enter Tryz.func9, Tryz.ntmps9
        go_upto_region 1 with fail
        rw [HW1.out]
        clear HW1
        go_wp2
        go_ret
        refine ⟨?_, HB1.out⟩
        rw [eqJ_text (by omega), decide_eq_true rfl]
        rfl
      · obtain ⟨v0, v1, v2, v3, u0, u1, u2, u3⟩ := HV.out _ (Below.refl _ _)
        have d1 : (s.toList == s'.toList) = false := str_ne hs
        have HKK := hide hs
        clear hs
        go_enter Tryz.func9, Tryz.ntmps9
        go_upto_region 1 with fail
        rw [HW1.out]
        clear HW1
        go_wp2
        go_ret
        refine ⟨?_, HB1.out⟩
        rw [eqJ_text (by omega), decide_eq_false HKK.out]
        rfl
    by_cases h4 : k = 4
    · subst h4
      by_cases hs : s = s'
      · subst hs
        obtain ⟨v0, v1, v2, v3, u0, u1, u2, u3⟩ := HV.out _ (Below.refl _ _)
        go_enter Tryz.func9, Tryz.ntmps9
        go_upto_region 1 with fail
        rw [HW1.out]
        clear HW1
        go_wp2
        go_ret
        refine ⟨?_, HB1.out⟩
        rw [eqJ_text (by omega), decide_eq_true rfl]
        rfl
      · obtain ⟨v0, v1, v2, v3, u0, u1, u2, u3⟩ := HV.out _ (Below.refl _ _)
        have d1 : (s.toList == s'.toList) = false := str_ne hs
        have HKK := hide hs
        clear hs
        go_enter Tryz.func9, Tryz.ntmps9
        go_upto_region 1 with fail
        rw [HW1.out]
        clear HW1
        go_wp2
        go_ret
        refine ⟨?_, HB1.out⟩
        rw [eqJ_text (by omega), decide_eq_false HKK.out]
        rfl
    by_cases h5 : k = 5
    · subst h5
      clear h3 h4
      by_cases hL : ln = ln'
      rotate_left
      · obtain ⟨v0, v1, v2, v3, u0, u1, u2, u3⟩ := HV.out _ (Below.refl _ _)
        have d1 : ((ln : Int) != (ln' : Int)) = true := by simp; omega
        have HKK := hide hL
        clear hL
        go_enter Tryz.func9, Tryz.ntmps9
        go_upto_region 1 with fail
        rw [HW1.out]
        clear HW1
        go_wp2
        go_ret
        refine ⟨?_, HB1.out⟩
        have hf : eqJ (.mk 5 s K L) (.mk 5 s' K' L') = false := Bool.eq_false_iff.2 (fun h => by have := ((eqJ_parts (.inl rfl)).1 h).2.1; have := HKK.out; have := HLN.out; have := HLN'.out; omega)
        rw [hf]
        rfl
      subst hL
      by_cases hz : kn = 0
      · subst hz
        obtain ⟨v0, v1, v2, v3, u0, u1, u2, u3⟩ := HV.out _ (Below.refl _ _)
        go_enter Tryz.func9, Tryz.ntmps9
        go_upto_region 1 with fail
        rw [HW1.out]
        clear HW1
        go_wp2
        go_loopw [5] (fun iv wr => iv = .int .i64 0 ∧ w1 = wr) (fun _ _ => 0)
        case atStart => exact ⟨rfl, rfl⟩
        case round =>
          obtain ⟨rfl, rfl⟩ := hrel
          have HB2 := hide (Below.refl w1.heap.size w1)
          go_wp2
          go_loopw [6] (fun iv wr => ∃ i : Nat, i ≤ ln ∧ iv = .int .i64 (i : Int) ∧ Below w1.heap.size w1 wr ∧ ∀ (q : Nat) (a b : JT), q < i → L[q]? = some a → L'[q]? = some b → eqJ a b = true) (fun iv _ => ln - (RowKit.intOf iv).toNat)
          case atStart => exact ⟨0, Nat.zero_le _, rfl, HB2.out, fun q _ _ h => by omega⟩
          case round =>
            obtain ⟨i, hi, rfl, hB, hL⟩ := hrel
            have HL := hide hL
            have HBR := hide hB
            clear hL hB HB2
            generalize wr = wo at *
            obtain ⟨v0, v1, v2, v3, u0, u1, u2, u3⟩ := HV.out wo HBR.out
            by_cases hlt : i < ln
            · obtain ⟨b, off, rfl, _⟩ := HLC.out w1 (Below.refl _ _) i hlt
              obtain ⟨b', off', rfl, _⟩ := HLC'.out w1 (Below.refl _ _) i hlt
              obtain ⟨hs2, hs3⟩ := HSL.out i hlt
              obtain ⟨hs4, hs5⟩ := HSL'.out i hlt
              obtain ⟨Ti, hTi⟩ : ∃ Ti, L[i]? = some Ti := ⟨L[i]'(by have := HLN.out; omega), List.getElem?_eq_getElem _⟩
              obtain ⟨Ui, hUi⟩ : ∃ Ui, L'[i]? = some Ui := ⟨L'[i]'(by have := HLN'.out; omega), List.getElem?_eq_getElem _⟩
              have hcall : ∀ w2, Below w1.heap.size w1 w2 → Calls Tryz.prog 9 #[vagg (xs i), vagg (ys i)] w2 (REqR w2 Ti Ui) := fun w2 h2 => by
                obtain ⟨h, rfl⟩ := List.getElem?_eq_some_iff.1 hTi
                obtain ⟨h', rfl⟩ := List.getElem?_eq_some_iff.1 hUi
                exact HIH.out i h h' w2 h2
              have hp : ∀ w2, Below w1.heap.size w1 w2 → ∀ r, r < 4 → w2.cell? ⟨b, off + (i * 4 + r), none⟩ = (vcell (xs i))[r]? := fun w2 h2 => by
                obtain ⟨_, _, e, h⟩ := HLC.out w2 h2 i hlt
                cases e
                exact h
              have hp' : ∀ w2, Below w1.heap.size w1 w2 → ∀ r, r < 4 → w2.cell? ⟨b', off' + (i * 4 + r), none⟩ = (vcell (ys i))[r]? := fun w2 h2 => by
                obtain ⟨_, _, e, h⟩ := HLC'.out w2 h2 i hlt
                cases e
                exact h
              generalize xs i = y at *
              obtain ⟨yk, ys', yK, yL⟩ := y
              generalize ys i = z at *
              obtain ⟨zk, zs, zK, zL⟩ := z
              simp only [vagg, vcell] at hcall hp hp' hs2 hs3 hs4 hs5
              obtain ⟨pa, pn, pc, rfl⟩ := hs2
              obtain ⟨qa, qn, qc, rfl⟩ := hs3
              obtain ⟨pa', pn', pc', rfl⟩ := hs4
              obtain ⟨qa', qn', qc', rfl⟩ := hs5
              have HSX : Hid (∀ X0 : World, Below w1.heap.size w1 X0 → (X0.cell? ⟨w.heap.size, 3, none⟩ = some (.slice (some ⟨b, off, none⟩) ln lc) ∧ X0.cell? ⟨w.heap.size + 1, 3, none⟩ = some (.slice (some ⟨b', off', none⟩) ln lc') ∧ X0.cell? ⟨b, off + i * 4, none⟩ = some (.int .i64 yk) ∧ X0.cell? ⟨b, off + i * 4 + 1, none⟩ = some (.string ys') ∧ X0.cell? ⟨b, off + i * 4 + 2, none⟩ = some (.slice pa pn pc) ∧ X0.cell? ⟨b, off + i * 4 + 3, none⟩ = some (.slice qa qn qc) ∧ X0.cell? ⟨b', off' + i * 4, none⟩ = some (.int .i64 zk) ∧ X0.cell? ⟨b', off' + i * 4 + 1, none⟩ = some (.string zs) ∧ X0.cell? ⟨b', off' + i * 4 + 2, none⟩ = some (.slice pa' pn' pc') ∧ X0.cell? ⟨b', off' + i * 4 + 3, none⟩ = some (.slice qa' qn' qc'))) := fun X0 h2 => by
                have x0 := hp X0 h2 0 (by omega)
                have x1 := hp X0 h2 1 (by omega)
                have x2 := hp X0 h2 2 (by omega)
                have x3 := hp X0 h2 3 (by omega)
                have y0 := hp' X0 h2 0 (by omega)
                have y1 := hp' X0 h2 1 (by omega)
                have y2 := hp' X0 h2 2 (by omega)
                have y3 := hp' X0 h2 3 (by omega)
                simp only [List.getElem?_cons_zero, List.getElem?_cons_succ, ← Nat.add_assoc, Nat.add_zero] at x0 x1 x2 x3 y0 y1 y2 y3
                obtain ⟨_, _, _, t3, _, _, _, t7⟩ := HV.out X0 h2
                exact ⟨t3, t7, x0, x1, x2, x3, y0, y1, y2, y3⟩
              have HCALL := hide hcall
              have HTI := hide hTi
              have HUI := hide hUi
              obtain ⟨i1, hi1⟩ : ∃ i1, i + 1 = i1 := ⟨_, rfl⟩
              have e1 : (i : Int) + 1 = (i1 : Int) := by omega
              have g1 : (i1 : Int) ≤ 1000000000 := by have := HH.out; omega
              have d1 : (i : Int) < (ln : Int) := by omega
              have d0 : (0 : Int) ≤ (i : Int) := by omega
              have HI := hide (And.intro hlt hi1)
              clear hcall hTi hUi hi1 hlt hi hp hp'
              go_upto_region 17 with fail
              refine wp_region_held_drew (S := fun X0 : World => X0.cell? ⟨w.heap.size, 3, none⟩ = some (.slice (some ⟨b, off, none⟩) ln lc) ∧ X0.cell? ⟨w.heap.size + 1, 3, none⟩ = some (.slice (some ⟨b', off', none⟩) ln lc') ∧ X0.cell? ⟨b, off + i * 4, none⟩ = some (.int .i64 yk) ∧ X0.cell? ⟨b, off + i * 4 + 1, none⟩ = some (.string ys') ∧ X0.cell? ⟨b, off + i * 4 + 2, none⟩ = some (.slice pa pn pc) ∧ X0.cell? ⟨b, off + i * 4 + 3, none⟩ = some (.slice qa qn qc) ∧ X0.cell? ⟨b', off' + i * 4, none⟩ = some (.int .i64 zk) ∧ X0.cell? ⟨b', off' + i * 4 + 1, none⟩ = some (.string zs) ∧ X0.cell? ⟨b', off' + i * 4 + 2, none⟩ = some (.slice pa' pn' pc') ∧ X0.cell? ⟨b', off' + i * 4 + 3, none⟩ = some (.slice qa' qn' qc')) (by kernel_rfl) (HSX.out _ HBR.out.drew) (fun hHeld => ?_)
              have HMD : Hid (Below w1.heap.size w1 wo.drew) := HBR.out.drew
              clear v0 v1 v2 v3 u0 u1 u2 u3
              generalize wo.drew = w8 at *
              refine takeD (i := 0) (v := ?v1) (some 84) rfl (by kernel_rfl) (by kernel_rfl) (by kernel_rfl) (fun _ _ _ h => h) (Or.inl ⟨by rfl, ?hy1⟩) (HSX.out _ HMD.out) (by rfl) ?rest1
              case hy1 => first | (intro w hSw; (try dsimp only at hSw); obtain ⟨s0, s1, s2, s3, s4, s5, s6, s7, s8, s9⟩ := hSw; go_simp; done) | (intro w hSw; (try dsimp only at hSw); obtain ⟨s0, s1, s2, s3, s4, s5, s6, s7, s8, s9⟩ := hSw; go_simp; with_reducible rfl)
              try simp only [Act.put, List.setIfInBounds_toArray, List.set_cons_zero, List.set_cons_succ, vagg]
              refine takeD (i := 1) (v := ?v2) (some 85) rfl (by kernel_rfl) (by kernel_rfl) (by kernel_rfl) (fun _ _ _ h => h) (Or.inl ⟨by rfl, ?hy2⟩) (HSX.out _ HMD.out) (by rfl) ?rest2
              case hy2 => first | (intro w hSw; (try dsimp only at hSw); obtain ⟨s0, s1, s2, s3, s4, s5, s6, s7, s8, s9⟩ := hSw; go_simp; done) | (intro w hSw; (try dsimp only at hSw); obtain ⟨s0, s1, s2, s3, s4, s5, s6, s7, s8, s9⟩ := hSw; go_simp; with_reducible rfl)
              try simp only [Act.put, List.setIfInBounds_toArray, List.set_cons_zero, List.set_cons_succ, vagg]
              refine takeD (i := 2) (v := ?v3) (some 86) rfl (by kernel_rfl) (by kernel_rfl) (by kernel_rfl) (fun _ _ _ h => h) (Or.inl ⟨by rfl, ?hy3⟩) (HSX.out _ HMD.out) (by rfl) ?rest3
              case hy3 => first | (intro w hSw; (try dsimp only at hSw); obtain ⟨s0, s1, s2, s3, s4, s5, s6, s7, s8, s9⟩ := hSw; go_simp; done) | (intro w hSw; (try dsimp only at hSw); obtain ⟨s0, s1, s2, s3, s4, s5, s6, s7, s8, s9⟩ := hSw; go_simp; with_reducible rfl)
              try simp only [Act.put, List.setIfInBounds_toArray, List.set_cons_zero, List.set_cons_succ, vagg]
              refine takeD (i := 3) (v := ?v4) (some 87) rfl (by kernel_rfl) (by kernel_rfl) (by kernel_rfl) (fun _ _ _ h => h) (Or.inl ⟨by rfl, ?hy4⟩) (HSX.out _ HMD.out) (by rfl) ?rest4
              case hy4 => first | (intro w hSw; (try dsimp only at hSw); obtain ⟨s0, s1, s2, s3, s4, s5, s6, s7, s8, s9⟩ := hSw; go_simp; done) | (intro w hSw; (try dsimp only at hSw); obtain ⟨s0, s1, s2, s3, s4, s5, s6, s7, s8, s9⟩ := hSw; go_simp; with_reducible rfl)
              try simp only [Act.put, List.setIfInBounds_toArray, List.set_cons_zero, List.set_cons_succ, vagg]
              refine takeD (i := 4) (v := ?v5) (some 88) rfl (by kernel_rfl) (by kernel_rfl) (by kernel_rfl) (fun _ _ _ h => h) (Or.inl ⟨by rfl, ?hy5⟩) (HSX.out _ HMD.out) (by rfl) ?rest5
              case hy5 => first | (intro w hSw; (try dsimp only at hSw); obtain ⟨s0, s1, s2, s3, s4, s5, s6, s7, s8, s9⟩ := hSw; go_simp; done) | (intro w hSw; (try dsimp only at hSw); obtain ⟨s0, s1, s2, s3, s4, s5, s6, s7, s8, s9⟩ := hSw; go_simp; with_reducible rfl)
              try simp only [Act.put, List.setIfInBounds_toArray, List.set_cons_zero, List.set_cons_succ, vagg]
              refine takeD (i := 5) (v := ?v6) (some 89) rfl (by kernel_rfl) (by kernel_rfl) (by kernel_rfl) (fun _ _ _ h => h) (Or.inl ⟨by rfl, ?hy6⟩) (HSX.out _ HMD.out) (by rfl) ?rest6
              case hy6 => first | (intro w hSw; (try dsimp only at hSw); obtain ⟨s0, s1, s2, s3, s4, s5, s6, s7, s8, s9⟩ := hSw; go_simp; done) | (intro w hSw; (try dsimp only at hSw); obtain ⟨s0, s1, s2, s3, s4, s5, s6, s7, s8, s9⟩ := hSw; go_simp; with_reducible rfl)
              try simp only [Act.put, List.setIfInBounds_toArray, List.set_cons_zero, List.set_cons_succ, vagg]
              refine takeD (i := 6) (v := ?v7) (some 90) rfl (by kernel_rfl) (by kernel_rfl) (by kernel_rfl) (fun _ _ _ h => h) (Or.inl ⟨by rfl, ?hy7⟩) (HSX.out _ HMD.out) (by rfl) ?rest7
              case hy7 => first | (intro w hSw; (try dsimp only at hSw); obtain ⟨s0, s1, s2, s3, s4, s5, s6, s7, s8, s9⟩ := hSw; go_simp; done) | (intro w hSw; (try dsimp only at hSw); obtain ⟨s0, s1, s2, s3, s4, s5, s6, s7, s8, s9⟩ := hSw; go_simp; with_reducible rfl)
              try simp only [Act.put, List.setIfInBounds_toArray, List.set_cons_zero, List.set_cons_succ, vagg]
              refine takeD (i := 7) (v := ?v8) (some 91) rfl (by kernel_rfl) (by kernel_rfl) (by kernel_rfl) (fun _ _ _ h => h) (Or.inl ⟨by rfl, ?hy8⟩) (HSX.out _ HMD.out) (by rfl) ?rest8
              case hy8 => first | (intro w hSw; (try dsimp only at hSw); obtain ⟨s0, s1, s2, s3, s4, s5, s6, s7, s8, s9⟩ := hSw; go_simp; done) | (intro w hSw; (try dsimp only at hSw); obtain ⟨s0, s1, s2, s3, s4, s5, s6, s7, s8, s9⟩ := hSw; go_simp; with_reducible rfl)
              try simp only [Act.put, List.setIfInBounds_toArray, List.set_cons_zero, List.set_cons_succ, vagg]
              refine takeD (i := 8) (v := ?v9) (some 92) rfl (by kernel_rfl) (by kernel_rfl) (by kernel_rfl) (fun _ _ _ h => h) (Or.inl ⟨by rfl, ?hy9⟩) (HSX.out _ HMD.out) (by rfl) ?rest9
              case hy9 => first | (intro w hSw; (try dsimp only at hSw); obtain ⟨s0, s1, s2, s3, s4, s5, s6, s7, s8, s9⟩ := hSw; go_simp; done) | (intro w hSw; (try dsimp only at hSw); obtain ⟨s0, s1, s2, s3, s4, s5, s6, s7, s8, s9⟩ := hSw; go_simp; with_reducible rfl)
              try simp only [Act.put, List.setIfInBounds_toArray, List.set_cons_zero, List.set_cons_succ, vagg]
              refine takeD (i := 9) (v := ?v10) (some 93) rfl (by kernel_rfl) (by kernel_rfl) (by kernel_rfl) (fun _ _ _ h => h) (Or.inl ⟨by rfl, ?hy10⟩) (HSX.out _ HMD.out) (by rfl) ?rest10
              case hy10 => first | (intro w hSw; (try dsimp only at hSw); obtain ⟨s0, s1, s2, s3, s4, s5, s6, s7, s8, s9⟩ := hSw; go_simp; done) | (intro w hSw; (try dsimp only at hSw); obtain ⟨s0, s1, s2, s3, s4, s5, s6, s7, s8, s9⟩ := hSw; go_simp; with_reducible rfl)
              try simp only [Act.put, List.setIfInBounds_toArray, List.set_cons_zero, List.set_cons_succ, vagg]
              refine wpAnyH_ready (rs := [10]) (by kernel_rfl) (by simp) ?_
              refine AllReadyH.cons rfl (fun K hK => ?_) AllReadyH.nil
              go_simp
              refine (HCALL.out w8 HMD.out).mono ?_
              rintro e w4 ⟨rfl, hB4⟩
              have HB4 := hide (HMD.out.trans (hB4.mono HMD.out.size))
              refine hK.out _ _ (HSX.out _ HB4.out) (fun _ => ?_)
              clear hK K hB4
              try simp only [Act.put, List.setIfInBounds_toArray, List.set_cons_zero, List.set_cons_succ, vagg]
              obtain ⟨r, hr⟩ : ∃ r, eqJ Ti Ui = r := ⟨_, rfl⟩
              have HR := hide hr
              rw [hr]
              clear hr
              cases r
              · refine takeD (i := 11) (v := ?v11) (some 95) rfl (by kernel_rfl) (by kernel_rfl) (by kernel_rfl) (fun _ _ _ h => h) (Or.inl ⟨by rfl, ?hy11⟩) (HSX.out _ HB4.out) (by rfl) ?rest11
                case hy11 => first | (intro w hSw; (try dsimp only at hSw); obtain ⟨s0, s1, s2, s3, s4, s5, s6, s7, s8, s9⟩ := hSw; go_simp; done) | (intro w hSw; (try dsimp only at hSw); obtain ⟨s0, s1, s2, s3, s4, s5, s6, s7, s8, s9⟩ := hSw; go_simp; with_reducible rfl)
                try simp only [Act.put, List.setIfInBounds_toArray, List.set_cons_zero, List.set_cons_succ, vagg]
                refine wpAnyH_done (by kernel_rfl) ?_ _
                go_wp2
                go_ret
                refine ⟨?_, HB1.out.trans (HB4.out.mono HB1.out.size)⟩
                have hf : eqJ (.mk 5 s K L) (.mk 5 s' K' L') = false := Bool.eq_false_iff.2 (fun h => by have := ((eqJ_parts (.inl rfl)).1 h).2.2 i Ti Ui HTI.out HUI.out; rw [HR.out] at this; cases this)
                rw [hf]
                rfl
              · refine takeD (i := 11) (v := ?v12) (some 95) rfl (by kernel_rfl) (by kernel_rfl) (by kernel_rfl) (fun _ _ _ h => h) (Or.inl ⟨by rfl, ?hy12⟩) (HSX.out _ HB4.out) (by rfl) ?rest12
                case hy12 => first | (intro w hSw; (try dsimp only at hSw); obtain ⟨s0, s1, s2, s3, s4, s5, s6, s7, s8, s9⟩ := hSw; go_simp; done) | (intro w hSw; (try dsimp only at hSw); obtain ⟨s0, s1, s2, s3, s4, s5, s6, s7, s8, s9⟩ := hSw; go_simp; with_reducible rfl)
                try simp only [Act.put, List.setIfInBounds_toArray, List.set_cons_zero, List.set_cons_succ, vagg]
                refine wpAnyH_done (by kernel_rfl) ?_ _
                go_wp2
                go_roundw
                case rel =>
                  refine ⟨i1, by have := HI.out; omega, by first | rfl | go_num, HB4.out, fun q a b hq ha hb => ?_⟩
                  rcases Nat.lt_or_ge q i with h | h
                  · exact HL.out q a b h ha hb
                  · obtain rfl : q = i := by have := HI.out; omega
                    rw [HTI.out] at ha
                    rw [HUI.out] at hb
                    cases ha
                    cases hb
                    exact HR.out
                case measure => have := HI.out; simp [RowKit.intOf]; omega
            · obtain rfl : i = ln := by omega
              have d5 : ¬ (i : Int) < (i : Int) := by omega
              clear hlt hi
              go_wp2
              go_ret
              refine ⟨?_, HB1.out.trans (HBR.out.mono HB1.out.size)⟩
              rw [(eqJ_parts (.inl rfl)).2 ⟨fun e => absurd e (by omega), by have := HLN.out; have := HLN'.out; omega, fun q a b ha hb => HL.out q a b (by have := (List.getElem?_eq_some_iff.1 ha).1; have := HLN.out; omega) ha hb⟩]
              rfl
      · have dz : (0 : Int) < (kn : Int) := by omega
        clear hz
        obtain ⟨v0, v1, v2, v3, u0, u1, u2, u3⟩ := HV.out _ (Below.refl _ _)
        go_enter Tryz.func9, Tryz.ntmps9
        go_upto_region 1 with fail
        rw [HW1.out]
        clear HW1
        go_wp2
        go_loopw [5] (fun iv wr => iv = .int .i64 0 ∧ w1 = wr) (fun _ _ => 0)
        case atStart => exact ⟨rfl, rfl⟩
        case round =>
          obtain ⟨rfl, rfl⟩ := hrel
          have HB2 := hide (Below.refl w1.heap.size w1)
          go_wp2
          go_loopw [6] (fun iv wr => ∃ i : Nat, i ≤ ln ∧ iv = .int .i64 (i : Int) ∧ Below w1.heap.size w1 wr ∧ ∀ (q : Nat) (a b : JT), q < i → L[q]? = some a → L'[q]? = some b → eqJ a b = true) (fun iv _ => ln - (RowKit.intOf iv).toNat)
          case atStart => exact ⟨0, Nat.zero_le _, rfl, HB2.out, fun q _ _ h => by omega⟩
          case round =>
            obtain ⟨i, hi, rfl, hB, hL⟩ := hrel
            have HL := hide hL
            have HBR := hide hB
            clear hL hB HB2
            generalize wr = wo at *
            obtain ⟨v0, v1, v2, v3, u0, u1, u2, u3⟩ := HV.out wo HBR.out
            by_cases hlt : i < ln
            · obtain ⟨b, off, rfl, _⟩ := HLC.out w1 (Below.refl _ _) i hlt
              obtain ⟨b', off', rfl, _⟩ := HLC'.out w1 (Below.refl _ _) i hlt
              obtain ⟨hs2, hs3⟩ := HSL.out i hlt
              obtain ⟨hs4, hs5⟩ := HSL'.out i hlt
              obtain ⟨Ti, hTi⟩ : ∃ Ti, L[i]? = some Ti := ⟨L[i]'(by have := HLN.out; omega), List.getElem?_eq_getElem _⟩
              obtain ⟨Ui, hUi⟩ : ∃ Ui, L'[i]? = some Ui := ⟨L'[i]'(by have := HLN'.out; omega), List.getElem?_eq_getElem _⟩
              have hcall : ∀ w2, Below w1.heap.size w1 w2 → Calls Tryz.prog 9 #[vagg (xs i), vagg (ys i)] w2 (REqR w2 Ti Ui) := fun w2 h2 => by
                obtain ⟨h, rfl⟩ := List.getElem?_eq_some_iff.1 hTi
                obtain ⟨h', rfl⟩ := List.getElem?_eq_some_iff.1 hUi
                exact HIH.out i h h' w2 h2
              have hp : ∀ w2, Below w1.heap.size w1 w2 → ∀ r, r < 4 → w2.cell? ⟨b, off + (i * 4 + r), none⟩ = (vcell (xs i))[r]? := fun w2 h2 => by
                obtain ⟨_, _, e, h⟩ := HLC.out w2 h2 i hlt
                cases e
                exact h
              have hp' : ∀ w2, Below w1.heap.size w1 w2 → ∀ r, r < 4 → w2.cell? ⟨b', off' + (i * 4 + r), none⟩ = (vcell (ys i))[r]? := fun w2 h2 => by
                obtain ⟨_, _, e, h⟩ := HLC'.out w2 h2 i hlt
                cases e
                exact h
              generalize xs i = y at *
              obtain ⟨yk, ys', yK, yL⟩ := y
              generalize ys i = z at *
              obtain ⟨zk, zs, zK, zL⟩ := z
              simp only [vagg, vcell] at hcall hp hp' hs2 hs3 hs4 hs5
              obtain ⟨pa, pn, pc, rfl⟩ := hs2
              obtain ⟨qa, qn, qc, rfl⟩ := hs3
              obtain ⟨pa', pn', pc', rfl⟩ := hs4
              obtain ⟨qa', qn', qc', rfl⟩ := hs5
              have HSX : Hid (∀ X0 : World, Below w1.heap.size w1 X0 → (X0.cell? ⟨w.heap.size, 3, none⟩ = some (.slice (some ⟨b, off, none⟩) ln lc) ∧ X0.cell? ⟨w.heap.size + 1, 3, none⟩ = some (.slice (some ⟨b', off', none⟩) ln lc') ∧ X0.cell? ⟨b, off + i * 4, none⟩ = some (.int .i64 yk) ∧ X0.cell? ⟨b, off + i * 4 + 1, none⟩ = some (.string ys') ∧ X0.cell? ⟨b, off + i * 4 + 2, none⟩ = some (.slice pa pn pc) ∧ X0.cell? ⟨b, off + i * 4 + 3, none⟩ = some (.slice qa qn qc) ∧ X0.cell? ⟨b', off' + i * 4, none⟩ = some (.int .i64 zk) ∧ X0.cell? ⟨b', off' + i * 4 + 1, none⟩ = some (.string zs) ∧ X0.cell? ⟨b', off' + i * 4 + 2, none⟩ = some (.slice pa' pn' pc') ∧ X0.cell? ⟨b', off' + i * 4 + 3, none⟩ = some (.slice qa' qn' qc'))) := fun X0 h2 => by
                have x0 := hp X0 h2 0 (by omega)
                have x1 := hp X0 h2 1 (by omega)
                have x2 := hp X0 h2 2 (by omega)
                have x3 := hp X0 h2 3 (by omega)
                have y0 := hp' X0 h2 0 (by omega)
                have y1 := hp' X0 h2 1 (by omega)
                have y2 := hp' X0 h2 2 (by omega)
                have y3 := hp' X0 h2 3 (by omega)
                simp only [List.getElem?_cons_zero, List.getElem?_cons_succ, ← Nat.add_assoc, Nat.add_zero] at x0 x1 x2 x3 y0 y1 y2 y3
                obtain ⟨_, _, _, t3, _, _, _, t7⟩ := HV.out X0 h2
                exact ⟨t3, t7, x0, x1, x2, x3, y0, y1, y2, y3⟩
              have HCALL := hide hcall
              have HTI := hide hTi
              have HUI := hide hUi
              obtain ⟨i1, hi1⟩ : ∃ i1, i + 1 = i1 := ⟨_, rfl⟩
              have e1 : (i : Int) + 1 = (i1 : Int) := by omega
              have g1 : (i1 : Int) ≤ 1000000000 := by have := HH.out; omega
              have d1 : (i : Int) < (ln : Int) := by omega
              have d0 : (0 : Int) ≤ (i : Int) := by omega
              have HI := hide (And.intro hlt hi1)
              clear hcall hTi hUi hi1 hlt hi hp hp'
              go_upto_region 17 with fail
              refine wp_region_held_drew (S := fun X0 : World => X0.cell? ⟨w.heap.size, 3, none⟩ = some (.slice (some ⟨b, off, none⟩) ln lc) ∧ X0.cell? ⟨w.heap.size + 1, 3, none⟩ = some (.slice (some ⟨b', off', none⟩) ln lc') ∧ X0.cell? ⟨b, off + i * 4, none⟩ = some (.int .i64 yk) ∧ X0.cell? ⟨b, off + i * 4 + 1, none⟩ = some (.string ys') ∧ X0.cell? ⟨b, off + i * 4 + 2, none⟩ = some (.slice pa pn pc) ∧ X0.cell? ⟨b, off + i * 4 + 3, none⟩ = some (.slice qa qn qc) ∧ X0.cell? ⟨b', off' + i * 4, none⟩ = some (.int .i64 zk) ∧ X0.cell? ⟨b', off' + i * 4 + 1, none⟩ = some (.string zs) ∧ X0.cell? ⟨b', off' + i * 4 + 2, none⟩ = some (.slice pa' pn' pc') ∧ X0.cell? ⟨b', off' + i * 4 + 3, none⟩ = some (.slice qa' qn' qc')) (by kernel_rfl) (HSX.out _ HBR.out.drew) (fun hHeld => ?_)
              have HMD : Hid (Below w1.heap.size w1 wo.drew) := HBR.out.drew
              clear v0 v1 v2 v3 u0 u1 u2 u3
              generalize wo.drew = w8 at *
              refine takeD (i := 0) (v := ?v13) (some 84) rfl (by kernel_rfl) (by kernel_rfl) (by kernel_rfl) (fun _ _ _ h => h) (Or.inl ⟨by rfl, ?hy13⟩) (HSX.out _ HMD.out) (by rfl) ?rest13
              case hy13 => first | (intro w hSw; (try dsimp only at hSw); obtain ⟨s0, s1, s2, s3, s4, s5, s6, s7, s8, s9⟩ := hSw; go_simp; done) | (intro w hSw; (try dsimp only at hSw); obtain ⟨s0, s1, s2, s3, s4, s5, s6, s7, s8, s9⟩ := hSw; go_simp; with_reducible rfl)
              try simp only [Act.put, List.setIfInBounds_toArray, List.set_cons_zero, List.set_cons_succ, vagg]
              refine takeD (i := 1) (v := ?v14) (some 85) rfl (by kernel_rfl) (by kernel_rfl) (by kernel_rfl) (fun _ _ _ h => h) (Or.inl ⟨by rfl, ?hy14⟩) (HSX.out _ HMD.out) (by rfl) ?rest14
              case hy14 => first | (intro w hSw; (try dsimp only at hSw); obtain ⟨s0, s1, s2, s3, s4, s5, s6, s7, s8, s9⟩ := hSw; go_simp; done) | (intro w hSw; (try dsimp only at hSw); obtain ⟨s0, s1, s2, s3, s4, s5, s6, s7, s8, s9⟩ := hSw; go_simp; with_reducible rfl)
              try simp only [Act.put, List.setIfInBounds_toArray, List.set_cons_zero, List.set_cons_succ, vagg]
              refine takeD (i := 2) (v := ?v15) (some 86) rfl (by kernel_rfl) (by kernel_rfl) (by kernel_rfl) (fun _ _ _ h => h) (Or.inl ⟨by rfl, ?hy15⟩) (HSX.out _ HMD.out) (by rfl) ?rest15
              case hy15 => first | (intro w hSw; (try dsimp only at hSw); obtain ⟨s0, s1, s2, s3, s4, s5, s6, s7, s8, s9⟩ := hSw; go_simp; done) | (intro w hSw; (try dsimp only at hSw); obtain ⟨s0, s1, s2, s3, s4, s5, s6, s7, s8, s9⟩ := hSw; go_simp; with_reducible rfl)
              try simp only [Act.put, List.setIfInBounds_toArray, List.set_cons_zero, List.set_cons_succ, vagg]
              refine takeD (i := 3) (v := ?v16) (some 87) rfl (by kernel_rfl) (by kernel_rfl) (by kernel_rfl) (fun _ _ _ h => h) (Or.inl ⟨by rfl, ?hy16⟩) (HSX.out _ HMD.out) (by rfl) ?rest16
              case hy16 => first | (intro w hSw; (try dsimp only at hSw); obtain ⟨s0, s1, s2, s3, s4, s5, s6, s7, s8, s9⟩ := hSw; go_simp; done) | (intro w hSw; (try dsimp only at hSw); obtain ⟨s0, s1, s2, s3, s4, s5, s6, s7, s8, s9⟩ := hSw; go_simp; with_reducible rfl)
              try simp only [Act.put, List.setIfInBounds_toArray, List.set_cons_zero, List.set_cons_succ, vagg]
              refine takeD (i := 4) (v := ?v17) (some 88) rfl (by kernel_rfl) (by kernel_rfl) (by kernel_rfl) (fun _ _ _ h => h) (Or.inl ⟨by rfl, ?hy17⟩) (HSX.out _ HMD.out) (by rfl) ?rest17
              case hy17 => first | (intro w hSw; (try dsimp only at hSw); obtain ⟨s0, s1, s2, s3, s4, s5, s6, s7, s8, s9⟩ := hSw; go_simp; done) | (intro w hSw; (try dsimp only at hSw); obtain ⟨s0, s1, s2, s3, s4, s5, s6, s7, s8, s9⟩ := hSw; go_simp; with_reducible rfl)
              try simp only [Act.put, List.setIfInBounds_toArray, List.set_cons_zero, List.set_cons_succ, vagg]
              refine takeD (i := 5) (v := ?v18) (some 89) rfl (by kernel_rfl) (by kernel_rfl) (by kernel_rfl) (fun _ _ _ h => h) (Or.inl ⟨by rfl, ?hy18⟩) (HSX.out _ HMD.out) (by rfl) ?rest18
              case hy18 => first | (intro w hSw; (try dsimp only at hSw); obtain ⟨s0, s1, s2, s3, s4, s5, s6, s7, s8, s9⟩ := hSw; go_simp; done) | (intro w hSw; (try dsimp only at hSw); obtain ⟨s0, s1, s2, s3, s4, s5, s6, s7, s8, s9⟩ := hSw; go_simp; with_reducible rfl)
              try simp only [Act.put, List.setIfInBounds_toArray, List.set_cons_zero, List.set_cons_succ, vagg]
              refine takeD (i := 6) (v := ?v19) (some 90) rfl (by kernel_rfl) (by kernel_rfl) (by kernel_rfl) (fun _ _ _ h => h) (Or.inl ⟨by rfl, ?hy19⟩) (HSX.out _ HMD.out) (by rfl) ?rest19
              case hy19 => first | (intro w hSw; (try dsimp only at hSw); obtain ⟨s0, s1, s2, s3, s4, s5, s6, s7, s8, s9⟩ := hSw; go_simp; done) | (intro w hSw; (try dsimp only at hSw); obtain ⟨s0, s1, s2, s3, s4, s5, s6, s7, s8, s9⟩ := hSw; go_simp; with_reducible rfl)
              try simp only [Act.put, List.setIfInBounds_toArray, List.set_cons_zero, List.set_cons_succ, vagg]
              refine takeD (i := 7) (v := ?v20) (some 91) rfl (by kernel_rfl) (by kernel_rfl) (by kernel_rfl) (fun _ _ _ h => h) (Or.inl ⟨by rfl, ?hy20⟩) (HSX.out _ HMD.out) (by rfl) ?rest20
              case hy20 => first | (intro w hSw; (try dsimp only at hSw); obtain ⟨s0, s1, s2, s3, s4, s5, s6, s7, s8, s9⟩ := hSw; go_simp; done) | (intro w hSw; (try dsimp only at hSw); obtain ⟨s0, s1, s2, s3, s4, s5, s6, s7, s8, s9⟩ := hSw; go_simp; with_reducible rfl)
              try simp only [Act.put, List.setIfInBounds_toArray, List.set_cons_zero, List.set_cons_succ, vagg]
              refine takeD (i := 8) (v := ?v21) (some 92) rfl (by kernel_rfl) (by kernel_rfl) (by kernel_rfl) (fun _ _ _ h => h) (Or.inl ⟨by rfl, ?hy21⟩) (HSX.out _ HMD.out) (by rfl) ?rest21
              case hy21 => first | (intro w hSw; (try dsimp only at hSw); obtain ⟨s0, s1, s2, s3, s4, s5, s6, s7, s8, s9⟩ := hSw; go_simp; done) | (intro w hSw; (try dsimp only at hSw); obtain ⟨s0, s1, s2, s3, s4, s5, s6, s7, s8, s9⟩ := hSw; go_simp; with_reducible rfl)
              try simp only [Act.put, List.setIfInBounds_toArray, List.set_cons_zero, List.set_cons_succ, vagg]
              refine takeD (i := 9) (v := ?v22) (some 93) rfl (by kernel_rfl) (by kernel_rfl) (by kernel_rfl) (fun _ _ _ h => h) (Or.inl ⟨by rfl, ?hy22⟩) (HSX.out _ HMD.out) (by rfl) ?rest22
              case hy22 => first | (intro w hSw; (try dsimp only at hSw); obtain ⟨s0, s1, s2, s3, s4, s5, s6, s7, s8, s9⟩ := hSw; go_simp; done) | (intro w hSw; (try dsimp only at hSw); obtain ⟨s0, s1, s2, s3, s4, s5, s6, s7, s8, s9⟩ := hSw; go_simp; with_reducible rfl)
              try simp only [Act.put, List.setIfInBounds_toArray, List.set_cons_zero, List.set_cons_succ, vagg]
              refine wpAnyH_ready (rs := [10]) (by kernel_rfl) (by simp) ?_
              refine AllReadyH.cons rfl (fun K hK => ?_) AllReadyH.nil
              go_simp
              refine (HCALL.out w8 HMD.out).mono ?_
              rintro e w4 ⟨rfl, hB4⟩
              have HB4 := hide (HMD.out.trans (hB4.mono HMD.out.size))
              refine hK.out _ _ (HSX.out _ HB4.out) (fun _ => ?_)
              clear hK K hB4
              try simp only [Act.put, List.setIfInBounds_toArray, List.set_cons_zero, List.set_cons_succ, vagg]
              obtain ⟨r, hr⟩ : ∃ r, eqJ Ti Ui = r := ⟨_, rfl⟩
              have HR := hide hr
              rw [hr]
              clear hr
              cases r
              · refine takeD (i := 11) (v := ?v23) (some 95) rfl (by kernel_rfl) (by kernel_rfl) (by kernel_rfl) (fun _ _ _ h => h) (Or.inl ⟨by rfl, ?hy23⟩) (HSX.out _ HB4.out) (by rfl) ?rest23
                case hy23 => first | (intro w hSw; (try dsimp only at hSw); obtain ⟨s0, s1, s2, s3, s4, s5, s6, s7, s8, s9⟩ := hSw; go_simp; done) | (intro w hSw; (try dsimp only at hSw); obtain ⟨s0, s1, s2, s3, s4, s5, s6, s7, s8, s9⟩ := hSw; go_simp; with_reducible rfl)
                try simp only [Act.put, List.setIfInBounds_toArray, List.set_cons_zero, List.set_cons_succ, vagg]
                refine wpAnyH_done (by kernel_rfl) ?_ _
                go_wp2
                go_ret
                refine ⟨?_, HB1.out.trans (HB4.out.mono HB1.out.size)⟩
                have hf : eqJ (.mk 5 s K L) (.mk 5 s' K' L') = false := Bool.eq_false_iff.2 (fun h => by have := ((eqJ_parts (.inl rfl)).1 h).2.2 i Ti Ui HTI.out HUI.out; rw [HR.out] at this; cases this)
                rw [hf]
                rfl
              · refine takeD (i := 11) (v := ?v24) (some 95) rfl (by kernel_rfl) (by kernel_rfl) (by kernel_rfl) (fun _ _ _ h => h) (Or.inl ⟨by rfl, ?hy24⟩) (HSX.out _ HB4.out) (by rfl) ?rest24
                case hy24 => first | (intro w hSw; (try dsimp only at hSw); obtain ⟨s0, s1, s2, s3, s4, s5, s6, s7, s8, s9⟩ := hSw; go_simp; done) | (intro w hSw; (try dsimp only at hSw); obtain ⟨s0, s1, s2, s3, s4, s5, s6, s7, s8, s9⟩ := hSw; go_simp; with_reducible rfl)
                try simp only [Act.put, List.setIfInBounds_toArray, List.set_cons_zero, List.set_cons_succ, vagg]
                refine wpAnyH_done (by kernel_rfl) ?_ _
                go_wp2
                go_roundw
                case rel =>
                  refine ⟨i1, by have := HI.out; omega, by first | rfl | go_num, HB4.out, fun q a b hq ha hb => ?_⟩
                  rcases Nat.lt_or_ge q i with h | h
                  · exact HL.out q a b h ha hb
                  · obtain rfl : q = i := by have := HI.out; omega
                    rw [HTI.out] at ha
                    rw [HUI.out] at hb
                    cases ha
                    cases hb
                    exact HR.out
                case measure => have := HI.out; simp [RowKit.intOf]; omega
            · obtain rfl : i = ln := by omega
              have d5 : ¬ (i : Int) < (i : Int) := by omega
              clear hlt hi
              go_wp2
              go_ret
              refine ⟨?_, HB1.out.trans (HBR.out.mono HB1.out.size)⟩
              rw [(eqJ_parts (.inl rfl)).2 ⟨fun e => absurd e (by omega), by have := HLN.out; have := HLN'.out; omega, fun q a b ha hb => HL.out q a b (by have := (List.getElem?_eq_some_iff.1 ha).1; have := HLN.out; omega) ha hb⟩]
              rfl
    by_cases h6 : k = 6
    · subst h6
      clear h3 h4 h5
      by_cases hL : ln = ln'
      rotate_left
      · obtain ⟨v0, v1, v2, v3, u0, u1, u2, u3⟩ := HV.out _ (Below.refl _ _)
        have d1 : ((ln : Int) != (ln' : Int)) = true := by simp; omega
        have HKK := hide hL
        clear hL
        go_enter Tryz.func9, Tryz.ntmps9
        go_upto_region 1 with fail
        rw [HW1.out]
        clear HW1
        go_wp2
        go_ret
        refine ⟨?_, HB1.out⟩
        have hf : eqJ (.mk 6 s K L) (.mk 6 s' K' L') = false := Bool.eq_false_iff.2 (fun h => by have := ((eqJ_parts (.inr rfl)).1 h).2.1; have := HKK.out; have := HLN.out; have := HLN'.out; omega)
        rw [hf]
        rfl
      subst hL
      by_cases hKn : kn = kn'
      rotate_left
      · obtain ⟨v0, v1, v2, v3, u0, u1, u2, u3⟩ := HV.out _ (Below.refl _ _)
        have d1 : ((kn : Int) != (kn' : Int)) = true := by simp; omega
        have HKK := hide hKn
        clear hKn
        go_enter Tryz.func9, Tryz.ntmps9
        go_upto_region 1 with fail
        rw [HW1.out]
        clear HW1
        go_wp2
        go_ret
        refine ⟨?_, HB1.out⟩
        have hf : eqJ (.mk 6 s K L) (.mk 6 s' K' L') = false := Bool.eq_false_iff.2 (fun h => by have := ((eqJ_parts (.inr rfl)).1 h).1 rfl; have e := congrArg List.length this; have := HKK.out; have := HKN.out; have := HKN'.out; omega)
        rw [hf]
        rfl
      subst hKn
      obtain ⟨v0, v1, v2, v3, u0, u1, u2, u3⟩ := HV.out _ (Below.refl _ _)
      go_enter Tryz.func9, Tryz.ntmps9
      go_upto_region 1 with fail
      rw [HW1.out]
      clear HW1
      go_wp2
      clear v0 v1 v2 v3 u0 u1 u2 u3
      go_loopw [5] (fun iv wr => ∃ j : Nat, j ≤ kn ∧ iv = .int .i64 (j : Int) ∧ Below w1.heap.size w1 wr ∧ ∀ q, q < j → nthS K q = nthS K' q) (fun iv _ => kn - (RowKit.intOf iv).toNat)
      case atStart => exact ⟨0, Nat.zero_le _, rfl, Below.refl _ _, fun q h => by omega⟩
      case round =>
        obtain ⟨j, hj, rfl, hB, hQ⟩ := hrel
        have HQ := hide hQ
        have HB2 := hide hB
        clear hB hQ
        generalize wr = wo at *
        obtain ⟨v0, v1, v2, v3, u0, u1, u2, u3⟩ := HV.out wo HB2.out
        by_cases hlt : j < kn
        · obtain ⟨b, off, rfl, cx⟩ := HKC.out wo HB2.out j hlt
          obtain ⟨b', off', rfl, cy⟩ := HKC'.out wo HB2.out j hlt
          obtain ⟨j1, hj1⟩ : ∃ j1, j + 1 = j1 := ⟨_, rfl⟩
          have e2 : (j : Int) + 1 = (j1 : Int) := by omega
          have g1 : (j1 : Int) ≤ 1000000000 := by have := HH.out; omega
          have d5 : (j : Int) < (kn : Int) := by omega
          have d0 : (0 : Int) ≤ (j : Int) := by omega
          have HI := hide (And.intro hlt hj1)
          obtain ⟨t, ht⟩ : ∃ t, nthS K j = t := ⟨_, rfl⟩
          obtain ⟨u, hu⟩ : ∃ u, nthS K' j = u := ⟨_, rfl⟩
          rw [ht] at cx
          rw [hu] at cy
          have HTJ := hide ht
          have HUJ := hide hu
          clear hlt hj1 hj ht hu
          by_cases htu : t = u
          · subst htu
            go_wp2
            go_quiet (fail)
            go_wp2
            go_roundw
            case rel =>
              refine ⟨j1, by have := HI.out; omega, by first | rfl | go_num, below_drewN HB2.out _, fun q hq => ?_⟩
              rcases Nat.lt_or_ge q j with h | h
              · exact HQ.out q h
              · obtain rfl : q = j := by have := HI.out; omega
                rw [HTJ.out, HUJ.out]
            case measure => have := HI.out; simp [RowKit.intOf]; omega
          · have dne : (t.toList == u.toList) = false := str_ne htu
            have dne2 : (t.toList != u.toList) = true := by rw [bne, dne]; rfl
            have HKK := hide htu
            clear htu
            go_wp2
            go_quiet (fail)
            go_wp2
            go_ret
            refine ⟨?_, below_drewN (HB1.out.trans (HB2.out.mono HB1.out.size)) _⟩
            have hf : eqJ (.mk 6 s K L) (.mk 6 s' K' L') = false := Bool.eq_false_iff.2 (fun h => by have e := ((eqJ_parts (.inr rfl)).1 h).1 rfl; rw [e] at HTJ; exact HKK.out (HTJ.out.symm.trans HUJ.out))
            rw [hf]
            rfl
        · obtain rfl : j = kn := by omega
          have d5 : ¬ (j : Int) < (j : Int) := by omega
          have HQK : Hid (K = K') := keys_same (by have := HKN.out; have := HKN'.out; omega) (fun q hq => HQ.out q (by have := HKN.out; omega))
          clear hlt hj
          go_wp2
          clear v0 v1 v2 v3 u0 u1 u2 u3
          go_loopw [6] (fun iv wr => ∃ i : Nat, i ≤ ln ∧ iv = .int .i64 (i : Int) ∧ Below w1.heap.size w1 wr ∧ ∀ (q : Nat) (a b : JT), q < i → L[q]? = some a → L'[q]? = some b → eqJ a b = true) (fun iv _ => ln - (RowKit.intOf iv).toNat)
          case atStart => exact ⟨0, Nat.zero_le _, rfl, HB2.out, fun q _ _ h => by omega⟩
          case round =>
            obtain ⟨i, hi, rfl, hB, hL⟩ := hrel
            have HL := hide hL
            have HBR := hide hB
            clear hL hB HB2
            generalize wr = wo at *
            obtain ⟨v0, v1, v2, v3, u0, u1, u2, u3⟩ := HV.out wo HBR.out
            by_cases hlt : i < ln
            · obtain ⟨b, off, rfl, _⟩ := HLC.out w1 (Below.refl _ _) i hlt
              obtain ⟨b', off', rfl, _⟩ := HLC'.out w1 (Below.refl _ _) i hlt
              obtain ⟨hs2, hs3⟩ := HSL.out i hlt
              obtain ⟨hs4, hs5⟩ := HSL'.out i hlt
              obtain ⟨Ti, hTi⟩ : ∃ Ti, L[i]? = some Ti := ⟨L[i]'(by have := HLN.out; omega), List.getElem?_eq_getElem _⟩
              obtain ⟨Ui, hUi⟩ : ∃ Ui, L'[i]? = some Ui := ⟨L'[i]'(by have := HLN'.out; omega), List.getElem?_eq_getElem _⟩
              have hcall : ∀ w2, Below w1.heap.size w1 w2 → Calls Tryz.prog 9 #[vagg (xs i), vagg (ys i)] w2 (REqR w2 Ti Ui) := fun w2 h2 => by
                obtain ⟨h, rfl⟩ := List.getElem?_eq_some_iff.1 hTi
                obtain ⟨h', rfl⟩ := List.getElem?_eq_some_iff.1 hUi
                exact HIH.out i h h' w2 h2
              have hp : ∀ w2, Below w1.heap.size w1 w2 → ∀ r, r < 4 → w2.cell? ⟨b, off + (i * 4 + r), none⟩ = (vcell (xs i))[r]? := fun w2 h2 => by
                obtain ⟨_, _, e, h⟩ := HLC.out w2 h2 i hlt
                cases e
                exact h
              have hp' : ∀ w2, Below w1.heap.size w1 w2 → ∀ r, r < 4 → w2.cell? ⟨b', off' + (i * 4 + r), none⟩ = (vcell (ys i))[r]? := fun w2 h2 => by
                obtain ⟨_, _, e, h⟩ := HLC'.out w2 h2 i hlt
                cases e
                exact h
              generalize xs i = y at *
              obtain ⟨yk, ys', yK, yL⟩ := y
              generalize ys i = z at *
              obtain ⟨zk, zs, zK, zL⟩ := z
              simp only [vagg, vcell] at hcall hp hp' hs2 hs3 hs4 hs5
              obtain ⟨pa, pn, pc, rfl⟩ := hs2
              obtain ⟨qa, qn, qc, rfl⟩ := hs3
              obtain ⟨pa', pn', pc', rfl⟩ := hs4
              obtain ⟨qa', qn', qc', rfl⟩ := hs5
              have HSX : Hid (∀ X0 : World, Below w1.heap.size w1 X0 → (X0.cell? ⟨w.heap.size, 3, none⟩ = some (.slice (some ⟨b, off, none⟩) ln lc) ∧ X0.cell? ⟨w.heap.size + 1, 3, none⟩ = some (.slice (some ⟨b', off', none⟩) ln lc') ∧ X0.cell? ⟨b, off + i * 4, none⟩ = some (.int .i64 yk) ∧ X0.cell? ⟨b, off + i * 4 + 1, none⟩ = some (.string ys') ∧ X0.cell? ⟨b, off + i * 4 + 2, none⟩ = some (.slice pa pn pc) ∧ X0.cell? ⟨b, off + i * 4 + 3, none⟩ = some (.slice qa qn qc) ∧ X0.cell? ⟨b', off' + i * 4, none⟩ = some (.int .i64 zk) ∧ X0.cell? ⟨b', off' + i * 4 + 1, none⟩ = some (.string zs) ∧ X0.cell? ⟨b', off' + i * 4 + 2, none⟩ = some (.slice pa' pn' pc') ∧ X0.cell? ⟨b', off' + i * 4 + 3, none⟩ = some (.slice qa' qn' qc'))) := fun X0 h2 => by
                have x0 := hp X0 h2 0 (by omega)
                have x1 := hp X0 h2 1 (by omega)
                have x2 := hp X0 h2 2 (by omega)
                have x3 := hp X0 h2 3 (by omega)
                have y0 := hp' X0 h2 0 (by omega)
                have y1 := hp' X0 h2 1 (by omega)
                have y2 := hp' X0 h2 2 (by omega)
                have y3 := hp' X0 h2 3 (by omega)
                simp only [List.getElem?_cons_zero, List.getElem?_cons_succ, ← Nat.add_assoc, Nat.add_zero] at x0 x1 x2 x3 y0 y1 y2 y3
                obtain ⟨_, _, _, t3, _, _, _, t7⟩ := HV.out X0 h2
                exact ⟨t3, t7, x0, x1, x2, x3, y0, y1, y2, y3⟩
              have HCALL := hide hcall
              have HTI := hide hTi
              have HUI := hide hUi
              obtain ⟨i1, hi1⟩ : ∃ i1, i + 1 = i1 := ⟨_, rfl⟩
              have e1 : (i : Int) + 1 = (i1 : Int) := by omega
              have g1 : (i1 : Int) ≤ 1000000000 := by have := HH.out; omega
              have d1 : (i : Int) < (ln : Int) := by omega
              have d0 : (0 : Int) ≤ (i : Int) := by omega
              have HI := hide (And.intro hlt hi1)
              clear hcall hTi hUi hi1 hlt hi hp hp'
              go_upto_region 17 with fail
              refine wp_region_held_drew (S := fun X0 : World => X0.cell? ⟨w.heap.size, 3, none⟩ = some (.slice (some ⟨b, off, none⟩) ln lc) ∧ X0.cell? ⟨w.heap.size + 1, 3, none⟩ = some (.slice (some ⟨b', off', none⟩) ln lc') ∧ X0.cell? ⟨b, off + i * 4, none⟩ = some (.int .i64 yk) ∧ X0.cell? ⟨b, off + i * 4 + 1, none⟩ = some (.string ys') ∧ X0.cell? ⟨b, off + i * 4 + 2, none⟩ = some (.slice pa pn pc) ∧ X0.cell? ⟨b, off + i * 4 + 3, none⟩ = some (.slice qa qn qc) ∧ X0.cell? ⟨b', off' + i * 4, none⟩ = some (.int .i64 zk) ∧ X0.cell? ⟨b', off' + i * 4 + 1, none⟩ = some (.string zs) ∧ X0.cell? ⟨b', off' + i * 4 + 2, none⟩ = some (.slice pa' pn' pc') ∧ X0.cell? ⟨b', off' + i * 4 + 3, none⟩ = some (.slice qa' qn' qc')) (by kernel_rfl) (HSX.out _ HBR.out.drew) (fun hHeld => ?_)
              have HMD : Hid (Below w1.heap.size w1 wo.drew) := HBR.out.drew
              clear v0 v1 v2 v3 u0 u1 u2 u3
              generalize wo.drew = w8 at *
              refine takeD (i := 0) (v := ?v25) (some 84) rfl (by kernel_rfl) (by kernel_rfl) (by kernel_rfl) (fun _ _ _ h => h) (Or.inl ⟨by rfl, ?hy25⟩) (HSX.out _ HMD.out) (by rfl) ?rest25
              case hy25 => first | (intro w hSw; (try dsimp only at hSw); obtain ⟨s0, s1, s2, s3, s4, s5, s6, s7, s8, s9⟩ := hSw; go_simp; done) | (intro w hSw; (try dsimp only at hSw); obtain ⟨s0, s1, s2, s3, s4, s5, s6, s7, s8, s9⟩ := hSw; go_simp; with_reducible rfl)
              try simp only [Act.put, List.setIfInBounds_toArray, List.set_cons_zero, List.set_cons_succ, vagg]
              refine takeD (i := 1) (v := ?v26) (some 85) rfl (by kernel_rfl) (by kernel_rfl) (by kernel_rfl) (fun _ _ _ h => h) (Or.inl ⟨by rfl, ?hy26⟩) (HSX.out _ HMD.out) (by rfl) ?rest26
              case hy26 => first | (intro w hSw; (try dsimp only at hSw); obtain ⟨s0, s1, s2, s3, s4, s5, s6, s7, s8, s9⟩ := hSw; go_simp; done) | (intro w hSw; (try dsimp only at hSw); obtain ⟨s0, s1, s2, s3, s4, s5, s6, s7, s8, s9⟩ := hSw; go_simp; with_reducible rfl)
              try simp only [Act.put, List.setIfInBounds_toArray, List.set_cons_zero, List.set_cons_succ, vagg]
              refine takeD (i := 2) (v := ?v27) (some 86) rfl (by kernel_rfl) (by kernel_rfl) (by kernel_rfl) (fun _ _ _ h => h) (Or.inl ⟨by rfl, ?hy27⟩) (HSX.out _ HMD.out) (by rfl) ?rest27
              case hy27 => first | (intro w hSw; (try dsimp only at hSw); obtain ⟨s0, s1, s2, s3, s4, s5, s6, s7, s8, s9⟩ := hSw; go_simp; done) | (intro w hSw; (try dsimp only at hSw); obtain ⟨s0, s1, s2, s3, s4, s5, s6, s7, s8, s9⟩ := hSw; go_simp; with_reducible rfl)
              try simp only [Act.put, List.setIfInBounds_toArray, List.set_cons_zero, List.set_cons_succ, vagg]
              refine takeD (i := 3) (v := ?v28) (some 87) rfl (by kernel_rfl) (by kernel_rfl) (by kernel_rfl) (fun _ _ _ h => h) (Or.inl ⟨by rfl, ?hy28⟩) (HSX.out _ HMD.out) (by rfl) ?rest28
              case hy28 => first | (intro w hSw; (try dsimp only at hSw); obtain ⟨s0, s1, s2, s3, s4, s5, s6, s7, s8, s9⟩ := hSw; go_simp; done) | (intro w hSw; (try dsimp only at hSw); obtain ⟨s0, s1, s2, s3, s4, s5, s6, s7, s8, s9⟩ := hSw; go_simp; with_reducible rfl)
              try simp only [Act.put, List.setIfInBounds_toArray, List.set_cons_zero, List.set_cons_succ, vagg]
              refine takeD (i := 4) (v := ?v29) (some 88) rfl (by kernel_rfl) (by kernel_rfl) (by kernel_rfl) (fun _ _ _ h => h) (Or.inl ⟨by rfl, ?hy29⟩) (HSX.out _ HMD.out) (by rfl) ?rest29
              case hy29 => first | (intro w hSw; (try dsimp only at hSw); obtain ⟨s0, s1, s2, s3, s4, s5, s6, s7, s8, s9⟩ := hSw; go_simp; done) | (intro w hSw; (try dsimp only at hSw); obtain ⟨s0, s1, s2, s3, s4, s5, s6, s7, s8, s9⟩ := hSw; go_simp; with_reducible rfl)
              try simp only [Act.put, List.setIfInBounds_toArray, List.set_cons_zero, List.set_cons_succ, vagg]
              refine takeD (i := 5) (v := ?v30) (some 89) rfl (by kernel_rfl) (by kernel_rfl) (by kernel_rfl) (fun _ _ _ h => h) (Or.inl ⟨by rfl, ?hy30⟩) (HSX.out _ HMD.out) (by rfl) ?rest30
              case hy30 => first | (intro w hSw; (try dsimp only at hSw); obtain ⟨s0, s1, s2, s3, s4, s5, s6, s7, s8, s9⟩ := hSw; go_simp; done) | (intro w hSw; (try dsimp only at hSw); obtain ⟨s0, s1, s2, s3, s4, s5, s6, s7, s8, s9⟩ := hSw; go_simp; with_reducible rfl)
              try simp only [Act.put, List.setIfInBounds_toArray, List.set_cons_zero, List.set_cons_succ, vagg]
              refine takeD (i := 6) (v := ?v31) (some 90) rfl (by kernel_rfl) (by kernel_rfl) (by kernel_rfl) (fun _ _ _ h => h) (Or.inl ⟨by rfl, ?hy31⟩) (HSX.out _ HMD.out) (by rfl) ?rest31
              case hy31 => first | (intro w hSw; (try dsimp only at hSw); obtain ⟨s0, s1, s2, s3, s4, s5, s6, s7, s8, s9⟩ := hSw; go_simp; done) | (intro w hSw; (try dsimp only at hSw); obtain ⟨s0, s1, s2, s3, s4, s5, s6, s7, s8, s9⟩ := hSw; go_simp; with_reducible rfl)
              try simp only [Act.put, List.setIfInBounds_toArray, List.set_cons_zero, List.set_cons_succ, vagg]
              refine takeD (i := 7) (v := ?v32) (some 91) rfl (by kernel_rfl) (by kernel_rfl) (by kernel_rfl) (fun _ _ _ h => h) (Or.inl ⟨by rfl, ?hy32⟩) (HSX.out _ HMD.out) (by rfl) ?rest32
              case hy32 => first | (intro w hSw; (try dsimp only at hSw); obtain ⟨s0, s1, s2, s3, s4, s5, s6, s7, s8, s9⟩ := hSw; go_simp; done) | (intro w hSw; (try dsimp only at hSw); obtain ⟨s0, s1, s2, s3, s4, s5, s6, s7, s8, s9⟩ := hSw; go_simp; with_reducible rfl)
              try simp only [Act.put, List.setIfInBounds_toArray, List.set_cons_zero, List.set_cons_succ, vagg]
              refine takeD (i := 8) (v := ?v33) (some 92) rfl (by kernel_rfl) (by kernel_rfl) (by kernel_rfl) (fun _ _ _ h => h) (Or.inl ⟨by rfl, ?hy33⟩) (HSX.out _ HMD.out) (by rfl) ?rest33
              case hy33 => first | (intro w hSw; (try dsimp only at hSw); obtain ⟨s0, s1, s2, s3, s4, s5, s6, s7, s8, s9⟩ := hSw; go_simp; done) | (intro w hSw; (try dsimp only at hSw); obtain ⟨s0, s1, s2, s3, s4, s5, s6, s7, s8, s9⟩ := hSw; go_simp; with_reducible rfl)
              try simp only [Act.put, List.setIfInBounds_toArray, List.set_cons_zero, List.set_cons_succ, vagg]
              refine takeD (i := 9) (v := ?v34) (some 93) rfl (by kernel_rfl) (by kernel_rfl) (by kernel_rfl) (fun _ _ _ h => h) (Or.inl ⟨by rfl, ?hy34⟩) (HSX.out _ HMD.out) (by rfl) ?rest34
              case hy34 => first | (intro w hSw; (try dsimp only at hSw); obtain ⟨s0, s1, s2, s3, s4, s5, s6, s7, s8, s9⟩ := hSw; go_simp; done) | (intro w hSw; (try dsimp only at hSw); obtain ⟨s0, s1, s2, s3, s4, s5, s6, s7, s8, s9⟩ := hSw; go_simp; with_reducible rfl)
              try simp only [Act.put, List.setIfInBounds_toArray, List.set_cons_zero, List.set_cons_succ, vagg]
              refine wpAnyH_ready (rs := [10]) (by kernel_rfl) (by simp) ?_
              refine AllReadyH.cons rfl (fun K hK => ?_) AllReadyH.nil
              go_simp
              refine (HCALL.out w8 HMD.out).mono ?_
              rintro e w4 ⟨rfl, hB4⟩
              have HB4 := hide (HMD.out.trans (hB4.mono HMD.out.size))
              refine hK.out _ _ (HSX.out _ HB4.out) (fun _ => ?_)
              clear hK K hB4
              try simp only [Act.put, List.setIfInBounds_toArray, List.set_cons_zero, List.set_cons_succ, vagg]
              obtain ⟨r, hr⟩ : ∃ r, eqJ Ti Ui = r := ⟨_, rfl⟩
              have HR := hide hr
              rw [hr]
              clear hr
              cases r
              · refine takeD (i := 11) (v := ?v35) (some 95) rfl (by kernel_rfl) (by kernel_rfl) (by kernel_rfl) (fun _ _ _ h => h) (Or.inl ⟨by rfl, ?hy35⟩) (HSX.out _ HB4.out) (by rfl) ?rest35
                case hy35 => first | (intro w hSw; (try dsimp only at hSw); obtain ⟨s0, s1, s2, s3, s4, s5, s6, s7, s8, s9⟩ := hSw; go_simp; done) | (intro w hSw; (try dsimp only at hSw); obtain ⟨s0, s1, s2, s3, s4, s5, s6, s7, s8, s9⟩ := hSw; go_simp; with_reducible rfl)
                try simp only [Act.put, List.setIfInBounds_toArray, List.set_cons_zero, List.set_cons_succ, vagg]
                refine wpAnyH_done (by kernel_rfl) ?_ _
                go_wp2
                go_ret
                refine ⟨?_, HB1.out.trans (HB4.out.mono HB1.out.size)⟩
                have hf : eqJ (.mk 6 s K L) (.mk 6 s' K' L') = false := Bool.eq_false_iff.2 (fun h => by have := ((eqJ_parts (.inr rfl)).1 h).2.2 i Ti Ui HTI.out HUI.out; rw [HR.out] at this; cases this)
                rw [hf]
                rfl
              · refine takeD (i := 11) (v := ?v36) (some 95) rfl (by kernel_rfl) (by kernel_rfl) (by kernel_rfl) (fun _ _ _ h => h) (Or.inl ⟨by rfl, ?hy36⟩) (HSX.out _ HB4.out) (by rfl) ?rest36
                case hy36 => first | (intro w hSw; (try dsimp only at hSw); obtain ⟨s0, s1, s2, s3, s4, s5, s6, s7, s8, s9⟩ := hSw; go_simp; done) | (intro w hSw; (try dsimp only at hSw); obtain ⟨s0, s1, s2, s3, s4, s5, s6, s7, s8, s9⟩ := hSw; go_simp; with_reducible rfl)
                try simp only [Act.put, List.setIfInBounds_toArray, List.set_cons_zero, List.set_cons_succ, vagg]
                refine wpAnyH_done (by kernel_rfl) ?_ _
                go_wp2
                go_roundw
                case rel =>
                  refine ⟨i1, by have := HI.out; omega, by first | rfl | go_num, HB4.out, fun q a b hq ha hb => ?_⟩
                  rcases Nat.lt_or_ge q i with h | h
                  · exact HL.out q a b h ha hb
                  · obtain rfl : q = i := by have := HI.out; omega
                    rw [HTI.out] at ha
                    rw [HUI.out] at hb
                    cases ha
                    cases hb
                    exact HR.out
                case measure => have := HI.out; simp [RowKit.intOf]; omega
            · obtain rfl : i = ln := by omega
              have d5 : ¬ (i : Int) < (i : Int) := by omega
              clear hlt hi
              go_wp2
              go_ret
              refine ⟨?_, HB1.out.trans (HBR.out.mono HB1.out.size)⟩
              rw [(eqJ_parts (.inr rfl)).2 ⟨fun _ => HQK.out, by have := HLN.out; have := HLN'.out; omega, fun q a b ha hb => HL.out q a b (by have := (List.getElem?_eq_some_iff.1 ha).1; have := HLN.out; omega) ha hb⟩]
              rfl
    obtain ⟨v0, v1, v2, v3, u0, u1, u2, u3⟩ := HV.out _ (Below.refl _ _)
    have d3 : (k == 3) = false := by simpa using h3
    have d4 : (k == 4) = false := by simpa using h4
    have d5 : (k != 5) = true := by simpa using h5
    have d6 : (k != 6) = true := by simpa using h6
    have HKK := hide (And.intro h3 (And.intro h4 (And.intro h5 h6)))
    go_enter Tryz.func9, Tryz.ntmps9
    go_upto_region 1 with fail
    rw [HW1.out]
    clear HW1
    go_wp2
    go_ret
    refine ⟨?_, HB1.out⟩
    rw [eqJ_plain HKK.out.1 HKK.out.2.1 HKK.out.2.2.1 HKK.out.2.2.2]
    rfl

end Go.Proofs.YtbdpmpepmjpadaaGreatDoor

namespace Go.Proofs.YtbdpmpepmjpadaaGreatDoor
set_option linter.unusedVariables false
set_option linter.unusedSimpArgs false
set_option maxRecDepth 100000
open Go Go.RowKit Go.Shelf Go.Lib

def SeqR (w : World) (K K' : List ByteArray) (e : Ending) (w' : World) : Prop := e = .returned (.bool (decide (K = K'))) ∧ Below w.heap.size w w'
set_option maxHeartbeats 8000000 in
theorem seq_any {W : World} {S S' : Nat → Prop} {u v : Value} {K K' : List ByteArray} (h : StrsS W S u K) (h' : StrsS W S' v K') (hl : K.length ≤ 1000000) (w : World) (hW : Below W.heap.size W w) : Calls Tryz.prog 78 #[u, v] w (SeqR w K K') := by
  obtain ⟨ka, kc, rfl, hKc⟩ := h
  obtain ⟨ka', kc', rfl, hKc'⟩ := h'
  obtain ⟨kn, hkn⟩ : ∃ kn, K.length = kn := ⟨_, rfl⟩
  obtain ⟨kn', hkn'⟩ : ∃ kn, K'.length = kn := ⟨_, rfl⟩
  have HKC : Hid (∀ w2, Below w.heap.size w w2 → ∀ j, j < kn → ∃ b off, ka = some ⟨b, off, none⟩ ∧ w2.cell? ⟨b, off + j, none⟩ = some (.string (nthS K j))) := fun w2 h2 j hj => by
    obtain ⟨b, off, e, _, hx⟩ := hKc j (by omega)
    exact ⟨b, off, e, ((hW.trans (h2.mono hW.size)).cell (p := ⟨b, off + j, none⟩) (block_lt hx)).trans hx⟩
  have HKC' : Hid (∀ w2, Below w.heap.size w w2 → ∀ j, j < kn' → ∃ b off, ka' = some ⟨b, off, none⟩ ∧ w2.cell? ⟨b, off + j, none⟩ = some (.string (nthS K' j))) := fun w2 h2 j hj => by
    obtain ⟨b, off, e, _, hx⟩ := hKc' j (by omega)
    exact ⟨b, off, e, ((hW.trans (h2.mono hW.size)).cell (p := ⟨b, off + j, none⟩) (block_lt hx)).trans hx⟩
  have HKN := hide hkn
  have HKN' := hide hkn'
  have HH : Hid (kn ≤ 1000000) := by show kn ≤ 1000000; omega
  rw [hkn, hkn']
  clear hKc hKc' hW hkn hkn' hl
  by_cases hK : kn = kn'
  rotate_left
  · have d1 : ((kn : Int) != (kn' : Int)) = true := by simp; omega
    have HKK := hide hK
    clear hK
    go_enter Tryz.func78, Tryz.ntmps78
    go_wp2
    go_ret
    refine ⟨?_, Below.refl _ _⟩
    rw [decide_eq_false (fun e => by have e := congrArg List.length e; have := HKK.out; have := HKN.out; have := HKN'.out; omega)]
    rfl
  subst hK
  go_enter Tryz.func78, Tryz.ntmps78
  go_wp2
  go_loopw [13] (fun iv wr => ∃ j : Nat, j ≤ kn ∧ iv = .int .i64 (j : Int) ∧ Below w.heap.size w wr ∧ ∀ q, q < j → nthS K q = nthS K' q) (fun iv _ => kn - (RowKit.intOf iv).toNat)
  case atStart => exact ⟨0, Nat.zero_le _, rfl, Below.refl _ _, fun q h => by omega⟩
  case round =>
    obtain ⟨j, hj, rfl, hB, hQ⟩ := hrel
    have HQ := hide hQ
    have HB2 := hide hB
    clear hB hQ
    generalize wr = wo at *
    by_cases hlt : j < kn
    · obtain ⟨b, off, rfl, cx⟩ := HKC.out wo HB2.out j hlt
      obtain ⟨b', off', rfl, cy⟩ := HKC'.out wo HB2.out j hlt
      obtain ⟨j1, hj1⟩ : ∃ j1, j + 1 = j1 := ⟨_, rfl⟩
      have e2 : (j : Int) + 1 = (j1 : Int) := by omega
      have g1 : (j1 : Int) ≤ 1000000000 := by have := HH.out; omega
      have d5 : (j : Int) < (kn : Int) := by omega
      have d0 : (0 : Int) ≤ (j : Int) := by omega
      have HI := hide (And.intro hlt hj1)
      obtain ⟨t, ht⟩ : ∃ t, nthS K j = t := ⟨_, rfl⟩
      obtain ⟨u, hu⟩ : ∃ u, nthS K' j = u := ⟨_, rfl⟩
      rw [ht] at cx
      rw [hu] at cy
      have HTJ := hide ht
      have HUJ := hide hu
      clear hlt hj1 hj ht hu
      by_cases htu : t = u
      · subst htu
        go_wp2
        go_quiet (fail)
        go_wp2
        go_roundw
        case rel =>
          refine ⟨j1, by have := HI.out; omega, by first | rfl | go_num, below_drewN HB2.out _, fun q hq => ?_⟩
          rcases Nat.lt_or_ge q j with h | h
          · exact HQ.out q h
          · obtain rfl : q = j := by have := HI.out; omega
            rw [HTJ.out, HUJ.out]
        case measure => have := HI.out; simp [RowKit.intOf]; omega
      · have dne : (t.toList == u.toList) = false := str_ne htu
        have dne2 : (t.toList != u.toList) = true := by rw [bne, dne]; rfl
        have HKK := hide htu
        clear htu
        go_wp2
        go_quiet (fail)
        go_wp2
        go_ret
        refine ⟨?_, below_drewN HB2.out _⟩
        rw [decide_eq_false (fun e => by rw [e] at HTJ; exact HKK.out (HTJ.out.symm.trans HUJ.out))]
        rfl
    · obtain rfl : j = kn := by omega
      have d5 : ¬ (j : Int) < (j : Int) := by omega
      have HQK : Hid (K = K') := keys_same (by have := HKN.out; have := HKN'.out; omega) (fun q hq => HQ.out q (by have := HKN.out; omega))
      clear hlt hj
      go_wp2
      go_ret
      refine ⟨?_, HB2.out⟩
      rw [decide_eq_true HQK.out]
      rfl

end Go.Proofs.YtbdpmpepmjpadaaGreatDoor

namespace Go.Proofs.YtbdpmpepmjpadaaGreatDoor
set_option linter.unusedVariables false
set_option linter.unusedSimpArgs false
set_option maxRecDepth 100000
open Go Go.RowKit Go.Shelf Go.Lib

def nilV : Value := .slice none 0 0
/-- A value without what its kind does not name. -/
def plainJ (x : JC) : JC :=
  if x.1 = 3 ∨ x.1 = 4 then (x.1, x.2.1, nilV, nilV)
  else if x.1 = 5 then (x.1, ⟨#[]⟩, nilV, x.2.2.2)
  else if x.1 = 6 then (x.1, ⟨#[]⟩, x.2.2.1, x.2.2.2)
  else (x.1, ⟨#[]⟩, nilV, nilV)
def PlainR (x : JC) (w : World) (e : Ending) (w' : World) : Prop := e = .returned (vagg (plainJ x)) ∧ Below w.heap.size w w'

set_option maxHeartbeats 8000000 in
theorem plain_any (w : World) (k : Int) (s : ByteArray) (ka la : Option Addr) (kn kc ln lc : Nat) : Calls Tryz.prog 72 #[vagg (k, s, .slice ka kn kc, .slice la ln lc)] w (PlainR (k, s, .slice ka kn kc, .slice la ln lc) w) := by
  by_cases h3 : k = 3
  · subst h3
    have HP : Hid (plainJ (3, s, .slice ka kn kc, .slice la ln lc) = (3, s, nilV, nilV)) := by show _ = _; simp [plainJ]
    unfold vagg
    simp only
    go_enter Tryz.func72, Tryz.ntmps72
    go_wp2
    have hx := BoxC.new (w.alloc (.cells #[.int .i64 3, .string s, .slice ka kn kc, .slice la ln lc] 27)) 27 #[.int .i64 3, .string s, .slice none 0 0, .slice none 0 0]
    rw [World.size_alloc] at hx
    refine bodyPost_ret (results_jv rfl rfl hx) rfl ?_
    refine ⟨?_, (bel w _).alloc (by simp) _⟩
    rw [HP.out]
    rfl
  by_cases h4 : k = 4
  · subst h4
    have HP : Hid (plainJ (4, s, .slice ka kn kc, .slice la ln lc) = (4, s, nilV, nilV)) := by show _ = _; simp [plainJ]
    unfold vagg
    simp only
    go_enter Tryz.func72, Tryz.ntmps72
    go_wp2
    have hx := BoxC.new (w.alloc (.cells #[.int .i64 4, .string s, .slice ka kn kc, .slice la ln lc] 27)) 27 #[.int .i64 4, .string s, .slice none 0 0, .slice none 0 0]
    rw [World.size_alloc] at hx
    refine bodyPost_ret (results_jv rfl rfl hx) rfl ?_
    refine ⟨?_, (bel w _).alloc (by simp) _⟩
    rw [HP.out]
    rfl
  by_cases h5 : k = 5
  · subst h5
    have HP : Hid (plainJ (5, s, .slice ka kn kc, .slice la ln lc) = (5, ⟨#[]⟩, nilV, .slice la ln lc)) := by show _ = _; simp [plainJ]
    unfold vagg
    simp only
    go_enter Tryz.func72, Tryz.ntmps72
    go_wp2
    have hx := BoxC.new (w.alloc (.cells #[.int .i64 5, .string s, .slice ka kn kc, .slice la ln lc] 27)) 27 #[.int .i64 5, .string ⟨#[]⟩, .slice none 0 0, .slice la ln lc]
    rw [World.size_alloc] at hx
    refine bodyPost_ret (results_jv rfl rfl hx) rfl ?_
    refine ⟨?_, (bel w _).alloc (by simp) _⟩
    rw [HP.out]
    rfl
  by_cases h6 : k = 6
  · subst h6
    have HP : Hid (plainJ (6, s, .slice ka kn kc, .slice la ln lc) = (6, ⟨#[]⟩, .slice ka kn kc, .slice la ln lc)) := by show _ = _; simp [plainJ]
    unfold vagg
    simp only
    go_enter Tryz.func72, Tryz.ntmps72
    go_wp2
    have hx := BoxC.new (w.alloc (.cells #[.int .i64 6, .string s, .slice ka kn kc, .slice la ln lc] 27)) 27 #[.int .i64 6, .string ⟨#[]⟩, .slice ka kn kc, .slice la ln lc]
    rw [World.size_alloc] at hx
    refine bodyPost_ret (results_jv rfl rfl hx) rfl ?_
    refine ⟨?_, (bel w _).alloc (by simp) _⟩
    rw [HP.out]
    rfl
  have d3 : (k == 3) = false := by simpa using h3
  have d4 : (k == 4) = false := by simpa using h4
  have d5 : (k == 5) = false := by simpa using h5
  have d6 : (k == 6) = false := by simpa using h6
  have HP : Hid (plainJ (k, s, .slice ka kn kc, .slice la ln lc) = (k, ⟨#[]⟩, nilV, nilV)) := by show _ = _; simp [plainJ, h3, h4, h5, h6]
  unfold vagg
  simp only
  go_enter Tryz.func72, Tryz.ntmps72
  go_wp2
  have hx := BoxC.new (w.alloc (.cells #[.int .i64 k, .string s, .slice ka kn kc, .slice la ln lc] 27)) 27 #[.int .i64 k, .string ⟨#[]⟩, .slice none 0 0, .slice none 0 0]
  rw [World.size_alloc] at hx
  refine bodyPost_ret (results_jv rfl rfl hx) rfl ?_
  refine ⟨?_, (bel w _).alloc (by simp) _⟩
  rw [HP.out]
  rfl

end Go.Proofs.YtbdpmpepmjpadaaGreatDoor

namespace Go.Proofs.YtbdpmpepmjpadaaGreatDoor
set_option linter.unusedVariables false
set_option linter.unusedSimpArgs false
set_option maxRecDepth 100000
open Go Go.RowKit Go.Shelf Go.Lib

def sP (k : Int) (s : ByteArray) : ByteArray := if k = 3 ∨ k = 4 then s else ⟨#[]⟩
def kP (k : Int) (K : List ByteArray) : List ByteArray := if k = 6 then K else []
def lP (k : Int) (L : List JT) : List JT := if k = 5 ∨ k = 6 then L else []

theorem strs_nil {W : World} {S : Nat → Prop} : StrsS W S (.slice none 0 0) [] := ⟨none, 0, rfl, fun j hj => absurd hj (by simp)⟩
theorem plain_parts {W : World} {S : Nat → Prop} (k : Int) (s : ByteArray) {K : List ByteArray} {L : List JT} {ka la : Option Addr} {kc lc : Nat} (hK : StrsS W S (.slice ka K.length kc) K) :
    ∃ a1 c1 a2 c2, plainJ (k, s, .slice ka K.length kc, .slice la L.length lc) = (k, sP k s, .slice a1 (kP k K).length c1, .slice a2 (lP k L).length c2) ∧ StrsS W S (.slice a1 (kP k K).length c1) (kP k K) ∧ ∀ i, i < (lP k L).length → i < L.length ∧ lP k L = L ∧ a2 = la := by
  by_cases h3 : k = 3
  · subst h3
    exact ⟨none, 0, none, 0, by simp [plainJ, sP, kP, lP, nilV], strs_nil, fun i hi => by simp [lP] at hi⟩
  by_cases h4 : k = 4
  · subst h4
    exact ⟨none, 0, none, 0, by simp [plainJ, sP, kP, lP, nilV], strs_nil, fun i hi => by simp [lP] at hi⟩
  by_cases h5 : k = 5
  · subst h5
    exact ⟨none, 0, la, lc, by simp [plainJ, sP, kP, lP, nilV], strs_nil, fun i hi => ⟨by simpa [lP] using hi, by simp [lP], rfl⟩⟩
  by_cases h6 : k = 6
  · subst h6
    exact ⟨ka, kc, la, lc, by simp [plainJ, sP, kP, lP, nilV], by simpa [kP] using hK, fun i hi => ⟨by simpa [lP] using hi, by simp [lP], rfl⟩⟩
  · exact ⟨none, 0, none, 0, by simp [plainJ, sP, kP, lP, nilV, h3, h4, h5, h6], by simpa [kP, h6] using strs_nil, fun i hi => by simp [lP, h5, h6] at hi⟩

theorem eqJ_by {k k' : Int} {s s' : ByteArray} {K K' : List ByteArray} {L L' : List JT} : eqJ (.mk k s K L) (.mk k' s' K' L') = true ↔ k = k' ∧ sP k s = sP k' s' ∧ kP k K = kP k' K' ∧ eqJs (lP k L) (lP k' L') = true := by
  by_cases hk : k = k'
  rotate_left
  · rw [eqJ_kind hk]
    exact ⟨fun h => (by cases h), fun h => absurd h.1 hk⟩
  subst hk
  by_cases h3 : k = 3
  · subst h3
    rw [eqJ_text (.inl rfl)]
    simp [sP, kP, lP, eqJs]
  by_cases h4 : k = 4
  · subst h4
    rw [eqJ_text (.inr rfl)]
    simp [sP, kP, lP, eqJs]
  by_cases h5 : k = 5
  · subst h5
    rw [eqJ_five]
    simp [sP, kP, lP]
  by_cases h6 : k = 6
  · subst h6
    rw [eqJ_six]
    simp [sP, kP, lP]
  · rw [eqJ_plain h3 h4 h5 h6]
    simp [sP, kP, lP, h3, h4, h5, h6, eqJs]

end Go.Proofs.YtbdpmpepmjpadaaGreatDoor

namespace Go.Proofs.YtbdpmpepmjpadaaGreatDoor
set_option linter.unusedVariables false
set_option linter.unusedSimpArgs false
set_option maxRecDepth 100000
open Go Go.RowKit Go.Shelf Go.Lib

mutual
theorem eqJ_refl : ∀ T : JT, eqJ T T = true
  | .mk k s K L => by
    have := eqJs_refl L
    rw [eqJ]
    simp [this]
theorem eqJs_refl : ∀ L : List JT, eqJs L L = true
  | [] => by rw [eqJs]
  | a :: l => by rw [eqJs, eqJ_refl a, eqJs_refl l]; rfl
end

end Go.Proofs.YtbdpmpepmjpadaaGreatDoor

namespace Go.Proofs.YtbdpmpepmjpadaaGreatDoor
set_option linter.unusedVariables false
set_option linter.unusedSimpArgs false
set_option maxRecDepth 100000
open Go Go.RowKit Go.Shelf Go.Lib

theorem own_noneS (w : World) : (w.alloc (.cells #[] 9)).ownsRow w.heap.size 9 1 (.slice (some ⟨w.heap.size, 0, none⟩) 0 0) 0 [] :=
  World.ownsRow_lit w #[] 0 (Nat.le_refl _) (by unfold maxLen; omega) rfl
theorem own_noneV (w : World) : (w.alloc (.cells #[] 27)).ownsRow w.heap.size 27 4 (.slice (some ⟨w.heap.size, 0, none⟩) 0 0) 0 [] :=
  World.ownsRow_lit w #[] 0 (Nat.le_refl _) (by unfold maxLen; omega) rfl
theorem nilS_eq (w : World) (a : Option Addr) (n c : Nat) : (binOp .eql 24 (.slice a n c) (.slice none 0 0)).run Tryz.prog w = .ok (.bool a.isNone) w := Lib.run_eql_slice_nil w 24 9 a n c 0 0 Tryz.underlying24
theorem nilV_eq (w : World) (a : Option Addr) (n c : Nat) : (binOp .eql 25 (.slice a n c) (.slice none 0 0)).run Tryz.prog w = .ok (.bool a.isNone) w := Lib.run_eql_slice_nil w 25 27 a n c 0 0 Tryz.underlying25

def CloS (w : World) (K : List ByteArray) (e : Ending) (w' : World) : Prop := ∃ a c, e = .returned (.slice a K.length c) ∧ Below w.heap.size w w' ∧ StrsS w' (fun b => w.heap.size ≤ b) (.slice a K.length c) K
set_option maxHeartbeats 4000000 in
theorem cloneS_any {S : Nat → Prop} {v : Value} {K : List ByteArray} (w : World) (h : StrsS w S v K) (hl : K.length ≤ 1000000) : Calls Tryz.prog 73 #[v] w (CloS w K) := by
  obtain ⟨ao, cap, rfl, hc⟩ := h
  cases ao with
  | none =>
    obtain rfl : K = [] := by
      rcases K with _ | ⟨x, K⟩
      · rfl
      · obtain ⟨b, off, e, _⟩ := hc 0 (by simp)
        cases e
    have heq := nilS_eq w none 0 cap
    simp only [Option.isNone_none] at heq
    rw [List.length_nil]
    go_enter Tryz.func73, Tryz.ntmps73
    go_wp2
    go_ret
    exact ⟨none, 0, rfl, Below.refl _ _, ⟨none, 0, rfl, fun j hj => by simp at hj⟩⟩
  | some a =>
    obtain ⟨i0, hi, hz0, hz1, hz2⟩ := info_parts infoStr
    have heq : ∀ (W : World) (n c : Nat), (binOp .eql 24 (.slice (some a) n c) (.slice none 0 0)).run Tryz.prog W = .ok (.bool false) W := fun W n c => nilS_eq W (some a) n c
    have hb0 := bel w (.cells #[] 9)
    have hcell : ∀ j u, (K.map Value.string)[j]? = some u → (w.alloc (.cells #[] 9)).cell? (a.add j) = some u := fun j u hj => by
      rw [List.getElem?_map] at hj
      obtain ⟨s, hs, rfl⟩ := Option.map_eq_some_iff.1 hj
      have hjl := (List.getElem?_eq_some_iff.1 hs).1
      obtain ⟨b, off, e, _, hx⟩ := hc j hjl
      cases e
      rw [addr_plus]
      rw [(hb0.cell (p := ⟨b, off + j, none⟩) (block_lt hx)).trans hx]
      simp [nthS, hs]
    have hone : ∀ u ∈ K.map Value.string, u.oneCell' = true := fun u hu => by
      obtain ⟨s, _, rfl⟩ := List.mem_map.1 hu
      rfl
    obtain ⟨kn, hkn⟩ : ∃ kn, K.length = kn := ⟨_, rfl⟩
    have hlen : (K.map Value.string).length = kn * 1 := by simp [hkn]
    obtain ⟨cs, hcs⟩ : ∃ cs, K.map Value.string = cs := ⟨_, rfl⟩
    rw [hcs] at hcell hone hlen
    rw [hkn] at hl
    have HB := hide hb0
    have HO := hide (own_noneS w)
    have HC := hide hcell
    have H1 := hide hone
    have HL := hide hlen
    have HLL := hide hl
    have HCS := hide hcs
    have HKN := hide hkn
    rw [hkn]
    clear hb0 hcell hone hlen hl hcs hkn hc
    go_enter Tryz.func73, Tryz.ntmps73
    go_wp2_with (at_builtin; go_must (refine wpList_append_own _ rfl (.tmp 5) (.tmp 6) 24 rfl w.heap.size 9 i0 (.string ⟨#[]⟩) 1 16 Tryz.underlying24 hi hz0 hz1 hz2 rfl (by decide) _ 0 [] rfl HO.out a kn cap cs rfl HL.out HC.out H1.out (by have := HLL.out; unfold maxLen; omega) (by have := HLL.out; omega) (by simp) ?_; intro v' w2 hown' hgrow hnil))
    have hb2 : Below w.heap.size w w2 := HB.out.grown hgrow (by simp) (fun j hj => by have := (World.ownsRow.lt HO.out j hj).1; omega)
    have hown2 : OwnS w.heap.size w2 v' K := by
      unfold OwnS
      rw [HCS.out, HKN.out, ← Nat.zero_add kn, ← List.nil_append cs]
      exact hown'
    obtain ⟨ya, yc, rfl, _⟩ := hown2.len
    have HB2 := hide hb2
    have HO2 := hide hown2
    clear hb2 hown' hgrow hnil hown2
    go_wp2
    go_ret
    refine ⟨ya, yc, rfl, HB2.out, ⟨ya, yc, rfl, fun j hj => ?_⟩⟩
    obtain ⟨g, rfl, hx⟩ := HO2.out.cell (List.getElem?_eq_getElem hj)
    refine ⟨g, 0, rfl, (HO2.out.lt g rfl).1, ?_⟩
    rw [Nat.zero_add, hx]
    simp [nthS, hj]

theorem vcells_get : ∀ (M : List JC) (i : Nat) (x : JC) (r : Nat), M[i]? = some x → r < 4 → (vcells M)[i * 4 + r]? = (vcell x)[r]? := by
  intro M
  induction M with
  | nil => intro i x r h; simp at h
  | cons a l ih =>
    intro i x r h hr
    have e : vcells (a :: l) = vcell a ++ vcells l := rfl
    have hl : (vcell a).length = 4 := rfl
    cases i with
    | zero =>
      simp at h
      subst h
      rw [e, Nat.zero_mul, Nat.zero_add, List.getElem?_append_left (by omega)]
    | succ i =>
      rw [e, List.getElem?_append_right (by omega), hl, show (i + 1) * 4 + r - 4 = i * 4 + r by omega]
      exact ih i x r (by simpa using h) hr

/-- A row of values in a block: so many, one after the other. -/
def RowV (W : World) (g n : Nat) (ys : Nat → JC) : Prop := ∃ cur, BoxC W g 27 cur ∧ ∀ i, i < n → ∀ r, r < 4 → cur[i * 4 + r]? = (vcell (ys i))[r]?
theorem RowV.cell {W : World} {g n : Nat} {ys : Nat → JC} (h : RowV W g n ys) {i r : Nat} (hi : i < n) (hr : r < 4) : W.cell? ⟨g, i * 4 + r, none⟩ = (vcell (ys i))[r]? := by
  obtain ⟨cur, hb, hc⟩ := h
  rw [hb.cell]
  exact hc i hi r hr
theorem RowV.frozen {W : World} {g n : Nat} {ys : Nat → JC} (h : RowV W g n ys) (i : Nat) : W.frozen? ⟨g, i, none⟩ = false := by
  obtain ⟨cur, hb, _⟩ := h
  exact hb.frozen i
theorem RowV.lt {W : World} {g n : Nat} {ys : Nat → JC} (h : RowV W g n ys) : g < W.heap.size := by
  obtain ⟨cur, hb, _⟩ := h
  exact hb.lt
theorem RowV.below {W W' : World} {g n : Nat} {ys : Nat → JC} (h : RowV W g n ys) (hb : Below W.heap.size W W') : RowV W' g n ys := by
  obtain ⟨cur, hx, hc⟩ := h
  exact ⟨cur, hx.below hb, hc⟩
theorem RowV.other {W : World} {g n B i : Nat} {ys : Nat → JC} {x : Value} (h : RowV W g n ys) (hne : g ≠ B) : RowV (W.setCell ⟨B, i, none⟩ x) g n ys := by
  obtain ⟨cur, hx, hc⟩ := h
  exact ⟨cur, hx.other hne i x, hc⟩
theorem set_get {cs : Array Value} {j k : Nat} {x : Value} (hj : j < cs.size) : (cs.set! j x)[k]? = if k = j then some x else cs[k]? := by
  rw [Array.set!_eq_setIfInBounds, Array.getElem?_setIfInBounds]
  by_cases e : j = k
  · subst e
    simp [hj]
  · simp [e, Ne.symm e]
theorem RowV.put {W : World} {g n i : Nat} {ys : Nat → JC} (h : RowV W g n ys) (hi : i < n) (y : JC) :
    RowV ((((W.setCell ⟨g, i * 4, none⟩ (.int .i64 y.1)).setCell ⟨g, i * 4 + 1, none⟩ (.string y.2.1)).setCell ⟨g, i * 4 + 2, none⟩ y.2.2.1).setCell ⟨g, i * 4 + 3, none⟩ y.2.2.2) g n (fun j => if j = i then y else ys j) := by
  obtain ⟨cur, hb, hc⟩ := h
  refine ⟨_, (((hb.set (i * 4) _).set (i * 4 + 1) _).set (i * 4 + 2) _).set (i * 4 + 3) _, fun j hj r hr => ?_⟩
  have hsz : i * 4 + 3 < cur.size := by
    have h3 := hc i hi 3 (by omega)
    simp only [vcell, List.getElem?_cons_succ, List.getElem?_cons_zero] at h3
    exact (Array.getElem?_eq_some_iff.1 h3).1
  rw [set_get (by simp; omega), set_get (by simp; omega), set_get (by simp; omega), set_get (by omega)]
  have hcj := hc j hj r hr
  show _ = (vcell (if j = i then y else ys j))[r]?
  by_cases e : j = i
  · subst e
    rw [if_pos (rfl : j = j)]
    match r, hr with
    | 0, _ => rw [if_neg (by omega), if_neg (by omega), if_neg (by omega), if_pos (by omega)]; rfl
    | 1, _ => rw [if_neg (by omega), if_neg (by omega), if_pos (by omega)]; rfl
    | 2, _ => rw [if_neg (by omega), if_pos (by omega)]; rfl
    | 3, _ => rw [if_pos (by omega)]; rfl
  · rw [if_neg (by omega), if_neg (by omega), if_neg (by omega), if_neg (by omega), if_neg e]
    exact hcj

def CloV (w : World) (n : Nat) (xs : Nat → JC) (e : Ending) (w' : World) : Prop := ∃ a c, e = .returned (.slice a n c) ∧ Below w.heap.size w w' ∧ (0 < n → ∃ g, w.heap.size ≤ g ∧ a = some ⟨g, 0, none⟩ ∧ RowV w' g n xs)
set_option maxHeartbeats 4000000 in
theorem cloneV_any (w : World) (ao : Option Addr) (n cap : Nat) (xs : Nat → JC) (hc : ∀ i, i < n → ∃ b off, ao = some ⟨b, off, none⟩ ∧ ∀ r, r < 4 → w.cell? ⟨b, off + (i * 4 + r), none⟩ = (vcell (xs i))[r]?) (hsl : ∀ i, i < n → IsSl (xs i).2.2.1 ∧ IsSl (xs i).2.2.2) (hl : n ≤ 1000000) :
    Calls Tryz.prog 74 #[.slice ao n cap] w (CloV w n xs) := by
  cases ao with
  | none =>
    obtain rfl : n = 0 := by
      rcases n with _ | n
      · rfl
      · obtain ⟨b, off, e, _⟩ := hc 0 (by omega)
        cases e
    have heq := nilV_eq w none 0 cap
    simp only [Option.isNone_none] at heq
    clear hc hsl hl
    go_enter Tryz.func74, Tryz.ntmps74
    go_wp2
    go_ret
    exact ⟨none, 0, rfl, Below.refl _ _, fun h => by omega⟩
  | some a =>
    obtain ⟨i0, hi, hz0, hz1, hz2⟩ := info_parts infoJV
    have heq : ∀ (W : World) (n c : Nat), (binOp .eql 25 (.slice (some a) n c) (.slice none 0 0)).run Tryz.prog W = .ok (.bool false) W := fun W n c => nilV_eq W (some a) n c
    have hb0 := bel w (.cells #[] 27)
    obtain ⟨M, hM⟩ : ∃ M, (List.range n).map xs = M := ⟨_, rfl⟩
    have hMl : M.length = n := by rw [← hM]; simp
    have hMi : ∀ i, i < n → M[i]? = some (xs i) := fun i hi => by rw [← hM]; simp [hi]
    have hcell : ∀ j u, (vcells M)[j]? = some u → (w.alloc (.cells #[] 27)).cell? (a.add j) = some u := fun j u hj => by
      have hjl := (List.getElem?_eq_some_iff.1 hj).1
      rw [vcells_length, hMl] at hjl
      obtain ⟨b, off, e, hx⟩ := hc (j / 4) (by omega)
      cases e
      have h0 := hx (j % 4) (by omega)
      rw [← vcells_get M (j / 4) _ (j % 4) (hMi _ (by omega)) (by omega), show j / 4 * 4 + j % 4 = j by omega, hj] at h0
      rw [addr_plus]
      exact (hb0.cell (p := ⟨b, off + j, none⟩) (block_lt h0)).trans h0
    have hone : ∀ u ∈ vcells M, u.oneCell' = true := fun u hu => by
      unfold vcells at hu
      obtain ⟨x, hx, hu⟩ := List.mem_flatMap.1 hu
      rw [← hM] at hx
      obtain ⟨i, hi, rfl⟩ := List.mem_map.1 hx
      obtain ⟨⟨_, _, _, e2⟩, ⟨_, _, _, e3⟩⟩ := hsl i (List.mem_range.1 hi)
      simp only [vcell, List.mem_cons, List.not_mem_nil, or_false] at hu
      rcases hu with rfl | rfl | rfl | rfl
      · rfl
      · rfl
      · rw [e2]; rfl
      · rw [e3]; rfl
    have hlen : (vcells M).length = n * 4 := by rw [vcells_length, hMl]
    obtain ⟨cs, hcs⟩ : ∃ cs, vcells M = cs := ⟨_, rfl⟩
    have hget : ∀ i, i < n → ∀ r, r < 4 → cs[i * 4 + r]? = (vcell (xs i))[r]? := fun i hi r hr => by
      rw [← hcs]
      exact vcells_get M i _ r (hMi i hi) hr
    rw [hcs] at hcell hone hlen
    have HB := hide hb0
    have HO := hide (own_noneV w)
    have HC := hide hcell
    have H1 := hide hone
    have HL := hide hlen
    have HLL := hide hl
    have HG := hide hget
    clear hb0 hcell hone hlen hl hcs hc hsl hM hMl hMi hget
    go_enter Tryz.func74, Tryz.ntmps74
    go_wp2_with (at_builtin; go_must (refine wpList_append_own _ rfl (.tmp 5) (.tmp 6) 25 rfl w.heap.size 27 i0 (.agg #[.int .i64 0, .string ⟨#[]⟩, .slice none 0 0, .slice none 0 0]) 4 72 Tryz.underlying25 hi hz0 hz1 hz2 rfl (by decide) _ 0 [] rfl HO.out a n cap cs rfl HL.out HC.out H1.out (by have := HLL.out; unfold maxLen; omega) (by have := HLL.out; omega) (by simp) ?_; intro v' w2 hown' hgrow hnil))
    have hb2 : Below w.heap.size w w2 := HB.out.grown hgrow (by simp) (fun j hj => by have := (World.ownsRow.lt HO.out j hj).1; omega)
    rw [Nat.zero_add, List.nil_append] at hown'
    obtain ⟨ya, yc, rfl, hrow⟩ : ∃ ya yc, v' = .slice ya n yc ∧ (0 < n → ∃ g, w.heap.size ≤ g ∧ ya = some ⟨g, 0, none⟩ ∧ RowV w2 g n xs) := by
      rcases hown'.2 with ⟨rfl, h0⟩ | ⟨g, c2, cur, rfl, hg, hh, hn, hm, hsz, ht⟩
      · exact ⟨none, 0, by rw [h0], fun h => by omega⟩
      · refine ⟨_, _, rfl, fun _ => ⟨g, hg, rfl, cur, hh, fun i hi r hr => ?_⟩⟩
        have h1 : cs[i * 4 + r]? = cur[i * 4 + r]? := by
          rw [← ht, List.getElem?_take, if_pos (by omega)]
          simp
        rw [← h1]
        exact HG.out i hi r hr
    have HB2 := hide hb2
    have HR2 := hide hrow
    clear hb2 hown' hgrow hnil hrow
    go_wp2
    go_ret
    exact ⟨ya, yc, rfl, HB2.out, HR2.out⟩

mutual
/-- What a copy leaves of a tree. -/
def clJ : JT → JT
  | .mk k s K L => .mk k (sP k s) (kP k K) (if k = 5 ∨ k = 6 then clJs L else [])
def clJs : List JT → List JT
  | [] => []
  | a :: l => clJ a :: clJs l
end
theorem clJs_length : ∀ L : List JT, (clJs L).length = L.length
  | [] => by rw [clJs]
  | a :: l => by rw [clJs, List.length_cons, List.length_cons, clJs_length l]
theorem clJs_get : ∀ (L : List JT) (i : Nat), (clJs L)[i]? = (L[i]?).map clJ
  | [], i => by rw [clJs]; simp
  | a :: l, 0 => by rw [clJs]; simp
  | a :: l, i + 1 => by rw [clJs, List.getElem?_cons_succ, List.getElem?_cons_succ, clJs_get l i]
theorem clJ_eq (k : Int) (s : ByteArray) (K : List ByteArray) (L : List JT) : clJ (.mk k s K L) = .mk k (sP k s) (kP k K) (clJs (lP k L)) := by
  rw [clJ]
  unfold lP
  split
  · rfl
  · rw [clJs]
theorem parts_idem (k : Int) (s : ByteArray) (K : List ByteArray) (L : List JT) : sP k (sP k s) = sP k s ∧ kP k (kP k K) = kP k K ∧ lP k (lP k L) = lP k L := by
  unfold sP kP lP
  refine ⟨?_, ?_, ?_⟩ <;> split <;> simp_all
mutual
theorem eqJ_clone : ∀ T : JT, eqJ (clJ T) T = true
  | .mk k s K L => by
    rw [clJ_eq, eqJ_by]
    obtain ⟨h1, h2, _⟩ := parts_idem k s K L
    refine ⟨rfl, h1, h2, ?_⟩
    unfold lP
    split
    · exact eqJs_clone L
    · rfl
theorem eqJs_clone : ∀ L : List JT, eqJs (clJs L) L = true
  | [] => by rw [clJs]; rfl
  | a :: l => by rw [clJs, eqJs, eqJ_clone a, eqJs_clone l]; rfl
end
theorem LtT.clone {T : JT} (h : LtT T) : LtT (clJ T) := by
  induction h with
  | mk k s K L hK hL hs ht ih =>
    rw [clJ_eq]
    refine .mk k _ _ _ ?_ ?_ ?_ fun i hi => ?_
    · unfold kP; split
      · exact hK
      · simp
    · rw [clJs_length]; unfold lP; split
      · exact hL
      · simp
    · intro h3; have := hs h3; unfold sP; split
      · exact this
      · exact Nat.zero_le _
    · rw [clJs_length] at hi
      have hiL : i < L.length ∧ lP k L = L := by
        unfold lP at hi ⊢
        split at hi
        · rename_i h; rw [if_pos h]; exact ⟨hi, rfl⟩
        · simp at hi
      have hg : (clJs (lP k L))[i]? = (L[i]?).map clJ := by rw [clJs_get, hiL.2]
      rw [List.getElem?_eq_getElem (by rw [clJs_length]; exact hi), List.getElem?_eq_getElem hiL.1, Option.map_some, Option.some.injEq] at hg
      rw [hg]
      exact ih i hiL.1

end Go.Proofs.YtbdpmpepmjpadaaGreatDoor

namespace Go.Proofs.YtbdpmpepmjpadaaGreatDoor
set_option linter.unusedVariables false
set_option linter.unusedSimpArgs false
set_option maxRecDepth 100000
open Go Go.RowKit Go.Shelf Go.Lib

/-- A copy under way: so many parts are copied already. -/
structure CloJ (w W : World) (k : Int) (s : ByteArray) (kv : Value) (la : Option Addr) (lc g n i : Nat) (ys xs : Nat → JC) (K : List ByteArray) (L : List JT) : Prop where
  box : BoxC W w.heap.size 27 #[.int .i64 k, .string s, kv, .slice la n lc]
  res : BoxC W (w.heap.size + 1) 27 #[.int .i64 0, .string ⟨#[]⟩, .slice none 0 0, .slice none 0 0]
  low : Below w.heap.size w W
  keys : StrsS W (fun b => w.heap.size + 2 ≤ b ∧ b ≠ g) kv K
  row : 0 < n → la = some ⟨g, 0, none⟩ ∧ w.heap.size + 2 ≤ g ∧ RowV W g n ys
  old : ∀ j, i ≤ j → j < n → ys j = xs j
  new : ∀ (j : Nat) (T : JT), j < i → L[j]? = some T → TIn W (fun b => w.heap.size + 2 ≤ b ∧ b ≠ g) (ys j) (clJ T)
theorem CloJ.below {w W W' : World} {k : Int} {s : ByteArray} {kv : Value} {la : Option Addr} {lc g n i : Nat} {ys xs : Nat → JC} {K : List ByteArray} {L : List JT} (h : CloJ w W k s kv la lc g n i ys xs K L) (hb : Below W.heap.size W W') : CloJ w W' k s kv la lc g n i ys xs K L :=
  ⟨h.box.below hb, h.res.below hb, h.low.trans (hb.mono h.low.size), h.keys.keep (fun b hs hlt => ⟨hs, hb.block b hlt⟩), fun hn => ⟨(h.row hn).1, (h.row hn).2.1, (h.row hn).2.2.below hb⟩, h.old, fun j T hj hT => (h.new j T hj hT).bel hb⟩
theorem CloJ.put {w W W' : World} {k : Int} {s : ByteArray} {kv : Value} {la : Option Addr} {lc g n i : Nat} {ys xs : Nat → JC} {K : List ByteArray} {L : List JT} {y : JC} {T : JT} (h : CloJ w W k s kv la lc g n i ys xs K L) (hi : i < n) (hb : Below W.heap.size W W') (hT : L[i]? = some T) (hy : TIn W' (fun b => W.heap.size ≤ b) y (clJ T)) :
    CloJ w ((((W'.setCell ⟨g, i * 4, none⟩ (.int .i64 y.1)).setCell ⟨g, i * 4 + 1, none⟩ (.string y.2.1)).setCell ⟨g, i * 4 + 2, none⟩ y.2.2.1).setCell ⟨g, i * 4 + 3, none⟩ y.2.2.2) k s kv la lc g n (i + 1) (fun j => if j = i then y else ys j) xs K L := by
  have hlow := h.low.size
  obtain ⟨_, hg, hrow⟩ := h.row (by omega)
  have hgW := hrow.lt
  have hbox := h.box.lt
  have h' := h.below hb
  have hk : ∀ b, b ≠ g → ((((W'.setCell ⟨g, i * 4, none⟩ (.int .i64 y.1)).setCell ⟨g, i * 4 + 1, none⟩ (.string y.2.1)).setCell ⟨g, i * 4 + 2, none⟩ y.2.2.1).setCell ⟨g, i * 4 + 3, none⟩ y.2.2.2).heap[b]? = W'.heap[b]? := fun b hb => by
    rw [Below.heap_setCell _ ⟨g, i * 4 + 3, none⟩ _ b hb, Below.heap_setCell _ ⟨g, i * 4 + 2, none⟩ _ b hb, Below.heap_setCell _ ⟨g, i * 4 + 1, none⟩ _ b hb, Below.heap_setCell _ ⟨g, i * 4, none⟩ _ b hb]
  refine ⟨(((h'.box.other (by omega) _ _).other (by omega) _ _).other (by omega) _ _).other (by omega) _ _, (((h'.res.other (by omega) _ _).other (by omega) _ _).other (by omega) _ _).other (by omega) _ _,
    (((h'.low.setCell (p := ⟨g, i * 4, none⟩) (by show w.heap.size ≤ g; omega) _).setCell (p := ⟨g, i * 4 + 1, none⟩) (by show w.heap.size ≤ g; omega) _).setCell (p := ⟨g, i * 4 + 2, none⟩) (by show w.heap.size ≤ g; omega) _).setCell (p := ⟨g, i * 4 + 3, none⟩) (by show w.heap.size ≤ g; omega) _,
    h'.keys.keep (fun b hs _ => ⟨hs, hk b hs.2⟩), fun hn => ⟨(h'.row hn).1, hg, (h'.row hn).2.2.put hi y⟩, fun j h1 h2 => ?_, fun j T' hj hT' => ?_⟩
  · show (if j = i then y else ys j) = xs j
    rw [if_neg (by omega)]
    exact h.old j (by omega) h2
  · show TIn _ _ (if j = i then y else ys j) _
    by_cases e : j = i
    · subst e
      rw [if_pos rfl]
      rw [hT] at hT'
      cases hT'
      refine hy.keep fun b hs _ => ?_
      have hb2 : W.heap.size ≤ b := hs
      exact ⟨⟨by omega, by omega⟩, hk b (by omega)⟩
    · rw [if_neg e]
      exact (h'.new j T' (by omega) hT').keep fun b hs _ => ⟨hs, hk b hs.2⟩
theorem CloJ.tree {w W : World} {k : Int} {s : ByteArray} {kv : Value} {la : Option Addr} {lc g n : Nat} {ys xs : Nat → JC} {K : List ByteArray} {L : List JT} (h : CloJ w W k s kv la lc g n n ys xs K L) (hn : L.length = n) (x' y' z' u' : Value) :
    TIn ((((W.setCell ⟨w.heap.size + 1, 0, none⟩ x').setCell ⟨w.heap.size + 1, 1, none⟩ y').setCell ⟨w.heap.size + 1, 2, none⟩ z').setCell ⟨w.heap.size + 1, 3, none⟩ u') (fun b => w.heap.size ≤ b) (k, s, kv, .slice la n lc) (.mk k s K (clJs L)) := by
  have hk : ∀ b, b ≠ w.heap.size + 1 → ((((W.setCell ⟨w.heap.size + 1, 0, none⟩ x').setCell ⟨w.heap.size + 1, 1, none⟩ y').setCell ⟨w.heap.size + 1, 2, none⟩ z').setCell ⟨w.heap.size + 1, 3, none⟩ u').heap[b]? = W.heap[b]? := fun b hb => by
    rw [Below.heap_setCell _ ⟨w.heap.size + 1, 3, none⟩ u' b hb, Below.heap_setCell _ ⟨w.heap.size + 1, 2, none⟩ z' b hb, Below.heap_setCell _ ⟨w.heap.size + 1, 1, none⟩ y' b hb, Below.heap_setCell _ ⟨w.heap.size + 1, 0, none⟩ x' b hb]
  generalize ((((W.setCell ⟨w.heap.size + 1, 0, none⟩ x').setCell ⟨w.heap.size + 1, 1, none⟩ y').setCell ⟨w.heap.size + 1, 2, none⟩ z').setCell ⟨w.heap.size + 1, 3, none⟩ u') = W' at *
  have hcl : (clJs L).length = n := by rw [clJs_length, hn]
  have hget : ∀ i (h : i < (clJs L).length), (clJs L)[i] = clJ (L[i]'(by rw [clJs_length] at h; exact h)) := fun i h => by
    have e := clJs_get L i
    rw [List.getElem?_eq_getElem h, List.getElem?_eq_getElem (by rw [clJs_length] at h; exact h), Option.map_some, Option.some.injEq] at e
    exact e
  have hnew : ∀ i (h : i < (clJs L).length), TIn W (fun b => w.heap.size + 2 ≤ b ∧ b ≠ g) (ys i) ((clJs L)[i]) := fun i hi => by
    rw [hget i hi]
    exact h.new i _ (by omega) (List.getElem?_eq_getElem (by rw [clJs_length] at hi; exact hi))
  rw [← hcl]
  refine .mk k s kv la lc K (clJs L) ys (h.keys.keep fun b hs _ => ⟨by show w.heap.size ≤ b; have := hs.1; omega, hk b (by have := hs.1; omega)⟩) (fun i hi => ?_) (fun i hi => (hnew i hi).sl) (fun i hi => (hnew i hi).keep fun b hs _ => ⟨by show w.heap.size ≤ b; have := hs.1; omega, hk b (by have := hs.1; omega)⟩)
  obtain ⟨e, hg, hrow⟩ := h.row (by omega)
  refine ⟨g, 0, e, by show w.heap.size ≤ g; omega, fun r hr => ?_⟩
  rw [Nat.zero_add]
  exact (World.cell?_of_block (a := ⟨g, i * 4 + r, none⟩) (hk g (by omega))).trans (hrow.cell (by omega) hr)

/-- What clone answers. -/
def CloneR (w : World) (T : JT) (e : Ending) (w' : World) : Prop := ∃ y : JC, e = .returned (vagg y) ∧ Below w.heap.size w w' ∧ TIn w' (fun b => w.heap.size ≤ b) y T

set_option maxHeartbeats 16000000 in
theorem clone_any {W : World} {S : Nat → Prop} {x : JC} {T : JT} (h : TIn W S x T) (hl : LtT T) : ∀ (w : World), Below W.heap.size W w → Calls Tryz.prog 51 #[vagg x] w (CloneR w (clJ T)) := by
  induction h with
  | mk k s kv la lc K L xs hK hc hsl ht ih =>
    intro w hW
    obtain ⟨_, _, _, _, hKl, hLl, hsz, hll⟩ := hl
    obtain ⟨ka, kc, rfl, hKc⟩ := hK
    have hKS : StrsS W S (.slice ka K.length kc) K := ⟨ka, kc, rfl, hKc⟩
    obtain ⟨a1, c1, a2, c2, hpe, hPK, hPL⟩ := plain_parts (W := W) (S := S) k s (K := K) (L := L) (ka := ka) (la := la) (kc := kc) (lc := lc) hKS
    have HCP := hide (fun W' => plain_any W' k s ka la K.length kc L.length lc)
    unfold PlainR at HCP
    rw [hpe] at HCP
    have hkl : (kP k K).length ≤ 1000000 := by unfold kP; split; omega; simp
    have hnl : (lP k L).length ≤ 1000000 := by unfold lP; split; omega; simp
    have HCS := hide (fun W' (hb : Below W.heap.size W W') => cloneS_any W' (hPK.keep (W' := W') (S' := S) (fun b hs hlt => ⟨hs, hb.block b hlt⟩)) hkl)
    have HCV := hide (fun W' (hb : Below W.heap.size W W') => cloneV_any W' a2 (lP k L).length c2 xs (fun i hi => by
      obtain ⟨h1, h2, h3⟩ := hPL i hi
      obtain ⟨b, off, e, _, hx⟩ := hc i h1
      refine ⟨b, off, h3.trans e, fun r hr => ?_⟩
      have h0 := hx 0 (by omega)
      simp only [vcell, List.getElem?_cons_zero] at h0
      exact (hb.cell (p := ⟨b, off + (i * 4 + r), none⟩) (block_lt h0)).trans (hx r hr)) (fun i hi => hsl i (hPL i hi).1) hnl)
    have HIH := hide (fun i (hi : i < (lP k L).length) W' (hb : Below W.heap.size W W') (T : JT) (hT : (lP k L)[i]? = some T) => (by
      obtain ⟨h1, h2, h3⟩ := hPL i hi
      rw [h2, List.getElem?_eq_getElem h1] at hT
      cases hT
      exact ih i h1 (hll i h1) W' hb : Calls Tryz.prog 51 #[vagg (xs i)] W' (CloneR W' (clJ T))))
    have HSL := hide (fun i (hi : i < (lP k L).length) => hsl i (hPL i hi).1)
    have HCE := hide (clJ_eq k s K L)
    rw [HCE.out]
    have HNL := hide hnl
    generalize hs1 : sP k s = s1 at *
    generalize hk1 : kP k K = K1 at *
    generalize hl1 : lP k L = L1 at *
    obtain ⟨kn, hkn⟩ : ∃ kn, K1.length = kn := ⟨_, rfl⟩
    obtain ⟨n, hn⟩ : ∃ n, L1.length = n := ⟨_, rfl⟩
    rw [hn] at HCV HNL HIH HSL HCP
    rw [hkn] at HCP HCS
    have HKN := hide hkn
    have HN := hide hn
    have HW := hide hW
    clear hs1 hk1 hl1 hKS hPK hPL hpe hKc hc hsl ht ih hll hsz hKl hLl hkl hnl hkn hn HCE hW
    generalize K.length = k0 at *
    generalize L.length = l0 at *
    unfold vagg at HCP ⊢
    simp only at HCP ⊢
    have hb : Below w.heap.size w ((w.alloc (.cells #[.int .i64 k, .string s, .slice ka k0 kc, .slice la l0 lc] 27)).alloc (.cells #[.int .i64 0, .string ⟨#[]⟩, .slice none 0 0, .slice none 0 0] 27)) := (bel w _).alloc (by simp) _
    have hp := (BoxC.new w 27 #[.int .i64 k, .string s, .slice ka k0 kc, .slice la l0 lc]).alloc (.cells #[.int .i64 0, .string ⟨#[]⟩, .slice none 0 0, .slice none 0 0] 27)
    have hq := BoxC.new (w.alloc (.cells #[.int .i64 k, .string s, .slice ka k0 kc, .slice la l0 lc] 27)) 27 #[.int .i64 0, .string ⟨#[]⟩, .slice none 0 0, .slice none 0 0]
    rw [World.size_alloc] at hq
    generalize hw0 : (w.alloc (.cells #[.int .i64 k, .string s, .slice ka k0 kc, .slice la l0 lc] 27)).alloc (.cells #[.int .i64 0, .string ⟨#[]⟩, .slice none 0 0, .slice none 0 0] 27) = w0 at *
    have p0 : w0.cell? ⟨w.heap.size, 0, none⟩ = some (.int .i64 k) := hp.cell 0
    have p1 : w0.cell? ⟨w.heap.size, 1, none⟩ = some (.string s) := hp.cell 1
    have p2 : w0.cell? ⟨w.heap.size, 2, none⟩ = some (.slice ka k0 kc) := hp.cell 2
    have p3 : w0.cell? ⟨w.heap.size, 3, none⟩ = some (.slice la l0 lc) := hp.cell 3
    have lp := hp.lt
    have HW0 := hide hw0
    have HP := hide hp
    have HQ := hide hq
    have HB := hide hb
    clear hw0 hp hq hb
    go_enter Tryz.func51, Tryz.ntmps51
    go_upto_region 1 with fail
    rw [HW0.out]
    clear HW0
    go_wp2_with fail
    refine (HCP.out _).mono ?_
    rintro e w1 ⟨rfl, hB1⟩
    have HP1 := hide (resJ_v (HP.out.below hB1) (.int .i64 k) (.string s1) (.slice a1 kn c1) (.slice a2 n c2))
    have HQ1 := hide (box_off4 (HQ.out.below hB1) (show w.heap.size + 1 ≠ w.heap.size by omega) (.int .i64 k) (.string s1) (.slice a1 kn c1) (.slice a2 n c2))
    have HB1 := hide (below4 (HB.out.trans (hB1.mono HB.out.size)) (Nat.le_refl _) (.int .i64 k) (.string s1) (.slice a1 kn c1) (.slice a2 n c2))
    have hp1 := HP.out.below hB1
    have f0 := hp1.frozen 0
    have f1 := hp1.frozen 1
    have f2 := hp1.frozen 2
    have f3 := hp1.frozen 3
    have c0 : w1.cell? ⟨w.heap.size, 0, none⟩ = some (.int .i64 k) := hp1.cell 0
    have c1' : w1.cell? ⟨w.heap.size, 1, none⟩ = some (.string s) := hp1.cell 1
    have c2' : w1.cell? ⟨w.heap.size, 2, none⟩ = some (.slice ka k0 kc) := hp1.cell 2
    have c3 : w1.cell? ⟨w.heap.size, 3, none⟩ = some (.slice la l0 lc) := hp1.cell 3
    have lp1 := hp1.lt
    clear hB1 hp1 p0 p1 p2 p3 lp HCP
    go_upto_region 2 with fail
    generalize (((w1.setCell ⟨w.heap.size, 0, none⟩ (.int .i64 k)).setCell ⟨w.heap.size, 1, none⟩ (.string s1)).setCell ⟨w.heap.size, 2, none⟩ (.slice a1 kn c1)).setCell ⟨w.heap.size, 3, none⟩ (.slice a2 n c2) = w2 at *
    clear c0 c1' c2' c3 f0 f1 f2 f3 lp1
    have q2 : w2.cell? ⟨w.heap.size, 2, none⟩ = some (.slice a1 kn c1) := HP1.out.cell 2
    have HCS2 := hide (HCS.out w2 (HW.out.trans (HB1.out.mono HW.out.size)))
    clear HCS
    go_wp2_with fail
    refine HCS2.out.mono ?_
    rintro e w3 ⟨b1, d1, rfl, hB3, hK3⟩
    rw [HKN.out] at hK3 ⊢
    have HP2 : Hid (BoxC (w3.setCell ⟨w.heap.size, 2, none⟩ (.slice b1 kn d1)) w.heap.size 27 #[.int .i64 k, .string s1, .slice b1 kn d1, .slice a2 n c2]) := (HP1.out.below hB3).set 2 _
    have HQ2 := hide ((HQ1.out.below hB3).other (show w.heap.size + 1 ≠ w.heap.size by omega) 2 (.slice b1 kn d1))
    have HB2 := hide ((HB1.out.trans (hB3.mono HB1.out.size)).setCell (p := ⟨w.heap.size, 2, none⟩) (Nat.le_refl _) (.slice b1 kn d1))
    have hq1l := HQ1.out.lt
    have HK2 : Hid (StrsS (w3.setCell ⟨w.heap.size, 2, none⟩ (.slice b1 kn d1)) (fun b => w.heap.size + 2 ≤ b) (.slice b1 kn d1) K1) := hK3.keep fun b hs _ => by
      have hs' : w2.heap.size ≤ b := hs
      exact ⟨by show w.heap.size + 2 ≤ b; omega, Below.heap_setCell _ ⟨w.heap.size, 2, none⟩ _ b (by show b ≠ w.heap.size; omega)⟩
    have hp3 := HP1.out.below hB3
    have g2 := hp3.frozen 2
    have c2' : w3.cell? ⟨w.heap.size, 2, none⟩ = some (.slice a1 kn c1) := hp3.cell 2
    have l2 := hp3.lt
    clear hB3 hK3 hp3 q2 hq1l HCS2
    go_upto_region 3 with fail
    generalize w3.setCell ⟨w.heap.size, 2, none⟩ (.slice b1 kn d1) = w4 at *
    clear c2' g2 l2
    have q3 : w4.cell? ⟨w.heap.size, 3, none⟩ = some (.slice a2 n c2) := HP2.out.cell 3
    have HCV4 := hide (HCV.out w4 (HW.out.trans (HB2.out.mono HW.out.size)))
    clear HCV
    go_wp2_with fail
    refine HCV4.out.mono ?_
    rintro e w5 ⟨ra, cc, rfl, hB5, hrow⟩
    have hp5 := HP2.out.below hB5
    have g3 := hp5.frozen 3
    have c3 : w5.cell? ⟨w.heap.size, 3, none⟩ = some (.slice a2 n c2) := hp5.cell 3
    have l3 := hp5.lt
    obtain ⟨g, hg⟩ : ∃ g, CloJ w (w5.setCell ⟨w.heap.size, 3, none⟩ (.slice ra n cc)) k s1 (.slice b1 kn d1) ra cc g n 0 xs xs K1 L1 := by
      have hq4 := HQ2.out.lt
      obtain ⟨g, hge, hro⟩ : ∃ g, w4.heap.size ≤ g ∧ (0 < n → ra = some ⟨g, 0, none⟩ ∧ RowV w5 g n xs) := by
        rcases Nat.eq_zero_or_pos n with h0 | h0
        · exact ⟨w4.heap.size, Nat.le_refl _, fun h => by omega⟩
        · obtain ⟨g, h1, h2, h3⟩ := hrow h0
          exact ⟨g, h1, fun _ => ⟨h2, h3⟩⟩
      refine ⟨g, hp5.set 3 _, (HQ2.out.below hB5).other (by omega) 3 _, (HB2.out.trans (hB5.mono HB2.out.size)).setCell (p := ⟨w.heap.size, 3, none⟩) (Nat.le_refl _) _, HK2.out.keep fun b hs hlt => ⟨⟨hs, by omega⟩, ?_⟩, fun h => ⟨(hro h).1, by omega, (hro h).2.other (by omega)⟩, fun _ _ _ => rfl, fun j T hj _ => by omega⟩
      have hs' : w.heap.size + 2 ≤ b := hs
      rw [Below.heap_setCell _ ⟨w.heap.size, 3, none⟩ _ b (by show b ≠ w.heap.size; omega)]
      exact hB5.block b hlt
    have HG := hide hg
    clear hB5 hp5 q3 hrow hg HP2 HQ2 HB2 HK2 HP1 HQ1 HB1 HCV4
    go_upto_region 4 with fail
    generalize w5.setCell ⟨w.heap.size, 3, none⟩ (.slice ra n cc) = w6 at *
    clear c3 g3 l3
    have r3 : w6.cell? ⟨w.heap.size, 3, none⟩ = some (.slice ra n cc) := HG.out.box.cell 3
    go_wp2
    go_loopw [18] (fun iv wr => ∃ (i : Nat) (ys : Nat → JC), i ≤ n ∧ iv = .int .i64 (i : Int) ∧ CloJ w wr k s1 (.slice b1 kn d1) ra cc g n i ys xs K1 L1) (fun iv _ => n - (RowKit.intOf iv).toNat)
    case atStart => exact ⟨0, xs, Nat.zero_le _, rfl, HG.out⟩
    case round =>
      obtain ⟨i, ys, hi, rfl, hm⟩ := hrel
      clear HG r3
      by_cases hlt : i < n
      · have d2 : (i : Int) < (n : Int) := by omega
        have d0 : (0 : Int) ≤ (i : Int) := by omega
        obtain ⟨rfl, hge, hro⟩ := hm.row (by omega)
        have hyi := hm.old i (Nat.le_refl _) hlt
        obtain ⟨hs2, hs3⟩ := HSL.out i hlt
        obtain ⟨Ti, hTi⟩ : ∃ Ti, L1[i]? = some Ti := ⟨L1[i]'(by have := HN.out; omega), List.getElem?_eq_getElem _⟩
        have HCALL := hide (fun w2 (h2 : Below w.heap.size w w2) => HIH.out i hlt w2 (HW.out.trans (h2.mono HW.out.size)) Ti hTi)
        have hcl := fun r (hr : r < 4) => hro.cell hlt hr
        rw [hyi] at hcl
        have hsl2 := hm.low.size
        generalize xs i = y at *
        obtain ⟨yk, ys', yK, yL⟩ := y
        simp only [vcell] at hcl hs2 hs3
        obtain ⟨ka', kl', kc', rfl⟩ := hs2
        obtain ⟨la', ll', lc', rfl⟩ := hs3
        unfold vagg at HCALL
        simp only at HCALL
        have x0 := hcl 0 (by omega)
        have x1 := hcl 1 (by omega)
        have x2 := hcl 2 (by omega)
        have x3 := hcl 3 (by omega)
        simp only [List.getElem?_cons_zero, List.getElem?_cons_succ, Nat.add_zero] at x0 x1 x2 x3
        obtain ⟨i1, hi1⟩ : ∃ i1, i + 1 = i1 := ⟨_, rfl⟩
        have e1 : (i : Int) + 1 = (i1 : Int) := by omega
        have g1 : (i1 : Int) ≤ 1000000000 := by have := HNL.out; omega
        have hnb := bel wr (.cells #[.int .i64 yk, .string ys', .slice ka' kl' kc', .slice la' ll' lc'] 27)
        have hnx := BoxC.new wr 27 #[.int .i64 yk, .string ys', .slice ka' kl' kc', .slice la' ll' lc']
        have HI1 := hide hi1
        have HIL := hide hlt
        have HTI := hide hTi
        have HM := hide (hm.below hnb)
        have HGE := hide hge
        have hgp := hro.lt
        have HGP := hide hgp
        generalize hPB : wr.heap.size = PB at *
        clear hm hlt hi hi1 hTi hyi hcl hro hge hnb hgp
        go_upto_region 7 with fail
        generalize hwp : wr.alloc (.cells #[.int .i64 yk, .string ys', .slice ka' kl' kc', .slice la' ll' lc'] 27) = w7 at *
        have HNX := hide hnx
        clear hnx hwp x0 x1 x2 x3
        have HSX : Hid (∀ X0 : World, Below w7.heap.size w7 X0 → (X0.cell? ⟨w.heap.size, 3, none⟩ = some (.slice (some ⟨g, 0, none⟩) n cc) ∧ X0.cell? ⟨PB, 0, none⟩ = some (.int .i64 yk) ∧ X0.cell? ⟨PB, 1, none⟩ = some (.string ys') ∧ X0.cell? ⟨PB, 2, none⟩ = some (.slice ka' kl' kc') ∧ X0.cell? ⟨PB, 3, none⟩ = some (.slice la' ll' lc'))) := fun X0 h => ⟨(HM.out.box.below h).cell 3, (HNX.out.below h).cell 0, (HNX.out.below h).cell 1, (HNX.out.below h).cell 2, (HNX.out.below h).cell 3⟩
        refine wp_region_held_drew (S := fun X0 : World => X0.cell? ⟨w.heap.size, 3, none⟩ = some (.slice (some ⟨g, 0, none⟩) n cc) ∧ X0.cell? ⟨PB, 0, none⟩ = some (.int .i64 yk) ∧ X0.cell? ⟨PB, 1, none⟩ = some (.string ys') ∧ X0.cell? ⟨PB, 2, none⟩ = some (.slice ka' kl' kc') ∧ X0.cell? ⟨PB, 3, none⟩ = some (.slice la' ll' lc')) (by kernel_rfl) (HSX.out _ (Below.refl _ _).drew) (fun hHeld => ?_)
        have HD : Hid (Below w7.heap.size w7 w7.drew) := (Below.refl _ _).drew
        generalize w7.drew = w8 at *
        refine takeD (i := 0) (v := ?v1) (some 23) rfl (by kernel_rfl) (by kernel_rfl) (by kernel_rfl) (fun _ _ _ h => h) (Or.inl ⟨by rfl, ?hy1⟩) (HSX.out _ HD.out) (by rfl) ?rest1
        case hy1 => first | (intro w hSw; (try dsimp only at hSw); obtain ⟨s0, s1, s2, s3, s4⟩ := hSw; go_simp; done) | (intro w hSw; (try dsimp only at hSw); obtain ⟨s0, s1, s2, s3, s4⟩ := hSw; go_simp; with_reducible rfl)
        try simp only [Act.put, List.setIfInBounds_toArray, List.set_cons_zero, List.set_cons_succ, vagg]
        refine takeD (i := 1) (v := ?v2) (some 24) rfl (by kernel_rfl) (by kernel_rfl) (by kernel_rfl) (fun _ _ _ h => h) (Or.inl ⟨by rfl, ?hy2⟩) (HSX.out _ HD.out) (by rfl) ?rest2
        case hy2 => first | (intro w hSw; (try dsimp only at hSw); obtain ⟨s0, s1, s2, s3, s4⟩ := hSw; go_simp; done) | (intro w hSw; (try dsimp only at hSw); obtain ⟨s0, s1, s2, s3, s4⟩ := hSw; go_simp; with_reducible rfl)
        try simp only [Act.put, List.setIfInBounds_toArray, List.set_cons_zero, List.set_cons_succ, vagg]
        refine takeD (i := 2) (v := ?v3) (some 25) rfl (by kernel_rfl) (by kernel_rfl) (by kernel_rfl) (fun _ _ _ h => h) (Or.inl ⟨by rfl, ?hy3⟩) (HSX.out _ HD.out) (by rfl) ?rest3
        case hy3 => first | (intro w hSw; (try dsimp only at hSw); obtain ⟨s0, s1, s2, s3, s4⟩ := hSw; go_simp; done) | (intro w hSw; (try dsimp only at hSw); obtain ⟨s0, s1, s2, s3, s4⟩ := hSw; go_simp; with_reducible rfl)
        try simp only [Act.put, List.setIfInBounds_toArray, List.set_cons_zero, List.set_cons_succ, vagg]
        refine takeD (i := 3) (v := ?v4) (some 26) rfl (by kernel_rfl) (by kernel_rfl) (by kernel_rfl) (fun _ _ _ h => h) (Or.inl ⟨by rfl, ?hy4⟩) (HSX.out _ HD.out) (by rfl) ?rest4
        case hy4 => first | (intro w hSw; (try dsimp only at hSw); obtain ⟨s0, s1, s2, s3, s4⟩ := hSw; go_simp; done) | (intro w hSw; (try dsimp only at hSw); obtain ⟨s0, s1, s2, s3, s4⟩ := hSw; go_simp; with_reducible rfl)
        try simp only [Act.put, List.setIfInBounds_toArray, List.set_cons_zero, List.set_cons_succ, vagg]
        refine wpAnyH_ready (rs := [4]) (by kernel_rfl) (by simp) ?_
        refine AllReadyH.cons rfl (fun K hK => ?_) AllReadyH.nil
        go_simp
        refine (HCALL.out w8 (HM.out.low.trans (HD.out.mono HM.out.low.size))).mono ?_
        rintro e w9 ⟨y', rfl, hB9, hT9⟩
        obtain ⟨yk9, ys9, yK9, yL9⟩ := y'
        have HD9 := hide (HD.out.trans (hB9.mono HD.out.size))
        have hput := (HM.out.below HD.out).put HIL.out hB9 HTI.out hT9
        have hm9 := HM.out.below HD9.out
        have hro9 := (hm9.row (by have := HIL.out; omega)).2.2
        have z0 := hro9.cell HIL.out (r := 0) (by omega)
        have z1 := hro9.cell HIL.out (r := 1) (by omega)
        have z2 := hro9.cell HIL.out (r := 2) (by omega)
        have z3 := hro9.cell HIL.out (r := 3) (by omega)
        simp only [vcell, List.getElem?_cons_zero, List.getElem?_cons_succ, Nat.add_zero] at z0 z1 z2 z3
        have j0 := hro9.frozen (i * 4)
        have j1 := hro9.frozen (i * 4 + 1)
        have j2 := hro9.frozen (i * 4 + 2)
        have j3 := hro9.frozen (i * 4 + 3)
        obtain ⟨hs4, hs5⟩ := hT9.sl
        simp only at hs4 hs5
        obtain ⟨pa, pn, pc, rfl⟩ := hs4
        obtain ⟨qa, qn, qc, rfl⟩ := hs5
        have HPUT := hide hput
        refine hK.out _ _ (HSX.out _ HD9.out) (fun _ => ?_)
        clear hK K hB9 hT9 hput hm9
        try simp only [Act.put, List.setIfInBounds_toArray, List.set_cons_zero, List.set_cons_succ, vagg]
        refine takeD (i := 5) (v := ?v5) (some 28) rfl (by kernel_rfl) (by kernel_rfl) (by kernel_rfl) (fun _ _ _ h => h) (Or.inl ⟨by rfl, ?hy5⟩) (HSX.out _ HD9.out) (by rfl) ?rest5
        case hy5 => first | (intro w hSw; (try dsimp only at hSw); obtain ⟨s0, s1, s2, s3, s4⟩ := hSw; go_simp; done) | (intro w hSw; (try dsimp only at hSw); obtain ⟨s0, s1, s2, s3, s4⟩ := hSw; go_simp; with_reducible rfl)
        try simp only [Act.put, List.setIfInBounds_toArray, List.set_cons_zero, List.set_cons_succ, vagg]
        refine wpAnyH_ready (rs := [6]) (by kernel_rfl) (by simp) ?_
        refine AllReadyH.cons rfl (fun K hK => ?_) AllReadyH.nil
        go_simp
        have HB6 : Hid (BoxC ((((w9.setCell ⟨g, i * 4, none⟩ (.int .i64 yk9)).setCell ⟨g, i * 4 + 1, none⟩ (.string ys9)).setCell ⟨g, i * 4 + 2, none⟩ (.slice pa pn pc)).setCell ⟨g, i * 4 + 3, none⟩ (.slice qa qn qc)) PB 27 #[.int .i64 yk, .string ys', .slice ka' kl' kc', .slice la' ll' lc']) := by
          have hne : PB ≠ g := by have := HGP.out; omega
          exact ((((HNX.out.below HD9.out).other hne _ _).other hne _ _).other hne _ _).other hne _ _
        refine hK.out _ _ ⟨HPUT.out.box.cell 3, HB6.out.cell 0, HB6.out.cell 1, HB6.out.cell 2, HB6.out.cell 3⟩ (fun _ => ?_)
        clear hK K
        try simp only [Act.put, List.setIfInBounds_toArray, List.set_cons_zero, List.set_cons_succ, vagg]
        refine wpAnyH_done (by kernel_rfl) ?_ _
        go_wp2
        go_roundw
        case rel => exact ⟨i1, _, by have := HIL.out; have := HI1.out; omega, by first | rfl | go_num, by rw [← HI1.out]; exact HPUT.out⟩
        case measure => have := HIL.out; have := HI1.out; simp [RowKit.intOf]; omega
      · obtain rfl : i = n := by omega
        have d2 : ¬ (i : Int) < (i : Int) := by omega
        have z0 := hm.box.cell 0
        have z1 := hm.box.cell 1
        have z2 := hm.box.cell 2
        have z3 := hm.box.cell 3
        have x0 := hm.res.cell 0
        have x1 := hm.res.cell 1
        have x2 := hm.res.cell 2
        have x3 := hm.res.cell 3
        simp only [List.getElem?_toArray, List.getElem?_cons_zero, List.getElem?_cons_succ] at z0 z1 z2 z3 x0 x1 x2 x3
        have y0 := hm.res.frozen 0
        have y1 := hm.res.frozen 1
        have y2 := hm.res.frozen 2
        have y3 := hm.res.frozen 3
        have lX := hm.res.lt
        have lV := hm.box.lt
        have HM := hide hm
        clear hlt hi hm
        go_wp2
        refine bodyPost_ret (results_jv rfl rfl (resJ_v HM.out.res (.int .i64 k) (.string s1) (.slice b1 kn d1) (.slice ra i cc))) rfl ?_
        exact ⟨(k, s1, .slice b1 kn d1, .slice ra i cc), rfl, below4 HM.out.low (Nat.le_succ _) _ _ _ _, HM.out.tree HN.out _ _ _ _⟩

end Go.Proofs.YtbdpmpepmjpadaaGreatDoor

namespace Go.Proofs.YtbdpmpepmjpadaaGreatDoor
set_option linter.unusedVariables false
set_option linter.unusedSimpArgs false
set_option maxRecDepth 100000
open Go Go.RowKit Go.Shelf Go.Lib

theorem byt_dig : ∀ x : Fin 256, decide ((0 : Int) ≤ indexByte digS (UInt8.ofNat x.val)) = decide (48 ≤ x.val ∧ x.val ≤ 57) := by decide +kernel
theorem byt_minus : ∀ x : Fin 256, decide ((0 : Int) ≤ indexByte [45] (UInt8.ofNat x.val)) = decide (x.val = 45) := by decide +kernel
theorem byt_zero : ∀ x : Fin 256, decide ((0 : Int) ≤ indexByte [48] (UInt8.ofNat x.val)) = decide (x.val = 48) := by decide +kernel
theorem byt_point : ∀ x : Fin 256, decide ((0 : Int) ≤ indexByte [46] (UInt8.ofNat x.val)) = decide (x.val = 46) := by decide +kernel
theorem byt_e : ∀ x : Fin 256, decide ((0 : Int) ≤ indexByte [101, 69] (UInt8.ofNat x.val)) = decide (x.val = 101 ∨ x.val = 69) := by decide +kernel
theorem nth_byt {T : List Nat} (hT : ∀ x ∈ T, x < 256) (p : Nat) : nth T p < 256 := by
  unfold nth
  rcases Nat.lt_or_ge p T.length with h | h
  · simp only [List.getElem?_eq_getElem h, Option.getD_some]
    exact hT _ (List.getElem_mem h)
  · simp [List.getElem?_eq_none h]
theorem has_dig {T : List Nat} (hT : ∀ x ∈ T, x < 256) (p : Nat) : hasB T p digS = decide (p < T.length ∧ 48 ≤ nth T p ∧ nth T p ≤ 57) := by
  have := byt_dig ⟨nth T p, nth_byt hT p⟩
  simp only at this
  unfold hasB
  rw [this]
  simp
theorem has_minus {T : List Nat} (hT : ∀ x ∈ T, x < 256) (p : Nat) : hasB T p [45] = decide (p < T.length ∧ nth T p = 45) := by
  have := byt_minus ⟨nth T p, nth_byt hT p⟩
  simp only at this
  unfold hasB
  rw [this]
  simp
theorem has_zero {T : List Nat} (hT : ∀ x ∈ T, x < 256) (p : Nat) : hasB T p [48] = decide (p < T.length ∧ nth T p = 48) := by
  have := byt_zero ⟨nth T p, nth_byt hT p⟩
  simp only at this
  unfold hasB
  rw [this]
  simp
theorem has_point {T : List Nat} (hT : ∀ x ∈ T, x < 256) (p : Nat) : hasB T p [46] = decide (p < T.length ∧ nth T p = 46) := by
  have := byt_point ⟨nth T p, nth_byt hT p⟩
  simp only at this
  unfold hasB
  rw [this]
  simp
theorem has_e {T : List Nat} (hT : ∀ x ∈ T, x < 256) (p : Nat) : hasB T p [101, 69] = decide (p < T.length ∧ (nth T p = 101 ∨ nth T p = 69)) := by
  have := byt_e ⟨nth T p, nth_byt hT p⟩
  simp only at this
  unfold hasB
  rw [this]
  simp

/-- What digits spell, behind a number. -/
def valT (acc : Nat) : List Nat → Option Nat
  | [] => some acc
  | c :: r => if 48 ≤ c ∧ c ≤ 57 then valT (acc * 10 + (c - 48)) r else none
/-- Is there a minus ahead? -/
def minusT (T : List Nat) : Bool := decide (0 < T.length ∧ nth T 0 = 45)
/-- What stands behind it. -/
def restT (T : List Nat) : List Nat := if minusT T then T.drop 1 else T
/-- A small whole number's text. -/
def smallT (T : List Nat) : Prop := 1 ≤ (restT T).length ∧ (restT T).length ≤ 9 ∧ ¬ (nth (restT T) 0 = 48 ∧ (1 < (restT T).length ∨ minusT T = true))
instance (T : List Nat) : Decidable (smallT T) := by unfold smallT; infer_instance
def intT (T : List Nat) : Option Int := if smallT T then (valT 0 (restT T)).map (fun u : Nat => if minusT T then -(u : Int) else (u : Int)) else none

theorem valT_all : ∀ (t : List Nat) (acc : Nat), (valT acc t).isSome = true ↔ ∀ p, p < t.length → 48 ≤ nth t p ∧ nth t p ≤ 57
  | [], acc => by simp [valT]
  | c :: r, acc => by
    unfold valT
    constructor
    · intro h p hp
      split at h
      · rename_i hc
        cases p with
        | zero => simpa [nth] using hc
        | succ p =>
          have := (valT_all r _).1 h p (by simpa using hp)
          simpa [nth] using this
      · simp at h
    · intro h
      have h0 := h 0 (by simp)
      simp [nth] at h0
      rw [if_pos h0]
      refine (valT_all r _).2 fun p hp => ?_
      have := h (p + 1) (by simpa using hp)
      simpa [nth] using this

theorem parse_val : ∀ (t : List Nat) (acc : Nat), (∀ x ∈ t, x < 256) → (acc + 1) * 10 ^ t.length ≤ 1000000000 → parseUint10 acc (t.map UInt8.ofNat) = (match valT acc t with | some u => NumEnd.ok u | none => NumEnd.syntax) ∧ ∀ u, valT acc t = some u → u < 1000000000
  | [], acc, _, h => by simp [parseUint10, valT] at h ⊢; omega
  | c :: r, acc, hT, h => by
    have hc : (UInt8.ofNat c).toNat = c := by
      have := hT c (by simp)
      simp; omega
    rw [List.length_cons, Nat.pow_succ] at h
    have hp : 1 ≤ 10 ^ r.length := Nat.one_le_pow _ _ (by decide)
    have hsm : acc + 1 ≤ 100000000 := by
      have : (acc + 1) * 10 ≤ (acc + 1) * (10 ^ r.length * 10) := Nat.mul_le_mul_left _ (by omega)
      omega
    simp only [List.map_cons, parseUint10, valT, hc]
    by_cases hd : 48 ≤ c ∧ c ≤ 57
    · rw [if_pos hd, if_pos hd, if_neg (by omega), if_neg (by omega)]
      refine parse_val r _ (fun x hx => hT x (by simp [hx])) ?_
      have h1 : acc * 10 + (c - 48) + 1 ≤ (acc + 1) * 10 := by omega
      have h2 := Nat.mul_le_mul_right (10 ^ r.length) h1
      have h3 : (acc + 1) * 10 * 10 ^ r.length = (acc + 1) * (10 ^ r.length * 10) := by rw [Nat.mul_assoc, Nat.mul_comm 10]
      omega
    · rw [if_neg hd, if_neg hd]
      simp

theorem restT_length (T : List Nat) : (restT T).length = T.length - (if minusT T then 1 else 0) ∧ ∀ p, nth (restT T) p = nth T (p + (if minusT T then 1 else 0)) := by
  unfold restT
  split
  · refine ⟨by simp, fun p => ?_⟩
    unfold nth
    rw [List.getElem?_drop]
    congr 2
    omega
  · exact ⟨by simp, fun p => rfl⟩
theorem minus_num1 {T : List Nat} (hT : ∀ x ∈ T, x < 256) : num1 T 0 = (if minusT T then 1 else 0) := by
  unfold num1 minusT
  rw [has_minus hT]
theorem rest_lt {T : List Nat} (hT : ∀ x ∈ T, x < 256) : ∀ x ∈ restT T, x < 256 := by
  intro x hx
  unfold restT at hx
  split at hx
  · exact hT x (List.mem_of_mem_drop hx)
  · exact hT x hx

/-- A text of digits is a number, as layer 4 spells one, just if no nought stands ahead. -/
theorem num_of_digits {T : List Nat} (hT : ∀ x ∈ T, x < 256) (hd : ∀ p, p < (restT T).length → 48 ≤ nth (restT T) p ∧ nth (restT T) p ≤ 57) (h1 : 1 ≤ (restT T).length) :
    numEnd T 0 = if nth (restT T) 0 = 48 then ((if minusT T then 1 else 0) + 1, true) else (T.length, true) := by
  obtain ⟨hl, hn⟩ := restT_length T
  generalize hm : (if minusT T then 1 else 0) = m at *
  generalize restT T = t at *
  have hlen : t.length + m = T.length := by omega
  have hdd : ∀ q, m ≤ q → q < T.length → 48 ≤ nth T q ∧ nth T q ≤ 57 := fun q h2 h3 => by
    have := hd (q - m) (by omega)
    rw [hn, show q - m + m = q by omega] at this
    exact this
  unfold numEnd
  rw [minus_num1 hT, hm]
  have h0 := hn 0
  rw [Nat.zero_add] at h0
  have tail : ∀ q, m ≤ q → num4 T (num3 T (q, true)) = (q, true) := fun q hq => by
    have e3 : num3 T (q, true) = (q, true) := by
      unfold num3
      rw [has_point hT, decide_eq_false (fun h => by have := hdd q hq h.1; simp only at h; omega)]
      rfl
    rw [e3]
    unfold num4
    rw [has_e hT, decide_eq_false (fun h => by have := hdd q hq h.1; simp only at h; omega)]
    rfl
  by_cases hz : nth t 0 = 48
  · rw [if_pos hz]
    have e2 : num2 T m = (m + 1, true) := by
      unfold num2
      rw [has_zero hT, decide_eq_true ⟨by omega, by omega⟩]
      rfl
    rw [e2]
    exact tail _ (by omega)
  · rw [if_neg hz]
    have ed : digEnd T m = T.length := digEnd_is (by omega) (fun j h2 h3 => by
      rw [has_dig hT]
      have := hdd j h2 h3
      exact decide_eq_true ⟨h3, this⟩) (by
      rw [has_dig hT]
      exact decide_eq_false (fun h => by omega))
    have e2 : num2 T m = (T.length, true) := by
      unfold num2
      rw [has_zero hT, decide_eq_false (fun h => by omega), ed, decide_eq_true (show m < T.length by omega)]
      rfl
    rw [e2]
    exact tail _ (by omega)

/-- Of a number something stands behind the minus; a plus stands nowhere ahead. -/
theorem num_begins {T : List Nat} (hT : ∀ x ∈ T, x < 256) (h : numEnd T 0 = (T.length, true)) : 1 ≤ (restT T).length ∧ nth T 0 ≠ 43 := by
  obtain ⟨hl, hn⟩ := restT_length T
  generalize hm : (if minusT T then 1 else 0) = m at *
  have key : ∀ q, (num2 T m) = (q, false) → False := fun q e => by
    unfold numEnd at h
    rw [minus_num1 hT, hm, e] at h
    have e3 : num3 T (q, false) = (q, false) := by unfold num3; simp
    have e4 : num4 T (q, false) = (q, false) := by unfold num4; simp
    rw [e3, e4] at h
    simp at h
  have bad : ¬ (m < T.length ∧ 48 ≤ nth T m ∧ nth T m ≤ 57) → False := fun hb => by
    have ed : digEnd T m = m := digEnd_is (Nat.le_refl _) (fun j h2 h3 => by omega) (by rw [has_dig hT]; exact decide_eq_false hb)
    refine key m ?_
    unfold num2
    rw [has_zero hT, decide_eq_false (fun h => hb ⟨h.1, by omega⟩), ed]
    simp
  constructor
  · rcases Nat.lt_or_ge m T.length with h2 | h2
    · omega
    · exact absurd (fun hb : m < T.length ∧ _ => absurd hb.1 (by omega)) bad
  · intro h43
    have hm0 : m = 0 := by
      rw [← hm]
      unfold minusT
      rw [if_neg (by simp; omega)]
    refine bad fun hb => ?_
    rw [hm0] at hb
    omega

theorem map_nats (T : List Nat) (hT : ∀ x ∈ T, x < 256) {c : Nat} {r : List Nat} (h : T = c :: r) : (UInt8.ofNat c).toNat = c := by
  have := hT c (by simp [h])
  simp; omega

/-- strconv.Atoi of such a text. -/
theorem atoi_val {T : List Nat} (hT : ∀ x ∈ T, x < 256) (h1 : 1 ≤ (restT T).length) (h9 : (restT T).length ≤ 9) (h43 : nth T 0 ≠ 43) :
    atoiAll (T.map UInt8.ofNat) = (match valT 0 (restT T) with | some u => NumEnd.ok (if minusT T then -(u : Int) else (u : Int)) | none => NumEnd.syntax) := by
  have hpw : (0 + 1) * 10 ^ (restT T).length ≤ 1000000000 := by
    have := Nat.pow_le_pow_right (show 0 < 10 by omega) h9
    have e : (10 : Nat) ^ 9 = 1000000000 := by decide
    rw [e] at this
    rw [Nat.zero_add, Nat.one_mul]
    exact this
  obtain ⟨hp, hb⟩ := parse_val (restT T) 0 (rest_lt hT) hpw
  have hne : (restT T).map UInt8.ofNat ≠ [] := by
    intro e
    rw [List.map_eq_nil_iff] at e
    rw [e] at h1
    simp at h1
  have hmag : parseMag ((restT T).map UInt8.ofNat) = (match valT 0 (restT T) with | some u => NumEnd.ok u | none => NumEnd.syntax) := by
    unfold parseMag
    rw [if_neg hne]
    exact hp
  match T, hT with
  | [], _ => simp [restT] at h1
  | c :: r, hT =>
    have hc := map_nats _ hT rfl
    rw [List.map_cons]
    by_cases h45 : c = 45
    · subst h45
      have hm : minusT (45 :: r) = true := by simp [minusT, nth]
      have hr : restT (45 :: r) = r := by simp [restT, hm]
      rw [show UInt8.ofNat 45 = 45 from rfl, atoiAll_minus]
      rw [hr] at hmag hb ⊢
      rw [hmag, hm]
      cases hv : valT 0 r with
      | none => rfl
      | some u =>
        have := hb u hv
        simp only [signed]
        rw [if_neg (by omega)]
        simp
    · have hm : minusT (c :: r) = false := by simp [minusT, nth, h45]
      have hr : restT (c :: r) = c :: r := by simp [restT, hm]
      have h43' : c ≠ 43 := by simpa [nth] using h43
      rw [atoiAll_plain _ _ (by rw [hc]; exact h43') (by rw [hc]; exact h45)]
      rw [hr] at hmag hb ⊢
      rw [List.map_cons] at hmag
      rw [hmag, hm]
      cases hv : valT 0 (c :: r) with
      | none => rfl
      | some u =>
        have := hb u hv
        simp only [signless]
        rw [if_neg (by omega)]
        simp

/-- What Int's tests leave: a small whole number has passed them all, and is told. -/
theorem int_some {T : List Nat} (hT : ∀ x ∈ T, x < 256) {v : Int} (h : intT T = some v) : numEnd T 0 = (T.length, true) ∧ T ≠ [45, 48] ∧ (restT T).length ≤ 9 ∧ atoiAll (T.map UInt8.ofNat) = .ok v := by
  unfold intT at h
  split at h
  · rename_i hs
    obtain ⟨h1, h9, h0⟩ := hs
    obtain ⟨u, hu, hv⟩ := Option.map_eq_some_iff.1 h
    have hd := (valT_all (restT T) 0).1 (by rw [hu]; rfl)
    have hnum := num_of_digits hT hd h1
    have hne : T ≠ [45, 48] := by
      rintro rfl
      exact h0 (by decide)
    have hn : numEnd T 0 = (T.length, true) := by
      rw [hnum]
      split
      · rename_i hz
        have hl := (restT_length T).1
        have : (restT T).length = 1 := by
          rcases Nat.lt_or_ge 1 (restT T).length with h | h
          · exact absurd ⟨hz, .inl h⟩ h0
          · omega
        have : T.length = (if minusT T then 1 else 0) + 1 := by omega
        rw [this]
      · rfl
    refine ⟨hn, hne, h9, ?_⟩
    rw [atoi_val hT h1 h9 (num_begins hT hn).2, hu]
    simp only
    rw [hv]
  · cases h
/-- .. and what has passed them and is none is no text of digits. -/
theorem int_none {T : List Nat} (hT : ∀ x ∈ T, x < 256) (h : intT T = none) (hn : numEnd T 0 = (T.length, true)) (hne : T ≠ [45, 48]) (h9 : (restT T).length ≤ 9) : atoiAll (T.map UInt8.ofNat) = .syntax := by
  obtain ⟨h1, h43⟩ := num_begins hT hn
  rw [atoi_val hT h1 h9 h43]
  cases hv : valT 0 (restT T) with
  | none => rfl
  | some u =>
    exfalso
    have hd := (valT_all (restT T) 0).1 (by rw [hv]; rfl)
    have hnum := num_of_digits hT hd h1
    have hl := (restT_length T).1
    have hs : smallT T := by
      refine ⟨h1, h9, fun ⟨hz, hc⟩ => ?_⟩
      rw [if_pos hz, hn] at hnum
      have hTl : T.length = (if minusT T then 1 else 0) + 1 := congrArg Prod.fst hnum
      rcases hc with hc | hc
      · omega
      · rw [hc] at hTl
        simp at hTl
        match T, hTl with
        | [a, b], _ =>
          have ha : a = 45 := by simpa [minusT, nth] using hc
          subst ha
          have hb : b = 48 := by simpa [restT, hc, nth] using hz
          subst hb
          exact hne rfl
    unfold intT at h
    rw [if_pos hs, hv] at h
    simp at h

def digsT (u : Nat) : List Nat := (decDigits u).map (·.toNat)
theorem digs_step {u : Nat} (h : ¬ u < 10) : digsT u = digsT (u / 10) ++ [48 + u % 10] := by
  unfold digsT
  rw [decDigits, dif_neg h, List.map_append]
  have : u % 10 < 10 := Nat.mod_lt _ (by omega)
  simp; omega
theorem digs_one {u : Nat} (h : u < 10) : digsT u = [48 + u] := by
  unfold digsT
  rw [decDigits_one h]
  simp; omega
theorem digs_length : ∀ (k u : Nat), u < 10 ^ (k + 1) → (digsT u).length ≤ k + 1
  | 0, u, h => by rw [digs_one (by simpa using h)]; simp
  | k + 1, u, h => by
    by_cases h10 : u < 10
    · rw [digs_one h10]; simp
    · rw [digs_step h10, List.length_append]
      have := digs_length k (u / 10) (by rw [Nat.pow_succ] at h; omega)
      simp
      omega
/-- A number's text. -/
def itoaT (n : Int) : List Nat := (itoa n).map (·.toNat)
theorem itoaT_eq (n : Int) : itoaT n = if n < 0 then 45 :: digsT n.natAbs else digsT n.toNat := by
  unfold itoaT itoa digsT
  split <;> simp
theorem itoa_str (n : Int) : (⟨(itoa n).toArray⟩ : ByteArray) = strOf (itoaT n) := by
  unfold strOf itoaT
  rw [List.map_map]
  congr 2
  have : (UInt8.ofNat ∘ fun x : UInt8 => x.toNat) = id := by
    funext x
    simp
  rw [this, List.map_id]

def isNumB (T : List Nat) : Bool := decide (numEnd T 0 = (T.length, true))
set_option maxHeartbeats 2000000 in
theorem isNumber_any (w : World) (S : List Nat) (hS : ∀ x ∈ S, x < 256) (hl : S.length ≤ 1000000) :
    Calls Tryz.prog 75 #[.string (strOf S)] w fun e w' => e = .returned (.bool (isNumB S)) ∧ Below w.heap.size w w' := by
  obtain ⟨cp, w1, hcv, hby, hcp, hb1, _⟩ := conv_str w S hS
  have HN := hide (numberEnd_calls w1 _ _ 0 S hby (Nat.zero_le _) (by omega))
  have hle := numEnd_le (T := S) (p := 0) (Nat.zero_le _)
  have HNB : Hid (isNumB S = decide (numEnd S 0 = (S.length, true))) := rfl
  generalize isNumB S = nb at *
  generalize numEnd S 0 = q at *
  obtain ⟨p, b⟩ := q
  simp only at HN hle
  have hsz := strOf_size S
  have HB := hide hb1
  clear hby hcp hb1 hS
  generalize strOf S = s at *
  generalize S.length = n at *
  cases b with
  | false =>
    have HR : Hid (nb = false) := by rw [HNB.out]; exact decide_eq_false (fun e => by cases e)
    clear HNB
    go_enter Tryz.func75, Tryz.ntmps75
    go_wp2_with fail
    refine HN.out.mono ?_
    rintro e w2 ⟨rfl, hw⟩
    rw [hw]
    clear hw
    go_wp2
    go_ret
    exact ⟨by rw [HR.out]; rfl, HB.out⟩
  | true =>
    by_cases hp : p = n
    · have HR : Hid (nb = true) := by rw [HNB.out, hp]; exact decide_eq_true rfl
      subst hp
      clear HNB hle
      have deq : ((p : Int) == (p : Int)) = true := by simp
      go_enter Tryz.func75, Tryz.ntmps75
      go_wp2_with fail
      refine HN.out.mono ?_
      rintro e w2 ⟨rfl, hw⟩
      rw [hw]
      clear hw
      go_wp2
      go_ret
      exact ⟨by rw [HR.out]; rfl, HB.out⟩
    · have HR : Hid (nb = false) := by rw [HNB.out]; exact decide_eq_false (fun e => hp (congrArg Prod.fst e))
      have deq : ((p : Int) == (n : Int)) = false := by simp; omega
      clear HNB hle hp
      go_enter Tryz.func75, Tryz.ntmps75
      go_wp2_with fail
      refine HN.out.mono ?_
      rintro e w2 ⟨rfl, hw⟩
      rw [hw]
      clear hw
      go_wp2
      go_ret
      exact ⟨by rw [HR.out]; rfl, HB.out⟩

/-- What strconv.ErrSyntax holds is an error. -/
def ErrS (w : World) : Prop := ∃ ev, w.cell? ⟨3, 0, none⟩ = some ev ∧ (ev = .nilIface ∨ ∃ te pe, ev = .iface te pe)
theorem ErrS.below {w w' : World} (h : ErrS w) (hb : Below w.heap.size w w') : ErrS w' := by
  obtain ⟨ev, h1, h2⟩ := h
  exact ⟨ev, (hb.cell (p := ⟨3, 0, none⟩) (block_lt h1)).trans h1, h2⟩

/-- What Int answers. -/
def intJ (k : Int) (T : List Nat) : Option Int := if k = 3 then intT T else none
def optV (o : Option Int) : Value := .tuple #[.int .i64 (o.getD 0), .bool o.isSome]
def IntR (k : Int) (T : List Nat) (w : World) (e : Ending) (w' : World) : Prop := e = .returned (optV (intJ k T)) ∧ Below w.heap.size w w'

theorem trim_size {T : List Nat} (hT : ∀ x ∈ T, x < 256) : (⟨(Lib.trimPrefix (strOf T).data.toList [45]).toArray⟩ : ByteArray).size = (restT T).length := by
  show (Lib.trimPrefix (strOf T).data.toList [45]).toArray.size = _
  rw [strOf_list, List.size_toArray]
  unfold Lib.trimPrefix Lib.hasPrefix restT
  cases T with
  | nil => rfl
  | cons c r =>
    have hc := map_nats (c :: r) hT rfl
    by_cases h : c = 45
    · subst h
      have hm : minusT (45 :: r) = true := by simp [minusT, nth]
      rw [hm]
      simp
    · have hm : minusT (c :: r) = false := by simp [minusT, nth, h]
      have hne : ((45 : UInt8) == UInt8.ofNat c) = false := by
        rw [beq_eq_false_iff_ne]
        intro e
        apply h
        have := congrArg UInt8.toNat e
        rw [hc] at this
        exact this.symm
      rw [hm]
      simp [List.isPrefixOf, hne]

set_option maxHeartbeats 8000000 in
theorem jint_any (w : World) (k : Int) (T : List Nat) (hT : ∀ x ∈ T, x < 256) (hl : T.length ≤ 100000) (ka la : Option Addr) (kn kc ln lc : Nat) (hE : ErrS w) :
    Calls Tryz.prog 52 #[vagg (k, strOf T, .slice ka kn kc, .slice la ln lc)] w (IntR k T w) := by
  unfold vagg
  simp only
  have hb1 := bel w (.cells #[.int .i64 k, .string (strOf T), .slice ka kn kc, .slice la ln lc] 27)
  have hx1 := BoxC.new w 27 #[.int .i64 k, .string (strOf T), .slice ka kn kc, .slice la ln lc]
  obtain ⟨w1, hw1⟩ : ∃ w1, w.alloc (.cells #[.int .i64 k, .string (strOf T), .slice ka kn kc, .slice la ln lc] 27) = w1 := ⟨_, rfl⟩
  rw [hw1] at hb1 hx1
  have HN := hide (isNumber_any w1 T hT (by omega))
  have HTR := hide (fun W => Tryz.strings_TrimPrefix (strOf T) ⟨#[45]⟩ W)
  have HTS : Hid ((⟨(Lib.trimPrefix (strOf T).data.toList (⟨#[45]⟩ : ByteArray).data.toList).toArray⟩ : ByteArray).size = (restT T).length) := trim_size hT
  have hsz := strOf_size T
  have HOK := hide (fun v (h : intT T = some v) W => Tryz.strconv_Atoi_ok (strOf T) (by omega) v (by rw [strOf_list]; exact (int_some hT h).2.2.2) W)
  have HSY := hide (fun (h : intT T = none) (hn : numEnd T 0 = (T.length, true)) (hne : T ≠ [45, 48]) (h9 : (restT T).length ≤ 9) => Tryz.strconv_Atoi_syntax (strOf T) (by omega) (by rw [strOf_list]; exact int_none hT h hn hne h9))
  have HSO := hide (fun v (h : intT T = some v) => int_some hT h)
  have hzz : ((strOf T).toList == (strOf [45, 48]).toList) = decide (T = [45, 48]) := str_eq hT (by decide)
  rw [show (strOf [45, 48]).toList = [45, 48] by rw [toList_data, strOf_list]; rfl] at hzz
  have HZZ := hide hzz
  have HNB : Hid (isNumB T = decide (numEnd T 0 = (T.length, true))) := rfl
  generalize strOf T = s at *
  generalize (⟨(Lib.trimPrefix s.data.toList (⟨#[45]⟩ : ByteArray).data.toList).toArray⟩ : ByteArray) = tr at *
  have HW1 := hide hw1
  have HB1 := hide hb1
  have HX1 := hide hx1
  have v0 : w1.cell? ⟨w.heap.size, 0, none⟩ = some (.int .i64 k) := hx1.cell 0
  have v1 : w1.cell? ⟨w.heap.size, 1, none⟩ = some (.string s) := hx1.cell 1
  have HE := hide (hE.below hb1)
  clear hb1 hx1 hw1 hE hT hzz
  by_cases h3 : k = 3
  rotate_left
  · have d3 : (k == 3) = false := by simpa using h3
    have d3' : (k != 3) = true := by simpa using h3
    have HR : Hid (intJ k T = none) := if_neg h3
    clear h3
    go_enter Tryz.func52, Tryz.ntmps52
    go_upto_region 1 with fail
    rw [HW1.out]
    clear HW1
    go_wp2
    go_ret2
    refine ⟨?_, HB1.out⟩
    rw [HR.out]
    rfl
  subst h3
  have HJ : Hid (intJ 3 T = intT T) := if_pos rfl
  cases hn : isNumB T with
  | false =>
    rw [hn] at HN
    have HR : Hid (intJ 3 T = none) := by
      rw [HNB.out] at hn
      rw [Hid, HJ.out]
      cases hi : intT T with
      | none => rfl
      | some v => exact absurd (HSO.out v hi).1 (of_decide_eq_false hn)
    clear hn
    go_enter Tryz.func52, Tryz.ntmps52
    go_upto_region 1 with fail
    rw [HW1.out]
    clear HW1
    go_wp2_with fail
    refine HN.out.mono ?_
    rintro e w2 ⟨rfl, hb2⟩
    have HB2 := hide (HB1.out.trans (hb2.mono HB1.out.size))
    have v1 : w2.cell? ⟨w.heap.size, 1, none⟩ = some (.string s) := (HX1.out.below hb2).cell 1
    clear hb2
    go_wp2
    go_ret2
    refine ⟨?_, HB2.out⟩
    rw [HR.out]
    rfl
  | true =>
    rw [hn] at HN
    have hnt : numEnd T 0 = (T.length, true) := by rw [HNB.out] at hn; exact of_decide_eq_true hn
    have HNT := hide hnt
    clear hn hnt
    by_cases hz : T = [45, 48]
    · have deq : (s.toList == [45, 48]) = true := by rw [HZZ.out]; exact decide_eq_true hz
      have HR : Hid (intJ 3 T = none) := by
        rw [Hid, HJ.out]
        cases hi : intT T with
        | none => rfl
        | some v => exact absurd hz (HSO.out v hi).2.1
      clear hz
      go_enter Tryz.func52, Tryz.ntmps52
      go_upto_region 1 with fail
      rw [HW1.out]
      clear HW1
      go_wp2_with fail
      refine HN.out.mono ?_
      rintro e w2 ⟨rfl, hb2⟩
      have HB2 := hide (HB1.out.trans (hb2.mono HB1.out.size))
      have v1 : w2.cell? ⟨w.heap.size, 1, none⟩ = some (.string s) := (HX1.out.below hb2).cell 1
      clear hb2
      go_wp2
      go_ret2
      refine ⟨?_, HB2.out⟩
      rw [HR.out]
      rfl
    · have deq : (s.toList == [45, 48]) = false := by rw [HZZ.out]; exact decide_eq_false hz
      have HZ := hide hz
      clear hz
      obtain ⟨rn, hrn⟩ : ∃ rn, (restT T).length = rn := ⟨_, rfl⟩
      have hts : tr.size = rn := by rw [HTS.out, hrn]
      have HRN := hide hrn
      clear hrn
      go_enter Tryz.func52, Tryz.ntmps52
      go_upto_region 1 with fail
      rw [HW1.out]
      clear HW1
      go_wp2_with fail
      refine HN.out.mono ?_
      rintro e w2 ⟨rfl, hb2⟩
      have HB2 := hide (HB1.out.trans (hb2.mono HB1.out.size))
      have HX2 := hide (HX1.out.below hb2)
      have HE2 := hide (HE.out.below hb2)
      have v1 : w2.cell? ⟨w.heap.size, 1, none⟩ = some (.string s) := HX2.out.cell 1
      clear hb2
      go_wp2_with fail
      refine (HTR.out w2).mono ?_
      rintro e w3 ⟨rfl, hw⟩
      rw [hw]
      clear hw
      by_cases h9 : rn ≤ 9
      rotate_left
      · have d9 : (rn : Int) > 9 := by omega
        have HR : Hid (intJ 3 T = none) := by
          rw [Hid, HJ.out]
          cases hi : intT T with
          | none => rfl
          | some v => exact absurd (by have := (HSO.out v hi).2.2.1; have := HRN.out; omega) h9
        clear h9
        go_wp2
        go_ret2
        refine ⟨?_, HB2.out⟩
        rw [HR.out]
        rfl
      · have d9 : ¬ (rn : Int) > 9 := by omega
        have H9 := hide h9
        clear h9
        cases hi : intT T with
        | some v =>
          have HC := hide (HOK.out v hi w2)
          have HR : Hid (intJ 3 T = some v) := by rw [Hid, HJ.out, hi]
          clear hi
          go_wp2_with fail
          refine HC.out.mono ?_
          rintro e w4 ⟨rfl, hw4⟩
          have hb4 : Below w2.heap.size w2 w4 := by
            rcases hw4 with rfl | ⟨t, rfl⟩
            · exact Below.refl _ _
            · exact Lib.bytesWorld_below _ _ _
          have HB4 := hide (HB2.out.trans (hb4.mono HB2.out.size))
          clear hb4 hw4 v1
          go_wp2
          go_ret2
          refine ⟨?_, HB4.out⟩
          rw [HR.out]
          rfl
        | none =>
          obtain ⟨ev, hev1, hev2⟩ := HE2.out
          have HC := hide (HSY.out hi HNT.out HZ.out (by have := HRN.out; have := H9.out; omega) ev w2 hev1 hev2)
          have HR : Hid (intJ 3 T = none) := by rw [Hid, HJ.out, hi]
          clear hi hev1 hev2
          go_wp2_with fail
          refine HC.out.mono ?_
          rintro e w4 ⟨N, rfl, _, _, hb4⟩
          have HB4 := hide (HB2.out.trans (hb4.mono HB2.out.size))
          clear hb4 v1
          go_wp2
          go_ret2
          refine ⟨?_, HB4.out⟩
          rw [HR.out]
          rfl

end Go.Proofs.YtbdpmpepmjpadaaGreatDoor
