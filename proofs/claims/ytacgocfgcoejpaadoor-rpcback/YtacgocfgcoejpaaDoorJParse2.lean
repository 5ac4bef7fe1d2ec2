/- Json: Parse, of an array of numbers. -/
import Derived.Test.YtacgocfgcoejpaaDoorJParse
namespace Go.Proofs.YtacgocfgcoejpaaDoor
set_option linter.unusedVariables false
set_option linter.unusedSimpArgs false
set_option maxRecDepth 100000
open Go Go.RowKit Go.Shelf Go.Lib

set_option maxHeartbeats 1000000 in
theorem parse1_ret (w : World) (A B C : Addr) :
    CallsD Tryd.prog 23 #[.pointer (some A), .pointer (some B), .pointer (some C)] .returning w fun n u' w' => n = .returned (.tuple #[]) ∧ u' = .returning ∧ w' = w := by
  refine callsD_of_wpS Tryd.func23 rfl fun c₀ cs hu => ?_
  apply wpS_seq
  apply wpS_region
  simp [wpOpsS, go_sem, recoverD, hu, Tryd.ntmps23, Exit.thenS]
  refine wpS_of_wp ?_
  simp only [Array.replicate_succ, Array.replicate_zero, List.push_toArray, List.append_toArray, List.nil_append, List.cons_append, List.setIfInBounds_toArray, List.set_cons_zero, List.set_cons_succ]
  go_wp2
  show bodyPostS Tryd.prog Tryd.f23 c₀ cs _ _ _ _ _
  cases c₀
  simp at hu
  subst hu
  exact ⟨rfl, _, rfl, .tuple #[], results_none rfl _ _ _, rfl, rfl, rfl⟩

def valG (T : List Nat) (q : Nat) : Option VR := if q ≤ T.length then valN T q else none
theorem arr_calls (w : World) (R p d : Nat) (ao : Option Addr) (cap : Nat) (T : List Nat) (hr : RdJ w R (.slice ao T.length cap) p d) (hT : TxJ w R ao cap T) (hp : p ≤ T.length) (N : Nat) (r : AR) (hN : arrF (valG T) T N p [] = some r) :
    Calls Tryd.prog 46 #[.pointer (some ⟨R, 0, none⟩)] w (ArrJ r w R (.slice ao T.length cap) d) :=
  array_calls (valG T) w R p d ao cap T hr hT hp (fun W q r h hq hr hT => value_num W R q d ao cap T r (by unfold valG at h; rw [if_pos hq] at h; exact h) hr hT hq) (okN T) N r hN

theorem results_p3 {fn : Func} {i j k : Tmp} (h : fn.results = #[.cell i 25, .cell j 3, .cell k 29]) {tmps : Array Value} {W : World} {A : Nat} {x y z u pv ev : Value} (hi : tmps.getD i undef = .pointer (some ⟨A, 0, none⟩)) (hj : tmps.getD j undef = .pointer (some ⟨A + 1, 0, none⟩)) (hk : tmps.getD k undef = .pointer (some ⟨A + 1 + 1, 0, none⟩)) (T : ResJ W A x y z u pv ev) :
    (results fn tmps).run Tryd.prog W = .ok (.tuple #[.agg #[x, y, z, u], pv, ev]) W := by
  have c0 : W.cell? ⟨A, 0, none⟩ = some x := T.v.cell 0
  have c1 : W.cell? ⟨A, 1, none⟩ = some y := T.v.cell 1
  have c2 : W.cell? ⟨A, 2, none⟩ = some z := T.v.cell 2
  have c3 : W.cell? ⟨A, 3, none⟩ = some u := T.v.cell 3
  have c4 : W.cell? ⟨A + 1, 0, none⟩ = some pv := T.p.cell 0
  have c5 : W.cell? ⟨A + 1 + 1, 0, none⟩ = some ev := T.e.cell 0
  have hi' : tmps[i]?.getD undef = .pointer (some ⟨A, 0, none⟩) := by simpa using hi
  have hj' : tmps[j]?.getD undef = .pointer (some ⟨A + 1, 0, none⟩) := by simpa using hj
  have hk' : tmps[k]?.getD undef = .pointer (some ⟨A + 1 + 1, 0, none⟩) := by simpa using hk
  simp [results, h, hi', hj', hk', go_sem, c0, c1, c2, c3, c4, c5]

/-- What Parse answers: of an array of numbers, what is behind it being nothing. -/
def ParR (T : List Nat) (r : AR) (n₀ : Nat) (e : Ending) (w' : World) : Prop := match r with
  | .bad p n => e = .returned (.tuple #[.agg #[.int .i64 0, .string ⟨#[]⟩, .slice none 0 0, .slice none 0 0], .int .i64 (p : Int), .int .i64 n])
  | .ok M p => ∃ lv, e = .returned (.tuple #[vagg (5, ⟨#[]⟩, .slice none 0 0, lv), .int .i64 0, .int .i64 0]) ∧ OwnV n₀ w' lv M ∧ M.length ≤ 1000000

set_option maxHeartbeats 4000000 in
theorem parse_calls (w : World) (ao : Option Addr) (cap : Nat) (T : List Nat) (N F : Nat) (r : AR) (h : Byts w (.slice ao T.length cap) T) (hU : Utf8Tabs 0 1 w) (h1 : ∀ k, k < N → posL T k < T.length) (h2 : posL T N = T.length) (hv : ∀ k, k < N → runeAt T (posL T k) ≠ -1) (hlen : T.length ≤ 1000000) (hcap : T.length ≤ cap)
    (hb : blEnd T 0 < T.length) (hc : nth T (blEnd T 0) = 91) (hF : arrF (valG T) T F (blEnd T 0 + 1) [] = some r) (hend : ∀ M q, r = .ok M q → blEnd T q = T.length ∧ q ≤ T.length) :
    Calls Tryd.prog 9 #[.slice ao T.length cap] w fun e w' => ParR T r w.heap.size e w' ∧ Below w.heap.size w w' := by
  have hmf : ∀ (fn : Fn) (first cap : Array Value) (w : World), (Instr.makeFunc fn first cap).run Tryd.prog w = .ok (.func fn first cap) w := fun _ _ _ _ => rfl
  have hb0 : Below w.heap.size w (((w.alloc (.cells jv0 25)).alloc (.cells #[.int .i64 0] 3)).alloc (.cells #[.int .i64 0] 29)) := ((bel w _).alloc (by simp) _).alloc (by simp; omega) _
  have hv0 := ((BoxC.new w 25 jv0).alloc (.cells #[.int .i64 0] 3)).alloc (.cells #[.int .i64 0] 29)
  have hp0 := (BoxC.new (w.alloc (.cells jv0 25)) 3 #[.int .i64 0]).alloc (.cells #[.int .i64 0] 29)
  have he0 := BoxC.new ((w.alloc (.cells jv0 25)).alloc (.cells #[.int .i64 0] 3)) 29 #[.int .i64 0]
  rw [World.size_alloc] at hp0
  rw [World.size_alloc, World.size_alloc] at he0
  unfold jv0 at hb0 hv0 hp0 he0
  have hR0 : ResJ _ w.heap.size (.int .i64 0) (.string ⟨#[]⟩) (.slice none 0 0) (.slice none 0 0) (.int .i64 0) (.int .i64 0) := ⟨hv0, hp0, he0⟩
  have hs0 : (((w.alloc (.cells #[.int .i64 0, .string ⟨#[]⟩, .slice none 0 0, .slice none 0 0] 25)).alloc (.cells #[.int .i64 0] 3)).alloc (.cells #[.int .i64 0] 29)).heap.size = w.heap.size + 3 := by simp
  generalize hw0 : ((w.alloc (.cells #[.int .i64 0, .string ⟨#[]⟩, .slice none 0 0, .slice none 0 0] 25)).alloc (.cells #[.int .i64 0] 3)).alloc (.cells #[.int .i64 0] 29) = w0 at *
  have HVC := hide (valid_calls w0 ao cap T N (h.below hb0) (Utf8Tabs_below hU hb0) h1 h2 (by omega) hcap)
  have HR0 := hide hR0
  have HB0 := hide hb0
  have HS0 := hide hs0
  have HW0 := hide hw0
  have HH := hide h
  have HV := hide hv
  have HF := hide hF
  have HE := hide hend
  have HLN := hide hlen
  have HCP := hide hcap
  have HBB := hide hb
  have HCC := hide hc
  clear hb0 hv0 hp0 he0 hR0 hs0 hw0 h hU h1 h2 hv hlen hcap hb hc hF hend
  go_enter_defers Tryd.func9, Tryd.ntmps9
  go_wp2_with fail
  rw [HW0.out]
  clear HW0
  refine HVC.out.mono ?_
  rintro e w1 ⟨at', er, rfl, hTold, hB1⟩
  have ht : at' = 0 ∧ er = 0 := by
    rcases hTold with ⟨k, hk, _, hx, _⟩ | ⟨_, ha, he⟩
    · exact absurd hx (HV.out k hk)
    · exact ⟨ha, he⟩
  obtain ⟨rfl, rfl⟩ := ht
  have hB1' := hB1
  have hR1 := (⟨HR0.out.v.below hB1, HR0.out.p.below hB1, HR0.out.e.below hB1⟩ : ResJ w1 w.heap.size _ _ _ _ _ _)
  have hb2 := bel w1 (.cells #[.slice ao T.length cap, .int .i64 0, .int .i64 0] 64)
  have hr2 : RdJ (w1.alloc (.cells #[.slice ao T.length cap, .int .i64 0, .int .i64 0] 64)) w1.heap.size (.slice ao T.length cap) 0 0 := BoxC.new w1 64 #[.slice ao T.length cap, .int .i64 0, .int .i64 0]
  have hR2 := (⟨hR1.v.below hb2, hR1.p.below hb2, hR1.e.below hb2⟩ : ResJ (w1.alloc (.cells #[.slice ao T.length cap, .int .i64 0, .int .i64 0] 64)) w.heap.size _ _ _ _ _ _)
  have hB2 : Below w.heap.size w (w1.alloc (.cells #[.slice ao T.length cap, .int .i64 0, .int .i64 0] 64)) := (HB0.out.trans (hB1.mono HB0.out.size)).trans (hb2.mono (Nat.le_trans HB0.out.size hB1.size))
  have hlt : w.heap.size + 1 + 1 < w1.heap.size := hR1.e.lt
  have hT2 : TxJ (w1.alloc (.cells #[.slice ao T.length cap, .int .i64 0, .int .i64 0] 64)) w1.heap.size ao cap T := by
    refine ⟨HH.out.below hB2, fun a e => ?_, HLN.out, HCP.out⟩
    obtain ⟨ao', c', e', _, hx⟩ := HH.out
    cases e'
    have hpos := HBB.out
    obtain ⟨b, off, e2, hx⟩ := hx 0 (by omega)
    rw [e] at e2
    cases e2
    have := block_lt hx
    have := hlt
    show b ≠ _
    omega
  generalize hw2 : w1.alloc (.cells #[.slice ao T.length cap, .int .i64 0, .int .i64 0] 64) = w2 at *
  generalize hRR : w1.heap.size = R at *
  have HW2 := hide hw2
  have HRR := hide hRR
  have HVA := hide (value_arr w2 R 0 0 ao cap T r hr2 hT2 (Nat.zero_le _) HBB.out HCC.out (by omega) (fun W hr hT => arr_calls W R _ _ ao cap T hr hT HBB.out F r HF.out))
  have HR2 := hide hR2
  have HB2 := hide hB2
  have HT2 := hide hT2
  have HLT := hide hlt
  have HRL := hide hr2.lt
  clear hB1 hB1' hR1 hb2 hr2 hR2 hB2 hlt hT2 hw2 hRR HR0 HVC HS0 hTold HB0
  go_wp2_with fail
  rw [HW2.out, HRR.out]
  clear HW2 HRR
  refine HVA.out.mono ?_
  intro e w3 hE
  cases r with
  | bad z e0 =>
    obtain ⟨he, hf⟩ := hE
    have HF3 := hide hf
    have n1 : w.heap.size ≠ R := by have := HLT.out; omega
    have n2 : w.heap.size + 1 ≠ R := by have := HLT.out; omega
    have n3 : w.heap.size + 1 + 1 ≠ R := by have := HLT.out; omega
    have HR3 := hide (⟨HR2.out.v.fr hf n1 (by simp), HR2.out.p.fr hf n2 (by simp), HR2.out.e.fr hf n3 (by simp)⟩ : ResJ w3 w.heap.size _ _ _ _ _ _)
    have HB3 : Hid (Below w.heap.size w w3) := HB2.out.trans (hf.below (by have := HLT.out; omega) (fun k e => by cases e) HB2.out.size)
    rw [show e = _ from he]
    clear he hf
    go_wp2
    refine leaves_cons (f := 23) (args := #[.pointer (some ⟨w.heap.size, 0, none⟩), .pointer (some ⟨w.heap.size + 1, 0, none⟩), .pointer (some ⟨w.heap.size + 1 + 1, 0, none⟩)]) (by simp) (by simp [go_sem]) ?_
    refine (parse1_pan w3 w.heap.size z e0 _ _ _ _ _ _ [] HR3.out).mono ?_
    rintro e u' w4 ⟨rfl, rfl, hR4, hB4⟩
    show Leaves _ _ _ _ [] .returning _
    exact ⟨_, results_p3 rfl rfl rfl rfl hR4, rfl, HB3.out.trans (hB4 _ (Nat.le_refl _) HB3.out.size)⟩
  | ok M z =>
    obtain ⟨lv, rfl, ho, hm, hr3, hf⟩ := hE
    obtain ⟨va, vn, vc, rfl⟩ := ho.slice
    unfold vagg
    obtain ⟨hz1, hz2⟩ := HE.out M z rfl
    have n1 : w.heap.size ≠ R := by have := HLT.out; omega
    have n2 : w.heap.size + 1 ≠ R := by have := HLT.out; omega
    have n3 : w.heap.size + 1 + 1 ≠ R := by have := HLT.out; omega
    have hR3 := (⟨HR2.out.v.fr hf n1 (by simp), HR2.out.p.fr hf n2 (by simp), HR2.out.e.fr hf n3 (by simp)⟩ : ResJ w3 w.heap.size _ _ _ _ _ _)
    have hT3 := HT2.out.fr hf
    have hB3 : Below w.heap.size w w3 := HB2.out.trans (hf.below (by have := HLT.out; omega) (fun k e => by cases e) HB2.out.size)
    have hle2 : w.heap.size + 1 + 1 < w2.heap.size := HR2.out.e.lt
    have hox : (Value.slice va vn vc).ownBlock ≠ some w.heap.size := fun e => by have := (ho.lt _ e).1; omega
    have hox1 : (Value.slice va vn vc).ownBlock ≠ some (w.heap.size + 1) := fun e => by have := (ho.lt _ e).1; omega
    have hox2 : (Value.slice va vn vc).ownBlock ≠ some (w.heap.size + 1 + 1) := fun e => by have := (ho.lt _ e).1; omega
    have a0 := hR3.v.cell 0
    have a1 := hR3.v.cell 1
    have a2 := hR3.v.cell 2
    have a3 := hR3.v.cell 3
    simp only [List.getElem?_toArray, List.getElem?_cons_zero, List.getElem?_cons_succ, Nat.reduceAdd] at a0 a1 a2 a3
    have f0 := hR3.v.frozen 0
    have f1 := hR3.v.frozen 1
    have f2 := hR3.v.frozen 2
    have f3 := hR3.v.frozen 3
    have lA := hR3.v.lt
    have hv4 := resJ_v hR3.v (.int .i64 5) (.string ⟨#[]⟩) (.slice none 0 0) (.slice va vn vc)
    have hp4 := box_off4 hR3.p (show w.heap.size + 1 ≠ w.heap.size by omega) (.int .i64 5) (.string ⟨#[]⟩) (.slice none 0 0) (.slice va vn vc)
    have he4 := box_off4 hR3.e (show w.heap.size + 1 + 1 ≠ w.heap.size by omega) (.int .i64 5) (.string ⟨#[]⟩) (.slice none 0 0) (.slice va vn vc)
    have hr4 := box_off4 hr3 n1.symm (.int .i64 5) (.string ⟨#[]⟩) (.slice none 0 0) (.slice va vn vc)
    have ho4 := (((ho.set hox (i := 0) (x := .int .i64 5)).set hox (i := 1) (x := .string ⟨#[]⟩)).set hox (i := 2) (x := .slice none 0 0)).set hox (i := 3) (x := .slice va vn vc)
    have hB4 : Below w.heap.size w ((((w3.setCell ⟨w.heap.size, 0, none⟩ (.int .i64 5)).setCell ⟨w.heap.size, 1, none⟩ (.string ⟨#[]⟩)).setCell ⟨w.heap.size, 2, none⟩ (.slice none 0 0)).setCell ⟨w.heap.size, 3, none⟩ (.slice va vn vc)) :=
      (((hB3.setCell (p := ⟨w.heap.size, 0, none⟩) (Nat.le_refl _) _).setCell (p := ⟨w.heap.size, 1, none⟩) (Nat.le_refl _) _).setCell (p := ⟨w.heap.size, 2, none⟩) (Nat.le_refl _) _).setCell (p := ⟨w.heap.size, 3, none⟩) (Nat.le_refl _) _
    have hT4 : TxJ ((((w3.setCell ⟨w.heap.size, 0, none⟩ (.int .i64 5)).setCell ⟨w.heap.size, 1, none⟩ (.string ⟨#[]⟩)).setCell ⟨w.heap.size, 2, none⟩ (.slice none 0 0)).setCell ⟨w.heap.size, 3, none⟩ (.slice va vn vc)) R ao cap T := ⟨HH.out.below hB4, hT3.off, hT3.len, hT3.cap⟩
    generalize hw4 : (((w3.setCell ⟨w.heap.size, 0, none⟩ (.int .i64 5)).setCell ⟨w.heap.size, 1, none⟩ (.string ⟨#[]⟩)).setCell ⟨w.heap.size, 2, none⟩ (.slice none 0 0)).setCell ⟨w.heap.size, 3, none⟩ (.slice va vn vc) = w4 at *
    have HW4 := hide hw4
    have HSK := hide (skipBlanks_calls w4 R z 0 ao cap T hr4 hT4 hz2)
    rw [hz1] at HSK
    have HV4 := hide hv4
    have HP4 := hide hp4
    have HE4 := hide he4
    have HO4 := hide ho4
    have HB4 := hide hB4
    have HM := hide hm
    have HOX := hide hox
    have HOX1 := hide hox1
    have HOX2 := hide hox2
    clear ho hm hr3 hf hR3 hT3 hB3 hle2 hv4 hp4 he4 hr4 ho4 hB4 hT4 hw4 hz1 hz2 hox hox1 hox2 HR2 HB2 HT2 n1 n2 n3
    go_wp2_with fail
    rw [HW4.out]
    clear HW4 a0 a1 a2 a3 f0 f1 f2 f3 lA
    refine HSK.out.mono ?_
    rintro e w5 ⟨rfl, hr5, _, hf5⟩
    have n1 : w.heap.size ≠ R := by have := HLT.out; omega
    have n2 : w.heap.size + 1 ≠ R := by have := HLT.out; omega
    have n3 : w.heap.size + 1 + 1 ≠ R := by have := HLT.out; omega
    have hv5 := HV4.out.fr hf5 n1 (by simp)
    have hp5 := HP4.out.fr hf5 n2 (by simp)
    have he5 := HE4.out.fr hf5 n3 (by simp)
    have ho5 := HO4.out.keep (fun j e => hf5.block (HO4.out.lt j e).2 (fun q => by have := (HO4.out.lt j e).1; have := HRL.out; omega) (by simp))
    have hB5 := HB4.out.trans (hf5.below (by have := HLT.out; omega) (fun k e => by cases e) HB4.out.size)
    have c1 : w5.cell? ⟨R, 1, none⟩ = some (.int .i64 (T.length : Int)) := hr5.cell 1
    have lR := hr5.lt
    have a0 := hv5.cell 0
    have a1 := hv5.cell 1
    have a2 := hv5.cell 2
    have a3 := hv5.cell 3
    have b0 := hp5.cell 0
    have b1 := he5.cell 0
    simp only [List.getElem?_toArray, List.getElem?_cons_zero, List.getElem?_cons_succ, Nat.reduceAdd] at a0 a1 a2 a3 b0 b1
    have f0 := hv5.frozen 0
    have f1 := hv5.frozen 1
    have f2 := hv5.frozen 2
    have f3 := hv5.frozen 3
    have f4 := hp5.frozen 0
    have f5 := he5.frozen 0
    have lA := hv5.lt
    have dlt : ¬ (T.length : Int) < (T.length : Int) := by omega
    have HR5 : Hid (ResJ w5 w.heap.size (.int .i64 5) (.string ⟨#[]⟩) (.slice none 0 0) (.slice va vn vc) (.int .i64 0) (.int .i64 0)) := ⟨hv5, hp5, he5⟩
    have HO5 := hide (ho5.mono (show w.heap.size ≤ w2.heap.size by have := HRL.out; have := HLT.out; omega))
    have HB5 := hide hB5
    clear hr5 hf5 hv5 hp5 he5 ho5 hB5 HV4 HP4 HE4 HO4 HB4 n1 n2 n3 HSK
    go_wp2
    have HR6 := resJ_put HR5.out (.int .i64 5) (.string ⟨#[]⟩) (.slice none 0 0) (.slice va vn vc) (.int .i64 0) (.int .i64 0)
    have HB6 := below_put HB5.out (Nat.le_refl _) (.int .i64 5) (.string ⟨#[]⟩) (.slice none 0 0) (.slice va vn vc) (.int .i64 0) (.int .i64 0)
    have HO6 := (((((HO5.out.set HOX.out (i := 0) (x := .int .i64 5)).set HOX.out (i := 1) (x := .string ⟨#[]⟩)).set HOX.out (i := 2) (x := .slice none 0 0)).set HOX.out (i := 3) (x := .slice va vn vc)).set HOX1.out (i := 0) (x := .int .i64 0)).set HOX2.out (i := 0) (x := .int .i64 0)
    refine leaves_cons (f := 23) (args := #[.pointer (some ⟨w.heap.size, 0, none⟩), .pointer (some ⟨w.heap.size + 1, 0, none⟩), .pointer (some ⟨w.heap.size + 1 + 1, 0, none⟩)]) (by simp) (by simp [go_sem]) ?_
    refine (parse1_ret _ _ _ _).mono ?_
    rintro e u' w6 ⟨rfl, rfl, hw6⟩
    rw [hw6]
    clear hw6
    show Leaves _ _ _ _ [] .returning _
    exact ⟨_, results_p3 rfl rfl rfl rfl HR6, ⟨_, rfl, HO6, HM.out⟩, HB6⟩

end Go.Proofs.YtacgocfgcoejpaaDoor
