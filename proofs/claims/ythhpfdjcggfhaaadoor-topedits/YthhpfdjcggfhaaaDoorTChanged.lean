/- A text behind a change. -/
import Derived.Test.YthhpfdjcggfhaaaDoorTEdit
import Derived.Test.YthhpfdjcggfhaaaDoorTClone
import Derived.Test.YthhpfdjcggfhaaaDoorTMoved
import Derived.StillTailTactics
import Derived.Deep.RegionHeld3
namespace Go.Proofs.YthhpfdjcggfhaaaDoor
set_option linter.unusedVariables false
set_option linter.unusedSimpArgs false
set_option maxRecDepth 100000
open Go Go.RowKit Go.Shelf Go.Lib

theorem results_changed {fn : Func} {i j k : Tmp} (h : fn.results = #[.cell i 40, .cell j 66, .tmp k]) {tmps : Array Value} {W : World} {b c : Nat} {x y p q r : Value} {t s : TypeId} {ev : Value} (hp : tmps.getD i undef = .pointer (some ⟨b, 0, none⟩)) (hq : tmps.getD j undef = .pointer (some ⟨c, 0, none⟩)) (he : tmps.getD k undef = ev) (T : BoxC W b t #[x, y]) (S : BoxC W c s #[p, q, r]) :
    (results fn tmps).run Tryd.prog W = .ok (.tuple #[.agg #[x, y], .agg #[p, q, r], ev]) W := by
  have c0 : W.cell? ⟨b, 0, none⟩ = some x := T.cell 0
  have c1 : W.cell? ⟨b, 1, none⟩ = some y := T.cell 1
  have d0 : W.cell? ⟨c, 0, none⟩ = some p := S.cell 0
  have d1 : W.cell? ⟨c, 1, none⟩ = some q := S.cell 1
  have d2 : W.cell? ⟨c, 2, none⟩ = some r := S.cell 2
  have hp' : tmps[i]?.getD undef = .pointer (some ⟨b, 0, none⟩) := by simpa using hp
  have hq' : tmps[j]?.getD undef = .pointer (some ⟨c, 0, none⟩) := by simpa using hq
  have he' : tmps[k]?.getD undef = ev := by simpa using he
  simp [results, h, hp', hq', he', go_sem, c0, c1, d0, d1, d2]

theorem Byts.part {W : World} {b off cap c : Nat} {T : List Nat} (h : Byts W (.slice (some ⟨b, off, none⟩) T.length cap) T) {g n : Nat} (hg : g + n ≤ T.length) : Byts W (.slice (some ⟨b, off + g, none⟩) n c) ((T.drop g).take n) := by
  obtain ⟨ao, c', e, h1, h2⟩ := h
  cases e
  have hl : ((T.drop g).take n).length = n := by simp; omega
  refine ⟨some ⟨b, off + g, none⟩, c, by rw [hl], fun x hx => h1 x (List.mem_of_mem_drop (List.mem_of_mem_take hx)), fun j hj => ⟨b, off + g, rfl, ?_⟩⟩
  rw [hl] at hj
  obtain ⟨b', o', e', hc⟩ := h2 (g + j) (by omega)
  cases e'
  rw [show off + g + j = off + (g + j) by omega, hc]
  have e1 : nth ((T.drop g).take n) j = nth T (g + j) := by
    simp [nth, List.getElem?_take, hj]
  rw [e1]

theorem concat_at (w : World) (g : Nat) (aA : Option Addr) (cA nA : Nat) (A : List Nat) (aB : Option Addr) (cB nB : Nat) (B : List Nat) (aC : Option Addr) (cC nC : Nat) (C : List Nat)
    (h0 : w.cell? ⟨g, 0, none⟩ = some (.slice aA nA cA)) (h1 : w.cell? ⟨g, 1, none⟩ = some (.slice aB nB cB)) (h2 : w.cell? ⟨g, 2, none⟩ = some (.slice aC nC cC))
    (hA : Byts w (.slice aA nA cA) A) (hB : Byts w (.slice aB nB cB) B) (hC : Byts w (.slice aC nC cC) C) (bA : nA ≤ 10000000) (bB : nB ≤ 10000000) (bC : nC ≤ 10000000) :
    Calls Tryd.prog 46 #[.slice (some ⟨g, 0, none⟩) 3 3] w fun e w' => ∃ ao c, e = .returned (.slice ao (A ++ B ++ C).length c) ∧ Byt w' ao c (A ++ B ++ C) ∧ Far w.heap.size ao ∧ Below w.heap.size w w' := by
  have eA : nA = A.length := by obtain ⟨_, _, e, _⟩ := hA; cases e; rfl
  have eB : nB = B.length := by obtain ⟨_, _, e, _⟩ := hB; cases e; rfl
  have eC : nC = C.length := by obtain ⟨_, _, e, _⟩ := hC; cases e; rfl
  subst eA
  subst eB
  subst eC
  refine (concat_calls w g aA cA A aB cB B aC cC C h0 h1 h2 hA hB hC bA bB bC).mono ?_
  rintro e w' ⟨v, rfl, ho, hb⟩
  obtain ⟨ao, c, rfl, hy, hf⟩ := OwnB.byts (fun x hx => by
    rcases List.mem_append.1 hx with h | h
    · rcases List.mem_append.1 h with h | h
      · exact hA.small x h
      · exact hB.small x h
    · exact hC.small x h) ho
  exact ⟨ao, c, rfl, hy, hf, hb⟩

set_option maxHeartbeats 8000000 in
theorem changed_calls (w : World) (bb oo cap : Nat) (lo : Option Addr) (ln lc : Nat) (T : List Nat) (p u q v : Int) (X : List Nat) (N F G : Nat) (h : Body w (some ⟨bb, oo, none⟩) cap (.slice lo ln lc) T) (hK : Know w) (hT : T.length ≤ 1000000) (hX : X.length ≤ 1000)
    (hx : ∀ x ∈ X, x < 256) (n1 : ∀ k, k < N → posL X k < X.length) (n2 : posL X N = X.length) (n3 : ∀ k, k < N → runeAt X (posL X k) ≠ -1)
    (hF : ∀ r, OffR T (linesL T) p u r → r = (F : Int)) (hG : ∀ r, OffR T (linesL T) q v r → r = (G : Int)) (hFG : F ≤ G) (hGT : G < T.length) :
    Calls Tryd.prog 31 #[.agg #[.slice (some ⟨bb, oo, none⟩) T.length cap, .slice lo ln lc], chV true p u q v X] w fun e w' => ∃ ao c lo2 ln2 lc2, e = .returned (.tuple #[.agg #[.slice ao (T.take F ++ X ++ T.drop G).length c, .slice lo2 ln2 lc2], .agg #[.int .i64 (F : Int), .int .i64 (G : Int), .int .i64 (X.length : Int)], .int .i64 0]) ∧ Body w' ao c (.slice lo2 ln2 lc2) (T.take F ++ X ++ T.drop G) ∧ Far w.heap.size ao ∧ Far w.heap.size lo2 ∧ Below w.heap.size w w' := by
  have H := hide h
  have HK := hide hK
  have HX := hide hx
  have HN1 := hide n1
  have HN2 := hide n2
  have HN3 := hide n3
  have HF := hide hF
  have HG := hide hG
  clear h hK hx n1 n2 n3 hF hG
  obtain ⟨W0, hW0⟩ : ∃ W0, (((w.alloc (.cells #[.slice (some ⟨bb, oo, none⟩) T.length cap, .slice lo ln lc] 40)).alloc (.cells #[.bool true, .int .i64 p, .int .i64 u, .int .i64 q, .int .i64 v, .string (strOf X)] 71)).alloc (.cells #[.slice none 0 0, .slice none 0 0] 40)).alloc (.cells #[.int .i64 0, .int .i64 0, .int .i64 0] 66) = W0 := ⟨_, rfl⟩
  have hb0 : Below w.heap.size w W0 := by
    rw [← hW0]
    exact (((bel w _).alloc (by simp) _).alloc (by simp; omega) _).alloc (by simp; omega) _
  have x0 : BoxC W0 w.heap.size 40 #[.slice (some ⟨bb, oo, none⟩) T.length cap, .slice lo ln lc] := by
    rw [← hW0]; exact (((BoxC.new w _ _).alloc _).alloc _).alloc _
  have x1 : BoxC W0 (w.heap.size + 1) 71 #[.bool true, .int .i64 p, .int .i64 u, .int .i64 q, .int .i64 v, .string (strOf X)] := by
    have := ((BoxC.new (w.alloc (.cells #[.slice (some ⟨bb, oo, none⟩) T.length cap, .slice lo ln lc] 40)) 71 #[.bool true, .int .i64 p, .int .i64 u, .int .i64 q, .int .i64 v, .string (strOf X)]).alloc (.cells #[.slice none 0 0, .slice none 0 0] 40)).alloc (.cells #[.int .i64 0, .int .i64 0, .int .i64 0] 66)
    rw [← hW0]; simpa using this
  have x2 : BoxC W0 (w.heap.size + 1 + 1) 40 #[.slice none 0 0, .slice none 0 0] := by
    have := (BoxC.new ((w.alloc (.cells #[.slice (some ⟨bb, oo, none⟩) T.length cap, .slice lo ln lc] 40)).alloc (.cells #[.bool true, .int .i64 p, .int .i64 u, .int .i64 q, .int .i64 v, .string (strOf X)] 71)) 40 #[.slice none 0 0, .slice none 0 0]).alloc (.cells #[.int .i64 0, .int .i64 0, .int .i64 0] 66)
    rw [← hW0]; simpa using this
  have x3 : BoxC W0 (w.heap.size + 1 + 1 + 1) 66 #[.int .i64 0, .int .i64 0, .int .i64 0] := by
    have := BoxC.new (((w.alloc (.cells #[.slice (some ⟨bb, oo, none⟩) T.length cap, .slice lo ln lc] 40)).alloc (.cells #[.bool true, .int .i64 p, .int .i64 u, .int .i64 q, .int .i64 v, .string (strOf X)] 71)).alloc (.cells #[.slice none 0 0, .slice none 0 0] 40)) 66 #[.int .i64 0, .int .i64 0, .int .i64 0]
    rw [← hW0]; simpa using this
  obtain ⟨cx, w1, hconv, hbx, hb1, hsz1⟩ := conv_str W0 X HX.out
  have hsz0 : W0.heap.size = w.heap.size + 4 := by rw [← hW0]; simp
  rw [← hW0] at hconv
  have HY := hide hbx
  have X0 := hide (x0.below hb1)
  have X1 := hide (x1.below hb1)
  have X2 := hide (x2.below hb1)
  have X3 := hide (x3.below hb1)
  have HB1 := hide (bafter hb0 hb1 (by omega))
  have HSZ0 := hide hsz0
  have HSZ1 := hide hsz1
  have hZ : (((w.alloc (.cells #[.slice (some ⟨bb, oo, none⟩) T.length cap, .slice lo ln lc] 40)).alloc (.cells #[.bool true, .int .i64 p, .int .i64 u, .int .i64 q, .int .i64 v, .string (strOf X)] 71)).alloc (.cells #[.slice none 0 0, .slice none 0 0] 40)).alloc (.cells #[.int .i64 0, .int .i64 0, .int .i64 0] 66) = W0 := hW0
  have hz2 : ((((w.alloc (.cells #[.slice (some ⟨bb, oo, none⟩) T.length cap, .slice lo ln lc] 40)).alloc (.cells #[.bool true, .int .i64 p, .int .i64 u, .int .i64 q, .int .i64 v, .string (strOf X)] 71)).alloc (.cells #[.slice none 0 0, .slice none 0 0] 40)).alloc (.cells #[.int .i64 0, .int .i64 0, .int .i64 0] 66)).heap.size = w.heap.size + 4 := by simp
  rw [hz2] at hconv
  have HWB : Hid (Byt w1 (some ⟨w.heap.size + 4, 0, none⟩) cx X) := by
    have := HY.out
    rw [hsz0] at this
    exact this
  clear hW0 hb0 x0 x1 x2 x3 hbx hb1 hsz1 hsz0 hZ hz2 HY
  unfold chV
  generalize hsx : strOf X = sx at *
  have HSX := hide hsx
  clear hsx
  go_enter Tryd.func31, Tryd.ntmps31
  go_wp2_with fail
  refine (valid_calls w1 _ cx X N HWB.out.1 (HK.out.below HB1.out).tabs HN1.out HN2.out (by omega) HWB.out.2.1).mono ?_
  rintro e w2 ⟨at', er, rfl, hto, hb2⟩
  obtain rfl : er = 0 := by
    rcases hto with ⟨k, hk, _, h2, _⟩ | ⟨_, _, h⟩
    · exact absurd h2 (HN3.out k hk)
    · exact h
  have Y0 := hide (X0.out.below hb2)
  have Y1 := hide (X1.out.below hb2)
  have Y2 := hide (X2.out.below hb2)
  have Y3 := hide (X3.out.below hb2)
  have YX := hide (HWB.out.below hb2)
  have HB2 := hide (bafter HB1.out hb2 (by have := HB1.out.size; omega))
  have c0 : w2.cell? ⟨w.heap.size, 0, none⟩ = some (.slice (some ⟨bb, oo, none⟩) T.length cap) := Y0.out.cell 0
  have c1 : w2.cell? ⟨w.heap.size, 1, none⟩ = some (.slice lo ln lc) := Y0.out.cell 1
  have d0 : w2.cell? ⟨w.heap.size + 1, 0, none⟩ = some (.bool true) := Y1.out.cell 0
  have d1 : w2.cell? ⟨w.heap.size + 1, 1, none⟩ = some (.int .i64 p) := Y1.out.cell 1
  have d2 : w2.cell? ⟨w.heap.size + 1, 2, none⟩ = some (.int .i64 u) := Y1.out.cell 2
  have d3 : w2.cell? ⟨w.heap.size + 1, 3, none⟩ = some (.int .i64 q) := Y1.out.cell 3
  have d4 : w2.cell? ⟨w.heap.size + 1, 4, none⟩ = some (.int .i64 v) := Y1.out.cell 4
  have d5 : w2.cell? ⟨w.heap.size + 1, 5, none⟩ = some (.string sx) := Y1.out.cell 5
  clear hto hb2 X0 X1 X2 X3 HWB HB1 hconv
  go_wp2_with fail
  have hed := edit_calls w2 (some ⟨bb, oo, none⟩) cap lo ln lc T p u q v X (H.out.below HB2.out) (HK.out.below HB2.out) (by omega)
  unfold chV at hed
  rw [HSX.out] at hed
  refine hed.mono ?_
  clear hed
  rintro e w3 ⟨f, t, rfl, hof, hot, hb3⟩
  obtain rfl := HF.out _ hof
  obtain rfl := HG.out _ hot
  rw [show max ((F : Nat) : Int) ((G : Nat) : Int) = (G : Int) by omega]
  obtain ⟨E, hE⟩ : ∃ E, w3.heap.size = E := ⟨_, rfl⟩
  obtain ⟨w4, hw4⟩ : ∃ w4, w3.alloc (.cells #[.int .i64 (F : Int), .int .i64 (G : Int), .int .i64 (X.length : Int)] 66) = w4 := ⟨_, rfl⟩
  have hb4 : Below w3.heap.size w3 w4 := by rw [← hw4]; exact bel _ _
  have z4 : BoxC w4 w3.heap.size 66 #[.int .i64 (F : Int), .int .i64 (G : Int), .int .i64 (X.length : Int)] := by rw [← hw4]; exact BoxC.new _ _ _
  have Z4 := hide z4
  have Z0 := hide ((Y0.out.below hb3).below hb4)
  have Z2 := hide ((Y2.out.below hb3).below hb4)
  have Z3 := hide ((Y3.out.below hb3).below hb4)
  have ZX := hide ((YX.out.below hb3).below hb4)
  have HB4 := hide (bafter (bafter HB2.out hb3 (by have := HB2.out.size; omega)) hb4 (by have := HB2.out.size; have := hb3.size; omega))
  have L3 := hide (show w.heap.size + 1 + 1 + 1 < w3.heap.size from (Y3.out.below hb3).lt)
  clear hof hot hb3 hb4 z4 Y0 Y1 Y2 Y3 YX HB2 c0 c1 d0 d1 d2 d3 d4 d5
  go_upto_region 6 with fail
  have HE := hide hE
  clear hw4 hE
  rw [HE.out] at Z4 L3
  have hgr : growL ((F : Int), (G : Int), (X.length : Int)) = (X.length : Int) - ((G : Int) - (F : Int)) := by
    have e1 : wrap64 ((G : Int) - (F : Int)) = (G : Int) - (F : Int) := by unfold wrap64; omega
    unfold growL
    simp only [e1]
    unfold wrap64
    omega
  obtain ⟨R, hR⟩ : ∃ R : Nat, (T.length : Int) + ((X.length : Int) - ((G : Int) - (F : Int))) = (R : Int) := ⟨T.length + X.length - (G - F), by omega⟩
  have hR2 : ¬ (R : Int) > 1048576 := by omega
  have hwR : IntKind.i64.wrap (R : Int) = (R : Int) := by rw [wrap_i64]; unfold wrap64; omega
  generalize (X.length : Int) - ((G : Int) - (F : Int)) = D at *
  have HGR := hide hgr
  have c0 : w4.cell? ⟨w.heap.size, 0, none⟩ = some (.slice (some ⟨bb, oo, none⟩) T.length cap) := Z0.out.cell 0
  have e0 : w4.cell? ⟨E, 0, none⟩ = some (.int .i64 (F : Int)) := Z4.out.cell 0
  have e1 : w4.cell? ⟨E, 1, none⟩ = some (.int .i64 (G : Int)) := Z4.out.cell 1
  have e2 : w4.cell? ⟨E, 2, none⟩ = some (.int .i64 (X.length : Int)) := Z4.out.cell 2
  clear hgr
  go_cut [33] from 27 to 33 (fun s33 wx => s33 = .bool false ∧ Below w4.heap.size w4 wx)
  case first =>
    go_region_with (go_at_call 42; go_must (refine (growth_from (W := w4) ?_ (F : Int) (G : Int) (X.length : Int)).mono ?_; (first | exact Below.refl _ _ | exact (Below.refl _ _).drew | exact (Below.refl _ _).drew.drew); rintro e w5 ⟨rfl, hb5⟩; rw [HGR.out]; have r0 : w5.cell? ⟨w.heap.size, 0, none⟩ = some (.slice (some ⟨bb, oo, none⟩) T.length cap) := (Z0.out.below hb5).cell 0))
    all_goals
      have HB5 := hide hb5
      clear hb5
      go_wp2_with fail
      go_meet
      exact ⟨by first | rfl | (simp [hwR]; omega), HB5.out⟩
  case rest =>
    obtain ⟨rfl, hb5⟩ := hcut
    have V0 := hide (Z0.out.below hb5)
    have V2 := hide (Z2.out.below hb5)
    have V3 := hide (Z3.out.below hb5)
    have V4 := hide (Z4.out.below hb5)
    have VX := hide (ZX.out.below hb5)
    have HB5 := hide (bafter HB4.out hb5 (by have := HB4.out.size; omega))
    clear hb5 Z0 Z2 Z3 Z4 ZX HB4 c0 e0 e1 e2 hR hR2 hwR
    go_upto_region 8 with fail
    have HSS : Hid (∀ Y : World, BoxC Y w.heap.size 40 #[.slice (some ⟨bb, oo, none⟩) T.length cap, .slice lo ln lc] → BoxC Y E 66 #[.int .i64 (F : Int), .int .i64 (G : Int), .int .i64 (X.length : Int)] → (fun X' : World => X'.cell? ⟨w.heap.size, 0, none⟩ = some (.slice (some ⟨bb, oo, none⟩) T.length cap) ∧ X'.cell? ⟨E, 0, none⟩ = some (.int .i64 (F : Int)) ∧ X'.cell? ⟨E, 1, none⟩ = some (.int .i64 (G : Int)) ∧ X'.cell? ⟨E, 2, none⟩ = some (.int .i64 (X.length : Int))) Y) := fun Y k1 k2 => ⟨k1.cell 0, k2.cell 0, k2.cell 1, k2.cell 2⟩
    have g1 : (0 : Int) ≤ (F : Int) := by omega
    have g2 : (0 : Int) ≤ (G : Int) := by omega
    have HCAP := hide H.out.1.2.1
    have g3 : F ≤ cap := by have := HCAP.out; omega
    have g4 : (F : Int) ≤ (cap : Int) := by have := HCAP.out; omega
    have g5 : G ≤ T.length := by omega
    have g6 : (G : Int) ≤ (T.length : Int) := by omega
    have g7 : T.length ≤ cap := HCAP.out
    have g8 : (T.length : Int) ≤ (cap : Int) := by omega
    have g9 : G < cap := by omega
    have g10 : ¬ G = cap := by omega
    have g11 : (G : Int) < (cap : Int) := by omega
    have g13 : ¬ cap = G := by omega
    have g12 : ¬ cap - G = 0 := by omega
    refine wp_region_held_drew (S := fun X' : World => X'.cell? ⟨w.heap.size, 0, none⟩ = some (.slice (some ⟨bb, oo, none⟩) T.length cap) ∧ X'.cell? ⟨E, 0, none⟩ = some (.int .i64 (F : Int)) ∧ X'.cell? ⟨E, 1, none⟩ = some (.int .i64 (G : Int)) ∧ X'.cell? ⟨E, 2, none⟩ = some (.int .i64 (X.length : Int))) (by kernel_rfl) ?_ (fun hHeld => ?_)
    · exact HSS.out _ V0.out V4.out
    refine takeD (i := 0) (v := ?v1) (some 36) rfl (by kernel_rfl) (by kernel_rfl) (by kernel_rfl) (fun _ _ _ h => h) (Or.inl ⟨by rfl, ?hy1⟩) (by assumption) (by rfl) ?rest1
    case hy1 => first | (intro w hSw; (try dsimp only at hSw); obtain ⟨q0, q1, q2, q3⟩ := hSw; go_simp; done) | (intro w hSw; (try dsimp only at hSw); obtain ⟨q0, q1, q2, q3⟩ := hSw; go_simp; with_reducible rfl)
    try simp only [Act.put, List.setIfInBounds_toArray, List.set_cons_zero, List.set_cons_succ]
    refine takeD (i := 1) (v := ?v2) (some 37) rfl (by kernel_rfl) (by kernel_rfl) (by kernel_rfl) (fun _ _ _ h => h) (Or.inl ⟨by rfl, ?hy2⟩) (by assumption) (by rfl) ?rest2
    case hy2 => first | (intro w hSw; (try dsimp only at hSw); obtain ⟨q0, q1, q2, q3⟩ := hSw; go_simp; done) | (intro w hSw; (try dsimp only at hSw); obtain ⟨q0, q1, q2, q3⟩ := hSw; go_simp; with_reducible rfl)
    try simp only [Act.put, List.setIfInBounds_toArray, List.set_cons_zero, List.set_cons_succ]
    refine takeD (i := 2) (v := ?v3) (some 38) rfl (by kernel_rfl) (by kernel_rfl) (by kernel_rfl) (fun _ _ _ h => h) (Or.inl ⟨by rfl, ?hy3⟩) (by assumption) (by rfl) ?rest3
    case hy3 => first | (intro w hSw; (try dsimp only at hSw); obtain ⟨q0, q1, q2, q3⟩ := hSw; go_simp; done) | (intro w hSw; (try dsimp only at hSw); obtain ⟨q0, q1, q2, q3⟩ := hSw; go_simp; with_reducible rfl)
    try simp only [Act.put, List.setIfInBounds_toArray, List.set_cons_zero, List.set_cons_succ]
    refine takeD (i := 3) (v := ?v4) (some 39) rfl (by kernel_rfl) (by kernel_rfl) (by kernel_rfl) (fun _ _ _ h => h) (Or.inl ⟨by rfl, ?hy4⟩) (by assumption) (by rfl) ?rest4
    case hy4 => first | (intro w hSw; (try dsimp only at hSw); obtain ⟨q0, q1, q2, q3⟩ := hSw; go_simp; done) | (intro w hSw; (try dsimp only at hSw); obtain ⟨q0, q1, q2, q3⟩ := hSw; go_simp; with_reducible rfl)
    try simp only [Act.put, List.setIfInBounds_toArray, List.set_cons_zero, List.set_cons_succ]
    refine takeD (i := 4) (v := ?v5) (some 40) rfl (by kernel_rfl) (by kernel_rfl) (by kernel_rfl) (fun _ _ _ h => h) (Or.inl ⟨by rfl, ?hy5⟩) (by assumption) (by rfl) ?rest5
    case hy5 => first | (intro w hSw; (try dsimp only at hSw); obtain ⟨q0, q1, q2, q3⟩ := hSw; go_simp; done) | (intro w hSw; (try dsimp only at hSw); obtain ⟨q0, q1, q2, q3⟩ := hSw; go_simp; with_reducible rfl)
    try simp only [Act.put, List.setIfInBounds_toArray, List.set_cons_zero, List.set_cons_succ]
    refine takeD (i := 5) (v := ?v6) (some 41) rfl (by kernel_rfl) (by kernel_rfl) (by kernel_rfl) (fun _ _ _ h => h) (Or.inl ⟨by rfl, ?hy6⟩) (by assumption) (by rfl) ?rest6
    case hy6 => first | (intro w hSw; (try dsimp only at hSw); obtain ⟨q0, q1, q2, q3⟩ := hSw; go_simp; done) | (intro w hSw; (try dsimp only at hSw); obtain ⟨q0, q1, q2, q3⟩ := hSw; go_simp; with_reducible rfl)
    try simp only [Act.put, List.setIfInBounds_toArray, List.set_cons_zero, List.set_cons_succ]
    refine takeD (i := 6) (v := ?v7) (some 42) rfl (by kernel_rfl) (by kernel_rfl) (by kernel_rfl) (fun _ _ _ h => h) (Or.inl ⟨by rfl, ?hy7⟩) (by assumption) (by rfl) ?rest7
    case hy7 => first | (intro w hSw; (try dsimp only at hSw); obtain ⟨q0, q1, q2, q3⟩ := hSw; go_simp; done) | (intro w hSw; (try dsimp only at hSw); obtain ⟨q0, q1, q2, q3⟩ := hSw; go_simp; with_reducible rfl)
    try simp only [Act.put, List.setIfInBounds_toArray, List.set_cons_zero, List.set_cons_succ]
    refine takeD (i := 7) (v := ?v8) (some 43) rfl (by kernel_rfl) (by kernel_rfl) (by kernel_rfl) (fun _ _ _ h => h) (Or.inl ⟨by rfl, ?hy8⟩) (by assumption) (by rfl) ?rest8
    case hy8 => first | (intro w hSw; (try dsimp only at hSw); obtain ⟨q0, q1, q2, q3⟩ := hSw; go_simp; done) | (intro w hSw; (try dsimp only at hSw); obtain ⟨q0, q1, q2, q3⟩ := hSw; go_simp; with_reducible rfl)
    try simp only [Act.put, List.setIfInBounds_toArray, List.set_cons_zero, List.set_cons_succ]
    refine takeD (i := 8) (v := ?v9) (some 44) rfl (by kernel_rfl) (by kernel_rfl) (by kernel_rfl) (fun _ _ _ h => h) (Or.inl ⟨by rfl, ?hy9⟩) (by assumption) (by rfl) ?rest9
    case hy9 => first | (intro w hSw; (try dsimp only at hSw); obtain ⟨q0, q1, q2, q3⟩ := hSw; go_simp; done) | (intro w hSw; (try dsimp only at hSw); obtain ⟨q0, q1, q2, q3⟩ := hSw; go_simp; with_reducible rfl)
    try simp only [Act.put, List.setIfInBounds_toArray, List.set_cons_zero, List.set_cons_succ]
    refine takeD (i := 9) (v := ?v10) (some 45) rfl (by kernel_rfl) (by kernel_rfl) (by kernel_rfl) (fun _ _ _ h => h) (Or.inl ⟨by rfl, ?hy10⟩) (by assumption) (by rfl) ?rest10
    case hy10 => first | (intro w hSw; (try dsimp only at hSw); obtain ⟨q0, q1, q2, q3⟩ := hSw; go_simp; done) | (intro w hSw; (try dsimp only at hSw); obtain ⟨q0, q1, q2, q3⟩ := hSw; go_simp; with_reducible rfl)
    try simp only [Act.put, List.setIfInBounds_toArray, List.set_cons_zero, List.set_cons_succ]
    refine takeD (i := 10) (v := ?v11) (some 46) rfl (by kernel_rfl) (by kernel_rfl) (by kernel_rfl) (fun _ _ _ h => h) (Or.inl ⟨by rfl, ?hy11⟩) (by assumption) (by rfl) ?rest11
    case hy11 => first | (intro w hSw; (try dsimp only at hSw); obtain ⟨q0, q1, q2, q3⟩ := hSw; go_simp; done) | (intro w hSw; (try dsimp only at hSw); obtain ⟨q0, q1, q2, q3⟩ := hSw; go_simp; with_reducible rfl)
    try simp only [Act.put, List.setIfInBounds_toArray, List.set_cons_zero, List.set_cons_succ]
    refine takeD (i := 14) (v := ?v12) (some 50) rfl (by kernel_rfl) (by kernel_rfl) (by kernel_rfl) (fun _ _ _ h => h) (Or.inl ⟨by rfl, ?hy12⟩) (by assumption) (by rfl) ?rest12
    case hy12 => first | (intro w hSw; (try dsimp only at hSw); obtain ⟨q0, q1, q2, q3⟩ := hSw; go_simp; done) | (intro w hSw; (try dsimp only at hSw); obtain ⟨q0, q1, q2, q3⟩ := hSw; go_simp; with_reducible rfl)
    try simp only [Act.put, List.setIfInBounds_toArray, List.set_cons_zero, List.set_cons_succ]
    try simp only [if_neg g13]
    refine wpAnyH_ready (rs := [11]) (by kernel_rfl) (by simp) ?_
    refine AllReadyH.cons rfl (fun K hK => ?_) AllReadyH.nil
    go_simp
    refine hK.out _ _ (HSS.out _ (V0.out.alloc _) (V4.out.alloc _)) (fun _ => ?_)
    clear hK K
    try simp only [Act.put, List.setIfInBounds_toArray, List.set_cons_zero, List.set_cons_succ]
    refine wpAnyH_ready (rs := [12]) (by kernel_rfl) (by simp) ?_
    refine AllReadyH.cons rfl (fun K hK => ?_) AllReadyH.nil
    go_simp
    obtain ⟨w6, hw6⟩ : ∃ w6, (wc.alloc (.cells #[.slice (some ⟨bb, oo, none⟩) F cap, .slice (some ⟨w.heap.size + 4, 0, none⟩) X.length cx, .slice (some ⟨bb, oo + G, none⟩) (T.length - G) (cap - G)] 36)).drew = w6 := ⟨_, rfl⟩
    have k6 : Below wc.heap.size wc w6 := by rw [← hw6]; exact (bel wc _).drew
    have n6 : BoxC w6 wc.heap.size 36 #[.slice (some ⟨bb, oo, none⟩) F cap, .slice (some ⟨w.heap.size + 4, 0, none⟩) X.length cx, .slice (some ⟨bb, oo + G, none⟩) (T.length - G) (cap - G)] := by rw [← hw6]; exact BoxC.new wc _ _
    have hTw := ((H.out.below HB5.out).below k6).1.1
    have pA : Byts w6 (.slice (some ⟨bb, oo, none⟩) F cap) (T.take F) := Byts.part (g := 0) (n := F) hTw (by omega)
    have pC : Byts w6 (.slice (some ⟨bb, oo + G, none⟩) (T.length - G) (cap - G)) (T.drop G) := by
      have := Byts.part (g := G) (n := T.length - G) (c := cap - G) hTw (by omega)
      rwa [List.take_of_length_le (by simp)] at this
    have U0 := hide (V0.out.below k6)
    have U2 := hide (V2.out.below k6)
    have U3 := hide (V3.out.below k6)
    have U4 := hide (V4.out.below k6)
    have HB6 := hide (bafter HB5.out k6 (by have := HB5.out.size; omega))
    rw [hw6]
    refine (concat_at w6 wc.heap.size _ _ _ (T.take F) _ _ _ X _ _ _ (T.drop G) (n6.cell 0) (n6.cell 1) (n6.cell 2) pA (VX.out.below k6).1 pC (by omega) (by omega) (by omega)).mono ?_
    clear hw6 k6 n6 hTw pA pC
    rintro e w7 ⟨ao, c, rfl, hy7, hf7, k7⟩
    have HF7 := hide (hf7.mono (m := w.heap.size + 1 + 1 + 1 + 1) (by have := U3.out.lt; omega))
    clear hf7
    generalize hNT : T.take F ++ X ++ T.drop G = NT at *
    have HNT := hide hNT
    clear hNT
    have HY7 := hide hy7
    have S0 := hide (U0.out.below k7)
    have S2 := hide (U2.out.below k7)
    have S3 := hide (U3.out.below k7)
    have S4 := hide (U4.out.below k7)
    have HB7 := hide (bafter HB6.out k7 (by have := HB6.out.size; omega))
    clear hy7 k7 U0 U2 U3 U4 HB6 V0 V2 V3 V4 VX HB5 hHeld
    go_wp2_with fail
    refine hK.out _ _ (HSS.out _ S0.out S4.out) (fun _ => ?_)
    clear hK K
    try simp only [Act.put, List.setIfInBounds_toArray, List.set_cons_zero, List.set_cons_succ]
    refine wpAnyH_ready (rs := [13]) (by kernel_rfl) (by simp) ?_
    refine AllReadyH.cons rfl (fun K hK => ?_) AllReadyH.nil
    go_simp
    refine (bodyOf_calls w7 ao c NT HY7.out (by rw [← HNT.out]; simp; omega)).mono ?_
    rintro e w8 ⟨lo2, ln2, lc2, rfl, hbd, hf8, k8⟩
    have HF8 := hide (hf8.mono (m := w.heap.size + 1 + 1 + 1 + 1) (by have := S3.out.lt; omega))
    clear hf8
    have HBD := hide hbd
    have P0 := hide (S0.out.below k8)
    have P2 := hide (S2.out.below k8)
    have P3 := hide (S3.out.below k8)
    have P4 := hide (S4.out.below k8)
    have HB8 := hide (bafter HB7.out k8 (by have := HB7.out.size; omega))
    clear hbd k8 S0 S2 S3 S4 HB7 HY7
    go_wp2_with fail
    refine hK.out _ _ (HSS.out _ P0.out P4.out) (fun _ => ?_)
    clear hK K
    try simp only [Act.put, List.setIfInBounds_toArray, List.set_cons_zero, List.set_cons_succ]
    refine wpAnyH_ready (rs := [15]) (by kernel_rfl) (by simp) ?_
    refine AllReadyH.cons rfl (fun K hK => ?_) AllReadyH.nil
    have t0 : w8.cell? ⟨w.heap.size + 1 + 1, 0, none⟩ = some (.slice none 0 0) := P2.out.cell 0
    have t1 : w8.cell? ⟨w.heap.size + 1 + 1, 1, none⟩ = some (.slice none 0 0) := P2.out.cell 1
    have t2 := P2.out.frozen 0
    have t3 := P2.out.frozen 1
    have t4 := P2.out.lt
    go_simp
    have ne0 : w.heap.size ≠ w.heap.size + 1 + 1 := by omega
    have ne3 : w.heap.size + 1 + 1 + 1 ≠ w.heap.size + 1 + 1 := by omega
    have neE : E ≠ w.heap.size + 1 + 1 := by have := L3.out; omega
    refine hK.out _ _ (HSS.out _ ((P0.out.other ne0 0 _).other ne0 1 _) ((P4.out.other neE 0 _).other neE 1 _)) (fun _ => ?_)
    clear hK K
    try simp only [Act.put, List.setIfInBounds_toArray, List.set_cons_zero, List.set_cons_succ]
    obtain ⟨w9, hw9⟩ : ∃ w9, (w8.setCell ⟨w.heap.size + 1 + 1, 0, none⟩ (.slice ao NT.length c)).setCell ⟨w.heap.size + 1 + 1, 1, none⟩ (.slice lo2 ln2 lc2) = w9 := ⟨_, rfl⟩
    have R0 : Hid (BoxC w9 w.heap.size 40 #[.slice (some ⟨bb, oo, none⟩) T.length cap, .slice lo ln lc]) := by rw [← hw9]; exact (P0.out.other ne0 0 _).other ne0 1 _
    have R2 : Hid (BoxC w9 (w.heap.size + 1 + 1) 40 #[.slice ao NT.length c, .slice lo2 ln2 lc2]) := by rw [← hw9]; exact (P2.out.set 0 _).set 1 _
    have R3 : Hid (BoxC w9 (w.heap.size + 1 + 1 + 1) 66 #[.int .i64 0, .int .i64 0, .int .i64 0]) := by rw [← hw9]; exact (P3.out.other ne3 0 _).other ne3 1 _
    have R4 : Hid (BoxC w9 E 66 #[.int .i64 (F : Int), .int .i64 (G : Int), .int .i64 (X.length : Int)]) := by rw [← hw9]; exact (P4.out.other neE 0 _).other neE 1 _
    have HB9 : Hid (Below w.heap.size w w9) := by
      rw [← hw9]
      exact (HB8.out.setCell (p := ⟨w.heap.size + 1 + 1, 0, none⟩) (by show w.heap.size ≤ w.heap.size + 1 + 1; omega) _).setCell (p := ⟨w.heap.size + 1 + 1, 1, none⟩) (by show w.heap.size ≤ w.heap.size + 1 + 1; omega) _
    have HBD9 : Hid (Body w9 ao c (.slice lo2 ln2 lc2) NT) := by
      rw [← hw9]
      exact (HBD.out.other HF7.out HF8.out (by omega) 0 _).other HF7.out HF8.out (by omega) 1 _
    rw [hw9]
    clear hw9 t0 t1 t2 t3 t4 P0 P2 P3 P4 HB8 HBD ne0 neE
    refine wpAnyH_ready (rs := [16]) (by kernel_rfl) (by simp) ?_
    refine AllReadyH.cons rfl (fun K hK => ?_) AllReadyH.nil
    have t0 : w9.cell? ⟨w.heap.size + 1 + 1 + 1, 0, none⟩ = some (.int .i64 0) := R3.out.cell 0
    have t1 : w9.cell? ⟨w.heap.size + 1 + 1 + 1, 1, none⟩ = some (.int .i64 0) := R3.out.cell 1
    have t2 : w9.cell? ⟨w.heap.size + 1 + 1 + 1, 2, none⟩ = some (.int .i64 0) := R3.out.cell 2
    have t3 := R3.out.frozen 0
    have t4 := R3.out.frozen 1
    have t5 := R3.out.frozen 2
    have t6 := R3.out.lt
    go_simp
    have ne0 : w.heap.size ≠ w.heap.size + 1 + 1 + 1 := by omega
    have ne2 : w.heap.size + 1 + 1 ≠ w.heap.size + 1 + 1 + 1 := by omega
    have neE : E ≠ w.heap.size + 1 + 1 + 1 := by have := L3.out; omega
    refine hK.out _ _ (HSS.out _ (((R0.out.other ne0 0 _).other ne0 1 _).other ne0 2 _) (((R4.out.other neE 0 _).other neE 1 _).other neE 2 _)) (fun _ => ?_)
    clear hK K
    try simp only [Act.put, List.setIfInBounds_toArray, List.set_cons_zero, List.set_cons_succ]
    refine wpAnyH_ready (rs := [17]) (by kernel_rfl) (by simp) ?_
    refine AllReadyH.cons rfl (fun K hK => ?_) AllReadyH.nil
    go_simp
    refine hK.out _ _ (HSS.out _ (((R0.out.other ne0 0 _).other ne0 1 _).other ne0 2 _) (((R4.out.other neE 0 _).other neE 1 _).other neE 2 _)) (fun _ => ?_)
    clear hK K
    try simp only [Act.put, List.setIfInBounds_toArray, List.set_cons_zero, List.set_cons_succ]
    refine wpAnyH_done (by kernel_rfl) ?_ _
    clear t0 t1 t2 t3 t4 t5 t6
    go_wp2
    refine bodyPost_ret (results_changed rfl rfl rfl rfl (((R2.out.other ne2 0 _).other ne2 1 _).other ne2 2 _) (((R3.out.set 0 _).set 1 _).set 2 _)) rfl ?_
    have l4 : w.heap.size + 1 + 1 + 1 < w.heap.size + 1 + 1 + 1 + 1 := Nat.lt_succ_self _
    have b1 := HBD9.out.other HF7.out HF8.out l4 0 (.int .i64 (F : Int))
    have b2 := b1.other HF7.out HF8.out l4 1 (.int .i64 (G : Int))
    have b3 := b2.other HF7.out HF8.out l4 2 (.int .i64 (X.length : Int))
    have l5 : w.heap.size ≤ w.heap.size + 1 + 1 + 1 := by omega
    have a1 := HB9.out.setCell (p := ⟨w.heap.size + 1 + 1 + 1, 0, none⟩) l5 (.int .i64 (F : Int))
    have a2 := a1.setCell (p := ⟨w.heap.size + 1 + 1 + 1, 1, none⟩) l5 (.int .i64 (G : Int))
    have a3 := a2.setCell (p := ⟨w.heap.size + 1 + 1 + 1, 2, none⟩) l5 (.int .i64 (X.length : Int))
    have l6 : w.heap.size ≤ w.heap.size + 1 + 1 + 1 + 1 := by omega
    rw [HNT.out]
    refine ⟨ao, c, lo2, ln2, lc2, rfl, ?_, ?_, ?_, ?_⟩
    · exact b3
    · exact HF7.out.mono l6
    · exact HF8.out.mono l6
    · exact a3

end Go.Proofs.YthhpfdjcggfhaaaDoor
