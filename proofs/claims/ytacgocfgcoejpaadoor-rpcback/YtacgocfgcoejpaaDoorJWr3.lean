/- Json: the writer: what stands in one another. -/
import Derived.Test.YtacgocfgcoejpaaDoorJWr2
namespace Go.Proofs.YtacgocfgcoejpaaDoor
set_option linter.unusedVariables false
set_option linter.unusedSimpArgs false
set_option maxRecDepth 100000
open Go Go.RowKit Go.Shelf Go.Lib

/-- Texts, parted by commas. -/
def joinT : List (List Nat) → List Nat
  | [] => []
  | x :: l => x ++ l.flatMap (44 :: ·)
theorem joinT_snoc (l : List (List Nat)) (x : List Nat) : joinT (l ++ [x]) = if l = [] then x else joinT l ++ 44 :: x := by
  cases l with
  | nil => simp [joinT]
  | cons y r => simp [joinT]
theorem joinT_take {X : List (List Nat)} {i : Nat} (h : i < X.length) : joinT (X.take (i + 1)) = (if i = 0 then [] else joinT (X.take i) ++ [44]) ++ X[i] := by
  rw [List.take_add_one, List.getElem?_eq_getElem h]
  show joinT (X.take i ++ [X[i]]) = _
  rw [joinT_snoc]
  by_cases e : i = 0
  · subst e; simp
  · have : X.take i ≠ [] := by
      intro q
      have := congrArg List.length q
      rw [List.length_take, List.length_nil] at this
      omega
    simp [this, e]
theorem joinT_len (X : List (List Nat)) (i : Nat) : (joinT (X.take i)).length ≤ (joinT X).length := by
  cases X with
  | nil => simp
  | cons x l =>
    cases i with
    | zero => simp [joinT]
    | succ i =>
      rw [List.take_succ_cons]
      show (x ++ (l.take i).flatMap (44 :: ·)).length ≤ (x ++ l.flatMap (44 :: ·)).length
      have e : l.flatMap (fun x => 44 :: x) = (l.take i).flatMap (44 :: ·) ++ (l.drop i).flatMap (44 :: ·) := by
        rw [← List.flatMap_append, List.take_append_drop]
      rw [List.length_append, List.length_append, e, List.length_append]
      omega

/-- What a byte more is. -/
theorem WrJ.byte {n₀ : Nat} {w : World} {B : Nat} {L : List Nat} {d c : Nat} (h : WrJ n₀ w B L d) (hc : c < 256) (hlen : L.length ≤ 1000000000) :
    ∃ bv va vn vc w', w.cell? ⟨B, 0, none⟩ = some bv ∧ (Builtin.append_ #[26, 26] 26 #[bv, .slice (some ⟨w.heap.size, 0, none⟩) 1 1]).run Tryd.prog (w.alloc (.cells #[.int .u8 (c : Int)] 5)) = .ok (.slice va vn vc) w' ∧
      WrJ n₀ (w'.setCell ⟨B, 0, none⟩ (.slice va vn vc)) B (L ++ [c]) d ∧ FrW n₀ B w (w'.setCell ⟨B, 0, none⟩ (.slice va vn vc)) ∧ (∃ y, w'.cell? ⟨B, 0, none⟩ = some y) ∧ w'.frozen? ⟨B, 0, none⟩ = false ∧ B < w'.heap.size ∧ w.cell? ⟨B, 1, none⟩ = some (.int .i64 (d : Int)) := by
  obtain ⟨i0, hi, hz0, hz1, hz2⟩ := info_parts infoByte
  obtain ⟨bv, hx, ho, hL, hn⟩ := h
  have hb := bel w (.cells #[.int .u8 (c : Int)] 5)
  have hby : Byts (w.alloc (.cells #[.int .u8 (c : Int)] 5)) (.slice (some ⟨w.heap.size, 0, none⟩) 1 1) [c] := byts_lit w [c] (by simpa using hc) (0, 0)
  have ho1 := ho.below hb
  have hx1 := hx.below hb
  obtain ⟨v', w', hr, h2, h3, _, h5⟩ := run_append_own_at (P := Tryd.prog) (w.alloc (.cells #[.int .u8 (c : Int)] 5)) n₀ 26 26 5 i0 (.int .u8 0) 1 1 Tryd.underlying26 hi hz0 hz1 hz2 rfl (by decide) bv L.length (u8s L) ho1 ⟨w.heap.size, 0, none⟩ 1 1 (u8s [c]) rfl (by
      intro j u hj
      have hj2 : j < 1 := by
        have := (List.getElem?_eq_some_iff.1 hj).1
        simpa [u8s] using this
      obtain rfl : j = 0 := by omega
      obtain ⟨ao, cp, e, _, hcc⟩ := hby
      cases e
      obtain ⟨b, off, e, h⟩ := hcc 0 (by simp)
      cases e
      simp [u8s] at hj
      rw [addr_plus, h, ← hj]
      simp [nth]) (by
      intro u hu
      obtain ⟨z, _, rfl⟩ := List.mem_map.1 hu
      rfl) (by unfold maxLen; omega) (by omega) (Nat.le_trans hn hb.size)
  have ho' : OwnB n₀ w' v' (L ++ [c]) := by
    unfold OwnB
    rw [List.length_append, u8s_append]
    exact h2
  have hnb : ∀ {W : World} {v : Value} {T : List Nat}, OwnB n₀ W v T → BoxC W B 58 #[bv, .int .i64 (d : Int)] → v.ownBlock ≠ some B := by
    intro W v T q hb e
    obtain ⟨c, fz, hk⟩ := Lib.ownsRow_kind q B e
    rw [show W.heap[B]? = _ from hb] at hk
    cases hk
  have hx' := hx1.kept h3 (fun q => hnb ho1 hx1 q.symm)
  have hne := hnb ho' hx'
  obtain ⟨av, an, ac, rfl⟩ := ho'.slice
  refine ⟨bv, av, an, ac, w', hx.cell 0, hr, ⟨.slice av an ac, hx'.set 0 _, ho'.fr ((Fr.refl B none w').set 0 _) hne (by cases (Value.slice av an ac).ownBlock <;> simp), fun x hx => ?_, ?_⟩, ((FrW.of hb).trans (FrW.grown ho1 h3)).set 0 _, ⟨_, hx'.cell 0⟩, hx'.frozen 0, hx'.lt, hx.cell 1⟩
  · rcases List.mem_append.1 hx with q | q
    · exact hL x q
    · simp at q; omega
  · rw [World.size_setCell]; exact Nat.le_trans hn (Nat.le_trans hb.size (FrW.grown (B := B) ho1 h3).size)
/-- How many are open. -/
theorem WrJ.deep {n₀ : Nat} {w : World} {B : Nat} {L : List Nat} {d : Nat} (h : WrJ n₀ w B L d) (d' : Nat) : WrJ n₀ (w.setCell ⟨B, 1, none⟩ (.int .i64 (d' : Int))) B L d' ∧ w.cell? ⟨B, 1, none⟩ = some (.int .i64 (d : Int)) ∧ w.frozen? ⟨B, 1, none⟩ = false ∧ B < w.heap.size := by
  obtain ⟨bv, hx, ho, hL, hn⟩ := h
  have hne : bv.ownBlock ≠ some B := by
    intro e
    obtain ⟨c, fz, hk⟩ := Lib.ownsRow_kind ho B e
    rw [show w.heap[B]? = _ from hx] at hk
    cases hk
  exact ⟨⟨bv, hx.set 1 _, ho.fr ((Fr.refl B none w).set 1 _) hne (by cases bv.ownBlock <;> simp), hL, by rw [World.size_setCell]; exact hn⟩, hx.cell 1, hx.frozen 1, hx.lt⟩


set_option maxHeartbeats 8000000 in
theorem wnested_calls (n₀ : Nat) (w : World) (B : Nat) (L : List Nat) (d : Nat) (c1 c2 : Nat) (X : List (List Nat)) (Inv : World → Prop) (fv : Value) (g : Nat) (caps : Array Value) (hfv : fv = .func (.func 39) #[] #[.pointer (some ⟨g, 0, none⟩), .pointer (some ⟨g + 1, 0, none⟩)])
    (h : WrJ n₀ w B L d) (hd : d < 64) (h1 : c1 < 256) (h2 : c2 < 256) (hI : Inv w) (hInv : ∀ W W', Inv W → FrW n₀ B W W' → Inv W') (hn : X.length ≤ 1000000) (hlen : L.length + (joinT X).length ≤ 1000000)
    (hP : ∀ W L' i, (hi : i < X.length) → Inv W → WrJ n₀ W B L' (d + 1) → L'.length ≤ 2000000 → Calls Tryd.prog 39 #[.int .i64 (i : Int), .pointer (some ⟨g, 0, none⟩), .pointer (some ⟨g + 1, 0, none⟩)] W fun e w' => e = .returned (.tuple #[]) ∧ WrJ n₀ w' B (L' ++ X[i]) (d + 1) ∧ FrW n₀ B W w') :
    Calls Tryd.prog 38 #[.pointer (some ⟨B, 0, none⟩), .int .u8 (c1 : Int), .int .u8 (c2 : Int), .int .i64 (X.length : Int), fv] w fun e w' => e = .returned (.tuple #[]) ∧ WrJ n₀ w' B (L ++ [c1] ++ joinT X ++ [c2]) d ∧ FrW n₀ B w w' := by
  subst hfv
  obtain ⟨d1, hd1⟩ : ∃ d1, d + 1 = d1 := ⟨_, rfl⟩
  rw [hd1] at hP
  obtain ⟨hw1, cd, fd, lB⟩ := h.deep d1
  have e1 : (d : Int) + 1 = (d1 : Int) := by omega
  have e2 : (d1 : Int) - 1 = (d : Int) := by omega
  have g2 : (d1 : Int) ≤ 1000000000 := by omega
  have dlt : (d : Int) < 64 := by omega
  have hf1 : FrW n₀ B w (w.setCell ⟨B, 1, none⟩ (.int .i64 (d1 : Int))) := (FrW.refl _ _ _).set 1 _
  obtain ⟨bv, va, vn, vc, w2, cb, hr2, hw3, hf3, ⟨y3, cy3⟩, fy3, lB3, cd3⟩ := hw1.byte h1 (by omega)
  have hI3 := hInv _ _ hI (hf1.trans hf3)
  have HN := hide (need_calls w (.int .i64 13))
  have HW3 := hide hw3
  have HF3 := hide (hf1.trans hf3)
  have HI3 := hide hI3
  have HD := hide hd
  have HH2 := hide h2
  have HIV := hide hInv
  have HNX := hide hn
  have HLN := hide hlen
  have HP := hide hP
  have fb : (w.setCell ⟨B, 1, none⟩ (.int .i64 (d1 : Int))).frozen? ⟨B, 0, none⟩ = false := by
    obtain ⟨bv, hx, _⟩ := hw1
    exact hx.frozen 0
  have lB1 : B < (w.setCell ⟨B, 1, none⟩ (.int .i64 (d1 : Int))).heap.size := by rw [World.size_setCell]; exact lB
  clear h hw1 hw3 hf3 hf1 hI hI3 hP hInv hn hlen hd h2 h1 hd1
  go_enter Tryd.func38, Tryd.ntmps38
  go_wp2_with fail
  refine HN.out.mono ?_
  rintro e w0 ⟨rfl, hw⟩
  rw [hw]
  clear hw
  go_upto_region 2 with fail
  generalize w.setCell ⟨B, 1, none⟩ (.int .i64 (d1 : Int)) = w1 at *
  go_wp2_with (at_builtin; go_must (refine Lib.wpList_append_run _ rfl _ _ _ _ rfl _ _ rfl rfl _ _ hr2 ?_))
  have HI0 : Hid (∃ i : Nat, i ≤ X.length ∧ Value.int .i64 0 = .int .i64 (i : Int) ∧ Inv (w2.setCell ⟨B, 0, none⟩ (.slice va vn vc)) ∧ WrJ n₀ (w2.setCell ⟨B, 0, none⟩ (.slice va vn vc)) B (L ++ [c1] ++ joinT (X.take i)) d1 ∧ FrW n₀ B w (w2.setCell ⟨B, 0, none⟩ (.slice va vn vc))) := ⟨0, Nat.zero_le _, rfl, HI3.out, by simpa [joinT] using HW3.out, HF3.out⟩
  clear cb hr2 cy3 fy3 lB3 cd3 fb lB1 HW3 HF3 HI3 fd lB cd
  go_loopw [35] (fun iv wr => ∃ i : Nat, i ≤ X.length ∧ iv = .int .i64 (i : Int) ∧ Inv wr ∧ WrJ n₀ wr B (L ++ [c1] ++ joinT (X.take i)) d1 ∧ FrW n₀ B w wr) (fun iv _ => X.length - (RowKit.intOf iv).toNat)
  case atStart => exact HI0.out
  case round =>
    obtain ⟨i, hi, rfl, hI, hw, hf⟩ := hrel
    have HI := hide hI
    have HW := hide hw
    have HF := hide hf
    clear hI hw hf HI0
    generalize wr = wo at *
    have hjl := joinT_len X i
    have HJ : Hid ((L ++ [c1] ++ joinT (X.take i)).length ≤ 1000001) := by
      have := HLN.out
      unfold Hid
      simp only [List.length_append, List.length_cons, List.length_nil]
      omega
    by_cases hlt : i < X.length
    · obtain ⟨i1, hi1⟩ : ∃ i1, i + 1 = i1 := ⟨_, rfl⟩
      have e5 : (i : Int) + 1 = (i1 : Int) := by omega
      have g5 : (i1 : Int) ≤ 1000000000 := by have := HNX.out; omega
      have d5 : (i : Int) < (X.length : Int) := by omega
      have HT := hide (joinT_take hlt)
      rw [hi1] at HT
      have HX := hide hlt
      have HI1 := hide hi1
      have HPI := hide (fun W L' h1 h2 h3 => HP.out W L' i hlt h1 h2 h3)
      generalize X[i] = xi at *
      clear hlt hi1 hjl hi
      by_cases h0 : i = 0
      · subst h0
        have HT0 : Hid (joinT (X.take i1) = joinT (X.take 0) ++ xi) := by
          show _ = _
          rw [HT.out]
          simp [joinT]
        have d6 : ¬ ((0 : Nat) : Int) > 0 := by omega
        go_wp2_with fail
        refine (HPI.out wo _ HI.out HW.out (by have := HJ.out; omega)).mono ?_
        rintro e w4 ⟨rfl, hw4, hf4⟩
        have HW4 := hide hw4
        have HF4 := hide hf4
        clear hw4 hf4
        go_wp2
        go_roundw
        case rel =>
          refine ⟨i1, by have := HI1.out; have := HX.out; omega, by first | rfl | go_num | (rw [show i1 = 0 + 1 from HI1.out.symm]; rfl), HIV.out _ _ HI.out HF4.out, ?_, HF.out.trans HF4.out⟩
          rw [HT0.out, ← List.append_assoc]
          exact HW4.out
        case measure => have := HI1.out; have := HX.out; simp [RowKit.intOf]; omega
      · have HT0 : Hid (joinT (X.take i1) = joinT (X.take i) ++ [44] ++ xi) := by
          show _ = _
          rw [HT.out, if_neg h0]
        have d6 : (i : Int) > 0 := by omega
        have HA : Hid (Calls Tryd.prog 34 #[.pointer (some ⟨B, 0, none⟩), .string ⟨#[44]⟩] wo fun e w' => e = .returned (.tuple #[]) ∧ WrJ n₀ w' B (L ++ [c1] ++ joinT (X.take i) ++ [44]) d1 ∧ FrW n₀ B wo w') := add_calls n₀ wo B _ [44] d1 HW.out (by decide) (by have := HJ.out; simp only [List.length_cons, List.length_nil]; omega)
        clear h0
        go_wp2_with fail
        refine HA.out.mono ?_
        rintro e w4 ⟨rfl, hw4, hf4⟩
        have HW4 := hide hw4
        have HF4 := hide hf4
        clear hw4 hf4
        go_wp2_with fail
        refine (HPI.out w4 _ (HIV.out _ _ HI.out HF4.out) HW4.out (by have := HJ.out; rw [List.length_append]; simp only [List.length_cons, List.length_nil]; omega)).mono ?_
        rintro e w5 ⟨rfl, hw5, hf5⟩
        have HW5 := hide hw5
        have HF5 := hide hf5
        clear hw5 hf5
        go_wp2
        go_roundw
        case rel =>
          refine ⟨i1, by have := HI1.out; have := HX.out; omega, by first | rfl | go_num, HIV.out _ _ (HIV.out _ _ HI.out HF4.out) HF5.out, ?_, (HF.out.trans HF4.out).trans HF5.out⟩
          rw [HT0.out, ← List.append_assoc, ← List.append_assoc]
          exact HW5.out
        case measure => have := HI1.out; have := HX.out; simp [RowKit.intOf]; omega
    · obtain rfl : i = X.length := by omega
      rw [List.take_length] at HW HJ
      have d5 : ¬ (X.length : Int) < (X.length : Int) := by omega
      obtain ⟨bv', va', vn', vc', w4, cb', hr4, hw5, hf5, ⟨y5, cy5⟩, fy5, lB5, cd5⟩ := HW.out.byte HH2.out (by have := HJ.out; omega)
      obtain ⟨hw6, cd6, fd6, lB6⟩ := hw5.deep d
      have lBo : B < wo.heap.size := by obtain ⟨_, hx, _⟩ := HW.out; exact hx.lt
      have HW6 := hide hw6
      have HF6 := hide ((HF.out.trans hf5).set 1 (.int .i64 (d : Int)))
      clear hw5 hf5 hw6 hlt hjl hi HI HP
      go_wp2_with (at_builtin; go_must (refine Lib.wpList_append_run _ rfl _ _ _ _ rfl _ _ rfl rfl _ _ hr4 ?_))
      go_end0
      exact ⟨rfl, by have h := HW6.out; simp only [List.append_assoc, List.cons_append, List.nil_append] at h ⊢; exact h, HF6.out⟩

end Go.Proofs.YtacgocfgcoejpaaDoor
