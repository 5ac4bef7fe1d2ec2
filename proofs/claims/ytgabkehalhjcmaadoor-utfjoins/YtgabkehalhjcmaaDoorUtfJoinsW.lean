/- The law UtfJoins, walked. -/
import Derived.Test.YtgabkehalhjcmaaDoorULaw1
import Derived.Test.YtgabkehalhjcmaaDoorUJoin
namespace Go.Proofs.YtgabkehalhjcmaaDoor
set_option linter.unusedVariables false
set_option linter.unusedSimpArgs false
set_option maxRecDepth 100000
open Go Go.RowKit Go.Shelf Go.Lib

theorem infoU8 : (Tryd.prog.info? 5).map (fun i => (i.zero, i.size, i.bytes)) = some (some (.int .u8 0), 1, 1) := by kernel_rfl
def u8s (T : List Nat) : List Value := T.map (fun z : Nat => Value.int .u8 (z : Int))
theorem u8s_length (T : List Nat) : (u8s T).length = T.length := by simp [u8s]
/-- Bytes that the call has gathered in memory of its own. -/
def OwnB (n₀ : Nat) (W : World) (v : Value) (T : List Nat) : Prop := W.ownsRow n₀ 5 1 v T.length (u8s T)
theorem OwnB.empty (w : World) : OwnB w.heap.size (w.alloc (.cells #[] 5)) (.slice (some ⟨w.heap.size, 0, none⟩) 0 0) [] :=
  World.ownsRow_lit w #[] 0 (Nat.le_refl _) (Nat.zero_le _) rfl
theorem OwnB.byt {n₀ : Nat} {W : World} {v : Value} {T : List Nat} (hT : ∀ x ∈ T, x < 256) (h : OwnB n₀ W v T) : ∃ ao cap, v = .slice ao T.length cap ∧ Byt W ao cap T := by
  rcases id h.2 with ⟨rfl, h0⟩ | ⟨g, cap, cur, rfl, hg, hh, hn, hm, hc, ht⟩
  · obtain rfl : T = [] := List.length_eq_zero_iff.1 h0
    exact ⟨none, 0, rfl, ⟨none, 0, rfl, hT, fun j hj => by simp at hj⟩, Nat.le_refl _, fun _ => rfl⟩
  · refine ⟨_, _, rfl, ⟨some ⟨g, 0, none⟩, cap, rfl, hT, fun j hj => ⟨g, 0, rfl, ?_⟩⟩, hn, fun e => by cases e⟩
    have := World.ownsRow.cellAt h j (by omega)
    rw [Nat.zero_add, this]
    simp [nth, hj, u8s]
theorem run_app_none (w : World) (n₀ : Nat) (ty : TypeId) (v : Value) (T : List Nat) (c : Nat) (hown : OwnB n₀ w v T) : (Builtin.append_ #[22, 22] ty #[v, .slice none 0 c]).run Tryd.prog w = .ok v w := by
  obtain ⟨i0, hi, hz0, hz1, hz2⟩ := info_parts infoU8
  rcases hown.2 with ⟨rfl, h0⟩ | ⟨g, cap, cur, rfl, _, _, hnc, _⟩
  · simp [Builtin.append_, run_underlying Tryd.underlying22, sizeOf, typeInfo, hi, Builtin.lenOf, Builtin.firstCells]
  · simp [Builtin.append_, run_underlying Tryd.underlying22, sizeOf, typeInfo, hi, Builtin.lenOf, Builtin.firstCells, hnc, storeCells]
theorem wpList_appB (w : World) {ops : Array Oper} {rest : List Oper} {o : Oper} {a : Act} {Q : Exit → Act → World → Prop} (hg : o.guard = none) (s x : Operand)
    (ho : o.op = .call { callee := .builtin .append, args := #[s, x], argTypes := #[22, 22] })
    (n₀ : Nat) (v : Value) (gs : List Nat) (hs : a.eval s = v) (hown : OwnB n₀ w v gs) (ao : Option Addr) (cap : Nat) (xs : List Nat) (hx : a.eval x = .slice ao xs.length cap) (hl : Byts w (.slice ao xs.length cap) xs) (hsum : gs.length + xs.length ≤ 1048576) (hbase : n₀ ≤ w.heap.size)
    (h : ∀ v' w', OwnB n₀ w' v' (gs ++ xs) → w.grownBy w' v.ownBlock → wpList Tryd.prog ops Q rest (a.put o.dst v') w') : wpList Tryd.prog ops Q (o :: rest) a w := by
  obtain ⟨ao', cap', e, h1, h4⟩ := hl
  cases e
  obtain ⟨i0, hi, hz0, hz1, hz2⟩ := info_parts infoU8
  cases ao with
  | none =>
    have hd0 : xs = [] := by
      cases xs with
      | nil => rfl
      | cons y r => obtain ⟨b, off, e, _⟩ := h4 0 (by simp); cases e
    subst hd0
    refine wpList_plain hg fun K hK => ?_
    have hrun := run_app_none w n₀ o.type v gs cap hown
    unfold Oper.wp
    simp only [List.length_nil] at hx
    simp [execOp, ho, resolve, invoke, builtin, hs, hx, hrun, Result.andThen]
    exact hK _ _ (h v w (by simpa using hown) ⟨rfl, rfl, rfl, Nat.le_refl _, fun _ _ _ => rfl⟩)
  | some ad =>
    refine wpList_append_own w hg s x 22 ho n₀ 5 i0 (.int .u8 0) 1 1 Tryd.underlying22 hi hz0 hz1 hz2 rfl (by decide) v gs.length (u8s gs) hs hown ad xs.length cap (u8s xs) hx (by simp [u8s]) ?_ ?_ (by unfold maxLen; omega) (by omega) hbase ?_
    · intro j u hj
      have hj2 : j < xs.length := by
        have := (List.getElem?_eq_some_iff.1 hj).1
        rw [u8s_length] at this
        exact this
      obtain ⟨b, off, e, hc⟩ := h4 j hj2
      cases e
      have ha : (⟨b, off, none⟩ : Addr).add j = ⟨b, off + j, none⟩ := by
        unfold Addr.add
        split
        · rename_i h0; simp [h0]
        · rfl
      rw [ha, hc]
      simp [u8s, hj2] at hj
      rw [← hj]
      simp [nth, hj2]
    · intro u hu
      obtain ⟨z, _, rfl⟩ := List.mem_map.1 hu
      rfl
    · intro v' w' hown' hgrow _
      refine h v' w' ?_ hgrow
      unfold OwnB
      rw [List.length_append]
      have : u8s (gs ++ xs) = u8s gs ++ u8s xs := by simp [u8s]
      rw [this]
      exact hown'
theorem count_same {T : List Nat} {N N' : Nat} (h1 : ∀ k, k < N → posL T k < T.length) (h2 : posL T N = T.length) (g1 : ∀ k, k < N' → posL T k < T.length) (g2 : posL T N' = T.length) : N = N' := by
  rcases Nat.lt_trichotomy N N' with g | g | g
  · have := g1 N g; omega
  · exact g
  · have := h1 N' g; omega
theorem told_zero {T : List Nat} {N a : Nat} {e : Int} (h : Told T N a e) (he : e = 0) : AllLet T N := by
  rcases h with ⟨k, _, _, _, _, h⟩ | ⟨h, _⟩
  · omega
  · exact h
theorem told_all {T : List Nat} {N a : Nat} {e : Int} (h : Told T N a e) (hv : AllLet T N) : e = 0 := by
  rcases h with ⟨k, hk, _, h2, _, _⟩ | ⟨_, _, h⟩
  · exact absurd h2 (hv k hk)
  · exact h

set_option maxHeartbeats 3000000 in
theorem utfjoins_calls (w : World) (ao : Option Addr) (cap : Nat) (A : List Nat) (h : Byt w ao cap A) (bo : Option Addr) (bc : Nat) (B : List Nat) (h' : Byt w bo bc B) (hK : Know w) :
    Calls Tryd.prog 7 #[.slice ao A.length cap, .slice bo B.length bc] w fun e w' => e = .returned (.bool true) ∧ Below w.heap.size w w' := by
  have hsA := h.1.small
  have hsB := h'.1.small
  obtain ⟨N, n1, n2⟩ := letters_count hsA
  obtain ⟨M, m1, m2⟩ := letters_count hsB
  have hsC : ∀ x ∈ A ++ B, x < 256 := fun x hx => by
    rcases List.mem_append.1 hx with g | g
    · exact hsA x g
    · exact hsB x g
  obtain ⟨C, hCe⟩ : ∃ C, A ++ B = C := ⟨_, rfl⟩
  rw [hCe] at hsC
  have hlC0 : C.length = A.length + B.length := by rw [← hCe, List.length_append]
  have HLC := hide hlC0
  have HCe := hide hCe
  obtain ⟨Q, q1, q2⟩ := letters_count hsC
  have HA := hide h
  have HB := hide h'
  have HK := hide hK
  have HSA := hide hsA
  have HSC := hide hsC
  have N1 := hide n1
  have N2 := hide n2
  have M1 := hide m1
  have M2 := hide m2
  have Q1 := hide q1
  have Q2 := hide q2
  have hj0 := join_lines A B
  rw [hCe] at hj0
  have HJ := hide hj0
  clear h h' hK n1 n2 m1 m2 q1 q2 hsA hsB hsC hCe hlC0 hj0
  by_cases hl : A.length ≤ 400 ∧ B.length ≤ 400
  · obtain ⟨hl1, hl2⟩ := hl
    have hl1' : ¬ (A.length : Int) > 400 := by omega
    have hl2' : ¬ (B.length : Int) > 400 := by omega
    go_enter Tryd.func7, Tryd.ntmps7
    go_wp2_with fail
    refine (lettered_calls _ HK.out).mono ?_
    rintro e W1 ⟨rfl, hb1⟩
    have KB1 := hide hb1
    have HA1 := hide (HA.out.below hb1)
    clear hb1
    go_wp2_with fail
    refine (valid_calls _ _ _ A N HA1.out.1 (HK.out.below KB1.out).tabs N1.out N2.out (by omega) HA1.out.2.1).mono ?_
    rintro e W2 ⟨a1, e1, rfl, hT1, hb2⟩
    have KB2 := hide (bafter KB1.out hb2 (Nat.le_refl _))
    have HT1 := hide hT1
    have HB2 := hide (HB.out.below KB2.out)
    clear hb2 hT1 HA1 KB1
    go_wp2_with fail
    refine (valid_calls _ _ _ B M HB2.out.1 (HK.out.below KB2.out).tabs M1.out M2.out (by omega) HB2.out.2.1).mono ?_
    rintro e W3 ⟨a2, e2, rfl, hT2, hb3⟩
    have KB3 := hide (bafter KB2.out hb3 (Nat.le_refl _))
    have HT2 := hide hT2
    have hs3 : w.heap.size ≤ W3.heap.size := KB3.out.size
    clear hb3 hT2 HB2 KB2
    have HBE : Hid (Below w.heap.size w (W3.alloc (.cells #[] 5))) := KB3.out.alloc hs3 _
    go_wp2_with (at_builtin; first
      | (refine wpList_appB _ rfl (.tmp 35) (.tmp 36) rfl W3.heap.size (.slice (some ⟨W3.heap.size, 0, none⟩) 0 0) [] rfl (OwnB.empty W3) ao cap A rfl (HA.out.below HBE.out).1 (by simp; omega) (by simp) ?_
         intro v1 V1 hown1 hg1
         have hbV1 : Below W3.heap.size W3 V1 := (bel W3 _).grown hg1 (by simp) (fun j hj => by cases hj; exact Nat.le_refl _)
         have HO1 := hide hown1
         have hsV : W3.heap.size ≤ V1.heap.size := hbV1.size
         have KV1 := hide (bafter KB3.out hbV1 (Nat.le_refl _))
         have HbV1 := hide hbV1
         clear hown1 hg1 hbV1 HBE)
      | (go_must (refine wpList_appB _ rfl (.tmp 37) (.tmp 38) rfl W3.heap.size _ ([] ++ A) rfl HO1.out bo bc B rfl (HB.out.below KV1.out).1 (by simp; omega) hsV ?_; intro v2 V2 hown2 hg2)))
    have hbV2 : Below W3.heap.size W3 V2 := HbV1.out.grown hg2 hsV (fun j hj => (HO1.out.lt j hj).1)
    rw [List.nil_append, HCe.out] at hown2
    have KV2 := hide (bafter KB3.out hbV2 (Nat.le_refl _))
    obtain ⟨co, cc, rfl, hC⟩ := hown2.byt HSC.out
    have HC := hide hC
    clear hown2 hg2 hbV2 hC HO1 KV1 HbV1
    go_wp2_with fail
    have hlC : C.length ≤ 1000000000 := by have := HLC.out; omega
    refine (valid_calls _ _ _ C Q HC.out.1 (HK.out.below KV2.out).tabs Q1.out Q2.out (by omega) HC.out.2.1).mono ?_
    rintro e W4 ⟨a3, e3, rfl, hT3, hb4⟩
    have HC4 := hide (HC.out.below hb4)
    have KB4 := hide (bafter KV2.out hb4 (Nat.le_refl _))
    have HT3 := hide hT3
    clear hb4 hT3 HC KV2
    by_cases he1 : e1 = 0
    · by_cases he2 : e2 = 0
      · have v1 := told_zero HT1.out he1
        have v2 := told_zero HT2.out he2
        have jj := join_count HSA.out N1.out N2.out v1 M1.out M2.out v2
        rw [HCe.out] at jj
        obtain ⟨j1, j2, j3, j4⟩ := jj
        have hQ := count_same Q1.out Q2.out j1 j2
        subst hQ
        have he3 := told_all HT3.out j3
        subst he1 he2 he3
        have z1 : ((0 : Int) != 0) = false := by decide
        have HJ4 := hide j4
        clear v1 v2 j1 j2 j3 j4 HT1 HT2 HT3
        go_wp2_with fail
        refine (units_calls _ _ _ C (N + M) HC4.out.1 (HK.out.below KB4.out).tabs Q1.out Q2.out hlC HC4.out.2.1).mono ?_
        rintro e W5 ⟨rfl, hb5⟩
        have HC5 := hide (HC4.out.below hb5)
        have KB5 := hide (bafter KB4.out hb5 (Nat.le_refl _))
        have HA5 := hide (HA.out.below KB5.out)
        clear hb5 HC4 KB4
        go_wp2_with fail
        refine (units_calls _ _ _ A N HA5.out.1 (HK.out.below KB5.out).tabs N1.out N2.out (by omega) HA5.out.2.1).mono ?_
        rintro e W6 ⟨rfl, hb6⟩
        have HC6 := hide (HC5.out.below hb6)
        have KB6 := hide (bafter KB5.out hb6 (Nat.le_refl _))
        have HB6 := hide (HB.out.below KB6.out)
        clear hb6 HC5 KB5 HA5
        go_wp2_with fail
        refine (units_calls _ _ _ B M HB6.out.1 (HK.out.below KB6.out).tabs M1.out M2.out (by omega) HB6.out.2.1).mono ?_
        rintro e X ⟨rfl, hb7⟩
        have HCx := hide (HC6.out.below hb7)
        have KX := hide (bafter KB6.out hb7 (Nat.le_refl _))
        have HAx := hide (HA.out.below KX.out)
        have HBx := hide (HB.out.below KX.out)
        clear hb7 HC6 KB6 HB6
        have uA := unitsL_le A N
        have uB := unitsL_le B M
        have hNA : N ≤ A.length := by have := posL_ge HSA.out N1.out N (Nat.le_refl _); have := N2.out; omega
        have hMB : M ≤ B.length := by have := posL_ge HB.out.1.small M1.out M (Nat.le_refl _); have := M2.out; omega
        rw [HJ4.out]
        generalize unitsL A N = ua at *
        generalize unitsL B M = ub at *
        obtain ⟨us, hus⟩ : ∃ us, ua + ub = us := ⟨_, rfl⟩
        have hus' : (ua : Int) + (ub : Int) = (us : Int) := by omega
        have husb : us ≤ 1600 := by omega
        rw [hus]
        have hne : ((us : Int) != (us : Int)) = false := by simp
        clear hus uA uB hNA hMB HJ4
        by_cases g1 : 0 < A.length
        · have g1' : (A.length : Int) > 0 := by omega
          obtain ⟨pa, qa, hpa, ca⟩ : ∃ b off, ao = some ⟨b, off, none⟩ ∧ X.cell? ⟨b, off + (A.length - 1), none⟩ = some (.int .u8 ((nth A (A.length - 1) : Nat) : Int)) := by
            obtain ⟨_, _, e, _, hc⟩ := HAx.out.1
            cases e
            exact hc (A.length - 1) (by omega)
          by_cases g2 : 0 < B.length
          · have g2' : (B.length : Int) > 0 := by omega
            obtain ⟨pb, qb, hpb, cb⟩ : ∃ b off, bo = some ⟨b, off, none⟩ ∧ X.cell? ⟨b, off, none⟩ = some (.int .u8 ((nth B 0 : Nat) : Int)) := by
              obtain ⟨_, _, e, _, hc⟩ := HBx.out.1
              cases e
              obtain ⟨b, off, e, hc0⟩ := hc 0 g2
              exact ⟨b, off, e, by simpa using hc0⟩
            subst hpa hpb
            obtain ⟨lx, hlx⟩ : ∃ lx, A.length - 1 = lx := ⟨_, rfl⟩
            have hlx' : (A.length : Int) - 1 = (lx : Int) := by omega
            have hlx2 : (lx : Int) < (A.length : Int) := by omega
            have hlx3 : (0 : Int) ≤ (lx : Int) := by omega
            have HCE : Hid (cutEnd A B ↔ nth A lx = 13 ∧ nth B 0 = 10) := by
              show _ ↔ _
              unfold cutEnd
              rw [hlx]
              exact ⟨fun g => ⟨g.2.2.1, g.2.2.2⟩, fun g => ⟨g1, g2, g.1, g.2⟩⟩
            rw [hlx] at ca
            obtain ⟨x, hx⟩ : ∃ x, nth A lx = x := ⟨_, rfl⟩
            obtain ⟨y, hy⟩ : ∃ y, nth B 0 = y := ⟨_, rfl⟩
            rw [hx] at ca HCE
            rw [hy] at cb HCE
            clear hlx hx hy
            by_cases x13 : x = 13
            · have ex : ((x : Int) == 13) = true := by rw [x13]; rfl
              by_cases y10 : y = 10
              · have ey : ((y : Int) == 10) = true := by rw [y10]; rfl
                have HCUT := hide (HCE.out.2 ⟨x13, y10⟩)
                clear x13 y10 HCE
                go_wp2_with fail
                refine (lines_calls _ _ _ C HCx.out.1 hlC).mono ?_
                rintro e Y1 ⟨rv1, rfl, hO1, hy1⟩
                obtain ⟨p1, q1, rfl, _⟩ := hO1.ints
                have HA1 := hide (HAx.out.below hy1)
                have HB1 := hide (HBx.out.below hy1)
                have KY1 := hide (bafter KX.out hy1 (Nat.le_refl _))
                clear hy1 hO1
                go_wp2_with fail
                refine (lines_calls _ _ _ A HA1.out.1 (by omega)).mono ?_
                rintro e Y2 ⟨rv2, rfl, hO2, hy2⟩
                obtain ⟨p2, q2, rfl, _⟩ := hO2.ints
                have HB2 := hide (HB1.out.below hy2)
                have KY2 := hide (bafter KY1.out hy2 (Nat.le_refl _))
                clear hy2 hO2
                go_wp2_with fail
                refine (lines_calls _ _ _ B HB2.out.1 (by omega)).mono ?_
                rintro e Y3 ⟨rv3, rfl, hO3, hy3⟩
                obtain ⟨p3, q3, rfl, _⟩ := hO3.ints
                have KY3 := hide (bafter KY2.out hy3 (Nat.le_refl _))
                have hjl := HJ.out.1 HCUT.out
                have lA : (linesL A).length ≤ 401 := by have := linesTo_length A (A).length; unfold linesL; omega
                have lB : (linesL B).length ≤ 401 := by have := linesTo_length B (B).length; unfold linesL; omega
                clear hy3 hO3
                generalize (linesL C).length = zc at *
                generalize (linesL A).length = za at *
                generalize (linesL B).length = zb at *
                obtain ⟨zs, hzs⟩ : ∃ zs, za + zb = zs := ⟨_, rfl⟩
                have hzs' : (za : Int) + (zb : Int) = (zs : Int) := by omega
                have hzb : zs ≤ 802 := by omega
                have hz2 : (zs : Int) - 2 = (zc : Int) := by omega
                have hee : ((zc : Int) == (zc : Int)) = true := by simp
                clear hzs hjl lA lB
                go_wp2
                go_ret
                exact ⟨rfl, KY3.out⟩
              · have ey : ((y : Int) == 10) = false := beq_eq_false_iff_ne.2 (by omega)
                have HCUT : Hid (¬ cutEnd A B) := fun g => y10 (HCE.out.1 g).2
                clear x13 y10 HCE
                go_wp2_with fail
                refine (lines_calls _ _ _ C HCx.out.1 hlC).mono ?_
                rintro e Y1 ⟨rv1, rfl, hO1, hy1⟩
                obtain ⟨p1, q1, rfl, _⟩ := hO1.ints
                have HA1 := hide (HAx.out.below hy1)
                have HB1 := hide (HBx.out.below hy1)
                have KY1 := hide (bafter KX.out hy1 (Nat.le_refl _))
                clear hy1 hO1
                go_wp2_with fail
                refine (lines_calls _ _ _ A HA1.out.1 (by omega)).mono ?_
                rintro e Y2 ⟨rv2, rfl, hO2, hy2⟩
                obtain ⟨p2, q2, rfl, _⟩ := hO2.ints
                have HB2 := hide (HB1.out.below hy2)
                have KY2 := hide (bafter KY1.out hy2 (Nat.le_refl _))
                clear hy2 hO2
                go_wp2_with fail
                refine (lines_calls _ _ _ B HB2.out.1 (by omega)).mono ?_
                rintro e Y3 ⟨rv3, rfl, hO3, hy3⟩
                obtain ⟨p3, q3, rfl, _⟩ := hO3.ints
                have KY3 := hide (bafter KY2.out hy3 (Nat.le_refl _))
                have hjl := HJ.out.2 HCUT.out
                have lA : (linesL A).length ≤ 401 := by have := linesTo_length A (A).length; unfold linesL; omega
                have lB : (linesL B).length ≤ 401 := by have := linesTo_length B (B).length; unfold linesL; omega
                clear hy3 hO3
                generalize (linesL C).length = zc at *
                generalize (linesL A).length = za at *
                generalize (linesL B).length = zb at *
                obtain ⟨zs, hzs⟩ : ∃ zs, za + zb = zs := ⟨_, rfl⟩
                have hzs' : (za : Int) + (zb : Int) = (zs : Int) := by omega
                have hzb : zs ≤ 802 := by omega
                have hz2 : (zs : Int) - 1 = (zc : Int) := by omega
                have hee : ((zc : Int) == (zc : Int)) = true := by simp
                clear hzs hjl lA lB
                go_wp2
                go_ret
                exact ⟨rfl, KY3.out⟩
            · have ex : ((x : Int) == 13) = false := beq_eq_false_iff_ne.2 (by omega)
              have HCUT : Hid (¬ cutEnd A B) := fun g => x13 (HCE.out.1 g).1
              clear x13 HCE
              go_wp2_with fail
              refine (lines_calls _ _ _ C HCx.out.1 hlC).mono ?_
              rintro e Y1 ⟨rv1, rfl, hO1, hy1⟩
              obtain ⟨p1, q1, rfl, _⟩ := hO1.ints
              have HA1 := hide (HAx.out.below hy1)
              have HB1 := hide (HBx.out.below hy1)
              have KY1 := hide (bafter KX.out hy1 (Nat.le_refl _))
              clear hy1 hO1
              go_wp2_with fail
              refine (lines_calls _ _ _ A HA1.out.1 (by omega)).mono ?_
              rintro e Y2 ⟨rv2, rfl, hO2, hy2⟩
              obtain ⟨p2, q2, rfl, _⟩ := hO2.ints
              have HB2 := hide (HB1.out.below hy2)
              have KY2 := hide (bafter KY1.out hy2 (Nat.le_refl _))
              clear hy2 hO2
              go_wp2_with fail
              refine (lines_calls _ _ _ B HB2.out.1 (by omega)).mono ?_
              rintro e Y3 ⟨rv3, rfl, hO3, hy3⟩
              obtain ⟨p3, q3, rfl, _⟩ := hO3.ints
              have KY3 := hide (bafter KY2.out hy3 (Nat.le_refl _))
              have hjl := HJ.out.2 HCUT.out
              have lA : (linesL A).length ≤ 401 := by have := linesTo_length A (A).length; unfold linesL; omega
              have lB : (linesL B).length ≤ 401 := by have := linesTo_length B (B).length; unfold linesL; omega
              clear hy3 hO3
              generalize (linesL C).length = zc at *
              generalize (linesL A).length = za at *
              generalize (linesL B).length = zb at *
              obtain ⟨zs, hzs⟩ : ∃ zs, za + zb = zs := ⟨_, rfl⟩
              have hzs' : (za : Int) + (zb : Int) = (zs : Int) := by omega
              have hzb : zs ≤ 802 := by omega
              have hz2 : (zs : Int) - 1 = (zc : Int) := by omega
              have hee : ((zc : Int) == (zc : Int)) = true := by simp
              clear hzs hjl lA lB
              go_wp2
              go_ret
              exact ⟨rfl, KY3.out⟩
          · have g2' : ¬ (B.length : Int) > 0 := by omega
            have HCUT : Hid (¬ cutEnd A B) := fun g => g2 g.2.1
            obtain rfl : B = [] := List.length_eq_zero_iff.1 (by omega)
            subst hpa
            clear g2 ca g2'
            go_wp2_with fail
            refine (lines_calls _ _ _ C HCx.out.1 hlC).mono ?_
            rintro e Y1 ⟨rv1, rfl, hO1, hy1⟩
            obtain ⟨p1, q1, rfl, _⟩ := hO1.ints
            have HA1 := hide (HAx.out.below hy1)
            have HB1 := hide (HBx.out.below hy1)
            have KY1 := hide (bafter KX.out hy1 (Nat.le_refl _))
            clear hy1 hO1
            go_wp2_with fail
            refine (lines_calls _ _ _ A HA1.out.1 (by omega)).mono ?_
            rintro e Y2 ⟨rv2, rfl, hO2, hy2⟩
            obtain ⟨p2, q2, rfl, _⟩ := hO2.ints
            have HB2 := hide (HB1.out.below hy2)
            have KY2 := hide (bafter KY1.out hy2 (Nat.le_refl _))
            clear hy2 hO2
            go_wp2_with fail
            refine (lines_calls _ _ _ ([] : List Nat) HB2.out.1 (by omega)).mono ?_
            rintro e Y3 ⟨rv3, rfl, hO3, hy3⟩
            obtain ⟨p3, q3, rfl, _⟩ := hO3.ints
            have KY3 := hide (bafter KY2.out hy3 (Nat.le_refl _))
            have hjl := HJ.out.2 HCUT.out
            have lA : (linesL A).length ≤ 401 := by have := linesTo_length A (A).length; unfold linesL; omega
            have lB : (linesL ([] : List Nat)).length ≤ 401 := by have := linesTo_length ([] : List Nat) (([] : List Nat)).length; unfold linesL; omega
            clear hy3 hO3
            generalize (linesL C).length = zc at *
            generalize (linesL A).length = za at *
            generalize (linesL ([] : List Nat)).length = zb at *
            obtain ⟨zs, hzs⟩ : ∃ zs, za + zb = zs := ⟨_, rfl⟩
            have hzs' : (za : Int) + (zb : Int) = (zs : Int) := by omega
            have hzb : zs ≤ 802 := by omega
            have hz2 : (zs : Int) - 1 = (zc : Int) := by omega
            have hee : ((zc : Int) == (zc : Int)) = true := by simp
            clear hzs hjl lA lB
            go_wp2
            go_ret
            exact ⟨rfl, KY3.out⟩
        · have g1' : ¬ (A.length : Int) > 0 := by omega
          have HCUT : Hid (¬ cutEnd A B) := fun g => g1 g.1
          obtain rfl : A = [] := List.length_eq_zero_iff.1 (by omega)
          clear g1 g1'
          go_wp2_with fail
          refine (lines_calls _ _ _ C HCx.out.1 hlC).mono ?_
          rintro e Y1 ⟨rv1, rfl, hO1, hy1⟩
          obtain ⟨p1, q1, rfl, _⟩ := hO1.ints
          have HA1 := hide (HAx.out.below hy1)
          have HB1 := hide (HBx.out.below hy1)
          have KY1 := hide (bafter KX.out hy1 (Nat.le_refl _))
          clear hy1 hO1
          go_wp2_with fail
          refine (lines_calls _ _ _ ([] : List Nat) HA1.out.1 (by omega)).mono ?_
          rintro e Y2 ⟨rv2, rfl, hO2, hy2⟩
          obtain ⟨p2, q2, rfl, _⟩ := hO2.ints
          have HB2 := hide (HB1.out.below hy2)
          have KY2 := hide (bafter KY1.out hy2 (Nat.le_refl _))
          clear hy2 hO2
          go_wp2_with fail
          refine (lines_calls _ _ _ B HB2.out.1 (by omega)).mono ?_
          rintro e Y3 ⟨rv3, rfl, hO3, hy3⟩
          obtain ⟨p3, q3, rfl, _⟩ := hO3.ints
          have KY3 := hide (bafter KY2.out hy3 (Nat.le_refl _))
          have hjl := HJ.out.2 HCUT.out
          have lA : (linesL ([] : List Nat)).length ≤ 401 := by have := linesTo_length ([] : List Nat) (([] : List Nat)).length; unfold linesL; omega
          have lB : (linesL B).length ≤ 401 := by have := linesTo_length B (B).length; unfold linesL; omega
          clear hy3 hO3
          generalize (linesL C).length = zc at *
          generalize (linesL ([] : List Nat)).length = za at *
          generalize (linesL B).length = zb at *
          obtain ⟨zs, hzs⟩ : ∃ zs, za + zb = zs := ⟨_, rfl⟩
          have hzs' : (za : Int) + (zb : Int) = (zs : Int) := by omega
          have hzb : zs ≤ 802 := by omega
          have hz2 : (zs : Int) - 1 = (zc : Int) := by omega
          have hee : ((zc : Int) == (zc : Int)) = true := by simp
          clear hzs hjl lA lB
          go_wp2
          go_ret
          exact ⟨rfl, KY3.out⟩
      · have z2 : (e2 != 0) = true := by simp [he2]
        subst he1
        clear he2 HT1 HT2 HT3 HC4
        go_wp2
        go_ret
        exact ⟨rfl, KB4.out⟩
    · have z1 : (e1 != 0) = true := by simp [he1]
      clear he1 HT1 HT2 HT3 HC4
      go_wp2
      go_ret
      exact ⟨rfl, KB4.out⟩
  · by_cases hA : A.length ≤ 400
    · have hl1' : ¬ (A.length : Int) > 400 := by omega
      have hl2' : (B.length : Int) > 400 := by omega
      clear hl
      go_enter Tryd.func7, Tryd.ntmps7
      go_wp2_with fail
      refine (lettered_calls _ HK.out).mono ?_
      rintro e W1 ⟨rfl, hb1⟩
      have KB1 := hide hb1
      clear hb1
      go_wp2_with fail
      refine (lettered_calls _ (HK.out.below KB1.out)).mono ?_
      rintro e W2 ⟨rfl, hb2⟩
      have KB2 := hide (bafter KB1.out hb2 (Nat.le_refl _))
      clear hb2
      go_wp2
      go_ret
      exact ⟨rfl, KB2.out⟩
    · have hl1' : (A.length : Int) > 400 := by omega
      clear hl
      go_enter Tryd.func7, Tryd.ntmps7
      go_wp2_with fail
      refine (lettered_calls _ HK.out).mono ?_
      rintro e W1 ⟨rfl, hb1⟩
      have KB1 := hide hb1
      clear hb1
      go_wp2_with fail
      refine (lettered_calls _ (HK.out.below KB1.out)).mono ?_
      rintro e W2 ⟨rfl, hb2⟩
      have KB2 := hide (bafter KB1.out hb2 (Nat.le_refl _))
      clear hb2
      go_wp2
      go_ret
      exact ⟨rfl, KB2.out⟩

end Go.Proofs.YtgabkehalhjcmaaDoor
