/- JsonMakes: the walk. -/
import Derived.Test.YtcedcbonphgecaaDoorJMade3
namespace Go.Proofs.YtcedcbonphgecaaDoor
set_option linter.unusedVariables false
set_option linter.unusedSimpArgs false
set_option maxRecDepth 100000
open Go Go.RowKit Go.Shelf Go.Lib

def nthS (K : List ByteArray) (j : Nat) : ByteArray := K[j]?.getD ⟨#[]⟩
/-- Strings that came in. -/
def StrsIn (W : World) (v : Value) (K : List ByteArray) : Prop := ∃ ao cap, v = .slice ao K.length cap ∧ ∀ j, j < K.length → ∃ b off, ao = some ⟨b, off, none⟩ ∧ W.cell? ⟨b, off + j, none⟩ = some (.string (nthS K j))
theorem StrsIn.below {W W' : World} {v : Value} {K : List ByteArray} (h : StrsIn W v K) (hb : Below W.heap.size W W') : StrsIn W' v K := by
  obtain ⟨ao, cap, h1, h3⟩ := h
  refine ⟨ao, cap, h1, fun j hj => ?_⟩
  obtain ⟨b, off, h4, h5⟩ := h3 j hj
  exact ⟨b, off, h4, (hb.cell (p := ⟨b, off + j, none⟩) (block_lt h5)).trans h5⟩
/-- The pairs that are made. -/
def prs (K : List ByteArray) : List (ByteArray × ByteArray) := (List.range K.length).map (fun j => (nthS K j, smallS j))
theorem prs_len (K : List ByteArray) : (prs K).length = K.length := by simp [prs]
theorem prs_get {K : List ByteArray} {i : Nat} (h : i < K.length) : (prs K)[i]? = some (nthS K i, smallS i) := by simp [prs, h]

/-- Appending a pair to one's own, in a region that draws. -/
theorem wp_appP (w : World) {o : Oper} {a : Act} {K : Act → World → Prop} {Q : Exit → Act → World → Prop} (s x : Operand)
    (ho : o.op = .call { callee := .builtin .append, args := #[s, x], argTypes := #[56, 56] })
    (n₀ : Nat) (v : Value) (P : List (ByteArray × ByteArray)) (hs : a.eval s = v) (hown : OwnP n₀ w v P) (b c : Nat) (y : ByteArray × ByteArray) (hx : a.eval x = .slice (some ⟨b, 0, none⟩) 1 c) (hl : BoxC w b 58 (pcell y).toArray) (hsum : P.length ≤ 1000000) (hbase : n₀ ≤ w.heap.size)
    (h : ∀ v' w', OwnP n₀ w' v' (P ++ [y]) → w.grownBy w' v.ownBlock → K (a.put o.dst v') w') : o.wp Tryd.prog a w K Q := by
  obtain ⟨i0, hi, hz0, hz1, hz2⟩ := info_parts infoPair
  obtain ⟨v', w', hr, h2, h3', _, h5⟩ := run_append_own_at (P := Tryd.prog) w n₀ 56 o.type 58 i0 _ 5 88 Tryd.underlying56 hi hz0 hz1 hz2 rfl (by decide) v P.length (pcells P) hown ⟨b, 0, none⟩ 1 c (pcell y) rfl (by
      intro j u hj
      have := hl.cell j
      rw [addr_plus, Nat.zero_add, this]
      simpa using hj) (by
      intro u hu
      simp only [pcell, List.mem_cons, List.not_mem_nil, or_false] at hu
      rcases hu with rfl | rfl | rfl | rfl | rfl <;> rfl) (by unfold maxLen; omega) (by omega) hbase
  have h2' : OwnP n₀ w' v' (P ++ [y]) := by
    unfold OwnP
    rw [List.length_append, pcells_append]
    exact h2
  unfold Oper.wp execOp
  simp only [ho, resolve, invoke, builtin, Sem.run_bind, Sem.run_pure, Result.andThen_ok, List.map_toArray, List.map_cons, List.map_nil, hs, hx, hr]
  exact h v' w' h2' h3'

set_option maxHeartbeats 16000000 in
theorem jmakes_calls (w : World) (hU : Utf8Tabs 2 3 w) (ao : Option Addr) (cap n : Nat) (K0 : List ByteArray) (hn : K0.length = n) (hK : StrsIn w (.slice ao n cap) K0) (s : ByteArray) :
    Calls Tryd.prog 8 #[.slice ao n cap, .string s] w fun e w' => e = .returned (.bool true) ∧ Below w.heap.size w w' := by
  have HW := hide (written_calls w hU)
  have HU := hide hU
  have HKK := hide hK
  have HN := hide hn

  clear hU hK hn
  by_cases hbig : n > 20
  · have d1 : (n : Int) > 20 := by omega
    go_enter Tryd.func8, Tryd.ntmps8
    go_wp2_with fail
    refine HW.out.mono ?_
    rintro e w1 ⟨rfl, hB⟩
    have HB := hide hB
    have HW2 := hide (written_calls w1 (Utf8Tabs_below HU.out hB))
    clear hB
    go_wp2_with fail
    refine HW2.out.mono ?_
    rintro e w2 ⟨rfl, hB⟩
    have HB2 := hide hB
    clear hB
    go_wp2
    go_ret
    exact ⟨rfl, HB.out.trans (HB2.out.mono HB.out.size)⟩
  have d1 : ¬ (n : Int) > 20 := by omega
  have HNS : Hid (n ≤ 20) := by unfold Hid; omega
  clear hbig
  go_enter Tryd.func8, Tryd.ntmps8
  go_wp2_with fail
  refine HW.out.mono ?_
  rintro e w1 ⟨rfl, hB⟩
  have HI : Hid (∃ (i : Nat) (pv : Value), i ≤ n ∧ Value.slice none 0 0 = pv ∧ Value.int .i64 0 = .int .i64 (i : Int) ∧ OwnP w.heap.size w1 pv ((prs K0).take i) ∧ Below w.heap.size w w1) := ⟨0, _, Nat.zero_le _, rfl, rfl, World.ownsRow_nil _ _ _ _, hB⟩
  clear hB HW
  go_wp2
  go_loopw [5, 6] (fun lv iv wr => ∃ (i : Nat) (pv : Value), i ≤ n ∧ lv = pv ∧ iv = .int .i64 (i : Int) ∧ OwnP w.heap.size wr pv ((prs K0).take i) ∧ Below w.heap.size w wr) (fun _ iv _ => n - (RowKit.intOf iv).toNat)
  case atStart => exact HI.out
  case round =>
    obtain ⟨i, pv, hi, rfl, rfl, ho, hB⟩ := hrel
    have HO := hide ho
    have HB := hide hB
    obtain ⟨pa, pc, hpv, _⟩ := ho.len
    generalize ((prs K0).take i).length = pn at *
    subst hpv
    clear ho hB HI
    generalize wr = wo at *
    by_cases hlt : i < n
    · have hKo := HKK.out.below (W' := wo) HB.out
      obtain ⟨ao', cap', e, hc⟩ := hKo
      rw [HN.out] at e hc
      cases e
      obtain ⟨b, off, rfl, cx⟩ := hc i hlt
      obtain ⟨i1, hi1⟩ : ∃ i1, i + 1 = i1 := ⟨_, rfl⟩
      have e1 : (i : Int) + 1 = (i1 : Int) := by omega
      have g1 : (i1 : Int) ≤ 1000000000 := by have := HNS.out; omega
      have d2 : (i : Int) < (n : Int) := by omega
      have d0 : (0 : Int) ≤ (i : Int) := by omega
      have HIL := hide hlt
      have HI1 := hide hi1
      have HOF := hide (fun W => of_calls W i (by have := HNS.out; omega))
      have HTP : Hid ((prs K0).take i1 = (prs K0).take i ++ [(nthS K0 i, smallS i)]) := by
        show _ = _
        rw [← HI1.out, List.take_add_one, prs_get (by rw [HN.out]; exact hlt)]
        rfl
      have HBL : Hid (b < w.heap.size) := by
        have h2 := HKK.out
        obtain ⟨ao', cap', e, hc2⟩ := h2
        rw [HN.out] at e hc2
        cases e
        obtain ⟨b', off', e, h3⟩ := hc2 i hlt
        cases e
        exact block_lt h3
      generalize nthS K0 i = key at *
      generalize smallS i = num at *
      have HCX : Hid (∀ W, Below w.heap.size wo W → W.cell? ⟨b, off + i, none⟩ = some (.string key)) := fun W hW => (hW.cell (p := ⟨b, off + i, none⟩) HBL.out).trans cx
      clear hc hlt hi hi1 cx
      go_upto_region 7 with fail
      refine wp_region_held_drew (S := fun X0 : World => X0.cell? ⟨b, off + i, none⟩ = some (.string key)) (by kernel_rfl) (HCX.out _ (Below.refl _ _).drew) (fun hHeld => ?_)
      have hdr : Below wo.heap.size wo wo.drew := (Below.refl _ _).drew
      have HOD := hide (HO.out.below hdr)
      have HBD := hide (HB.out.trans (hdr.mono HB.out.size))
      have HWD := hide (hdr.mono HB.out.size)
      clear hdr
      generalize wo.drew = w2 at *
      refine takeD (i := 0) (v := ?v1) (some 24) rfl (by kernel_rfl) (by kernel_rfl) (by kernel_rfl) (fun _ _ _ h => h) (Or.inl ⟨by rfl, ?hy1⟩) (HCX.out _ HWD.out) (by rfl) ?rest1
      case hy1 => first | (intro w hSw; (try dsimp only at hSw); go_simp; done) | (intro w hSw; (try dsimp only at hSw); go_simp; with_reducible rfl)
      try simp only [Act.put, List.setIfInBounds_toArray, List.set_cons_zero, List.set_cons_succ]
      refine takeD (i := 1) (v := ?v2) (some 25) rfl (by kernel_rfl) (by kernel_rfl) (by kernel_rfl) (fun _ _ _ h => h) (Or.inl ⟨by rfl, ?hy2⟩) (HCX.out _ HWD.out) (by rfl) ?rest2
      case hy2 => first | (intro w hSw; (try dsimp only at hSw); go_simp; done) | (intro w hSw; (try dsimp only at hSw); go_simp; with_reducible rfl)
      try simp only [Act.put, List.setIfInBounds_toArray, List.set_cons_zero, List.set_cons_succ]
      refine takeD (i := 2) (v := ?v3) (some 26) rfl (by kernel_rfl) (by kernel_rfl) (by kernel_rfl) (fun _ _ _ h => h) (Or.inl ⟨by rfl, ?hy3⟩) (HCX.out _ HWD.out) (by rfl) ?rest3
      case hy3 => first | (intro w hSw; (try dsimp only at hSw); go_simp; done) | (intro w hSw; (try dsimp only at hSw); go_simp; with_reducible rfl)
      try simp only [Act.put, List.setIfInBounds_toArray, List.set_cons_zero, List.set_cons_succ]
      refine takeD (i := 3) (v := ?v4) (some 27) rfl (by kernel_rfl) (by kernel_rfl) (by kernel_rfl) (fun _ _ _ h => h) (Or.inl ⟨by rfl, ?hy4⟩) (HCX.out _ HWD.out) (by rfl) ?rest4
      case hy4 => first | (intro w hSw; (try dsimp only at hSw); go_simp; done) | (intro w hSw; (try dsimp only at hSw); go_simp; with_reducible rfl)
      try simp only [Act.put, List.setIfInBounds_toArray, List.set_cons_zero, List.set_cons_succ]
      refine takeD (i := 4) (v := ?v5) (some 28) rfl (by kernel_rfl) (by kernel_rfl) (by kernel_rfl) (fun _ _ _ h => h) (Or.inl ⟨by rfl, ?hy5⟩) (HCX.out _ HWD.out) (by rfl) ?rest5
      case hy5 => first | (intro w hSw; (try dsimp only at hSw); go_simp; done) | (intro w hSw; (try dsimp only at hSw); go_simp; with_reducible rfl)
      try simp only [Act.put, List.setIfInBounds_toArray, List.set_cons_zero, List.set_cons_succ]
      refine takeD (i := 5) (v := ?v6) (some 29) rfl (by kernel_rfl) (by kernel_rfl) (by kernel_rfl) (fun _ _ _ h => h) (Or.inl ⟨by rfl, ?hy6⟩) (HCX.out _ HWD.out) (by rfl) ?rest6
      case hy6 => first | (intro w hSw; (try dsimp only at hSw); go_simp; done) | (intro w hSw; (try dsimp only at hSw); go_simp; with_reducible rfl)
      try simp only [Act.put, List.setIfInBounds_toArray, List.set_cons_zero, List.set_cons_succ]
      refine wpAnyH_ready (rs := [6]) (by kernel_rfl) (by simp) ?_
      refine AllReadyH.cons rfl (fun K hK => ?_) AllReadyH.nil
      go_simp
      refine (HOF.out _).mono ?_
      rintro e w3 ⟨rfl, hB3⟩
      have HO3 := hide (HOD.out.below hB3)
      have HB3 := hide (HBD.out.trans (hB3.mono HBD.out.size))
      have HW3 := hide (HWD.out.trans (hB3.mono HBD.out.size))
      refine hK.out _ _ (HCX.out _ HW3.out) (fun hHeld => ?_)
      clear hK K hB3
      try simp only [Act.put, List.setIfInBounds_toArray, List.set_cons_zero, List.set_cons_succ, vagg, nC]
      refine takeD (i := 7) (v := ?v7) (some 31) rfl (by kernel_rfl) (by kernel_rfl) (by kernel_rfl) (fun _ _ _ h => h) (Or.inl ⟨by rfl, ?hy7⟩) (HCX.out _ HW3.out) (by rfl) ?rest7
      case hy7 => first | (intro w hSw; (try dsimp only at hSw); go_simp; done) | (intro w hSw; (try dsimp only at hSw); go_simp; with_reducible rfl)
      try simp only [Act.put, List.setIfInBounds_toArray, List.set_cons_zero, List.set_cons_succ]
      refine wpAnyH_ready (rs := [8]) (by kernel_rfl) (by simp) ?_
      refine AllReadyH.cons rfl (fun K hK => ?_) AllReadyH.nil
      go_simp
      have hbl := bel w3 (.cells #[.string key, .int .i64 3, .string num, .slice none 0 0, .slice none 0 0] 58)
      have hbx := BoxC.new w3 58 #[.string key, .int .i64 3, .string num, .slice none 0 0, .slice none 0 0]
      have HO4 := hide (HO3.out.below hbl)
      have HB4 := hide (HB3.out.trans (hbl.mono HB3.out.size))
      have HW4 := hide (HW3.out.trans (hbl.mono HB3.out.size))
      refine hK.out _ _ (HCX.out _ HW4.out) (fun hHeld => ?_)
      clear hK K hbl
      try simp only [Act.put, List.setIfInBounds_toArray, List.set_cons_zero, List.set_cons_succ]
      generalize hBn : w3.heap.size = BN at *
      generalize w3.alloc (.cells #[.string key, .int .i64 3, .string num, .slice none 0 0, .slice none 0 0] 58) = w4 at *
      have HBX := hide hbx
      clear hbx
      refine wpAnyH_ready (rs := [9]) (by kernel_rfl) (by simp) ?_
      refine AllReadyH.cons rfl (fun K hK => ?_) AllReadyH.nil
      refine wp_appP _ (.tmp 24) (.tmp 32) rfl w.heap.size (.slice pa pn pc) ((prs K0).take i) rfl HO4.out BN _ (key, num) rfl HBX.out (by rw [List.length_take]; have := HIL.out; have := HNS.out; omega) HB4.out.size ?_
      intro lv' w5 hown hgrow
      obtain ⟨va, vc, hvv, _⟩ := hown.len
      generalize ((prs K0).take i ++ [(key, num)]).length = vn at *
      subst hvv
      have HO5 := hide hown
      have HB5 : Hid (Below w.heap.size w w5) := HB4.out.grown hgrow HB4.out.size (fun j e => (HO4.out.lt j e).1)
      have HW5 : Hid (Below w.heap.size wo w5) := HW4.out.grown hgrow HB4.out.size (fun j e => (HO4.out.lt j e).1)
      refine hK.out _ _ (HCX.out _ HW5.out) (fun hHeld => ?_)
      clear hK K hown hgrow
      try simp only [Act.put, List.setIfInBounds_toArray, List.set_cons_zero, List.set_cons_succ]
      refine takeD (i := 10) (v := ?v8) (some 5) rfl (by kernel_rfl) (by kernel_rfl) (by kernel_rfl) (fun _ _ _ h => h) (Or.inl ⟨by rfl, ?hy8⟩) (HCX.out _ HW5.out) (by rfl) ?rest8
      case hy8 => first | (intro w hSw; (try dsimp only at hSw); go_simp; done) | (intro w hSw; (try dsimp only at hSw); go_simp; with_reducible rfl)
      try simp only [Act.put, List.setIfInBounds_toArray, List.set_cons_zero, List.set_cons_succ]
      refine wpAnyH_done (by kernel_rfl) ?_ _
      go_wp2
      go_roundw
      case rel =>
        refine ⟨i1, _, by have := HIL.out; have := HI1.out; omega, rfl, by first | rfl | go_num, ?_, HB5.out⟩
        rw [HTP.out]
        exact HO5.out
      case measure => have := HIL.out; have := HI1.out; simp [RowKit.intOf]; omega
    · obtain rfl : i = n := by omega
      have hpl : (prs K0).take i = prs K0 := List.take_of_length_le (by rw [prs_len, HN.out]; exact Nat.le_refl _)
      rw [hpl] at HO
      have hlK : ((prs K0).map Prod.fst).length = i := by simp [prs_len, HN.out]
      have hlM : ((prs K0).map (fun x => nC x.2)).length = i := by simp [prs_len, HN.out]
      have HMD := hide (made_calls w.heap.size wo _ (prs K0) HO.out (by rw [prs_len, HN.out]; have := HNS.out; omega))
      have HLK := hide hlK
      have HLM := hide hlM
      have d2 : ¬ (i : Int) < (i : Int) := by omega
      clear hpl hlK hlM hlt hi
      go_wp2_with fail
      refine HMD.out.mono ?_
      rintro e w2 ⟨kv, lv, rfl, hks, hvs, hB2⟩
      obtain ⟨ka, kc, hkv, _⟩ := hks.len
      obtain ⟨la, lc, hlv, _⟩ := hvs.len
      rw [HLK.out] at hkv
      rw [HLM.out] at hlv
      subst hkv hlv
      unfold vagg
      simp only
      have hb3 := bel w2 (.cells #[.int .i64 6, .string ⟨#[]⟩, .slice ka i kc, .slice la i lc] 27)
      have hx3 := BoxC.new w2 27 #[.int .i64 6, .string ⟨#[]⟩, .slice ka i kc, .slice la i lc]
      have hks3 := hks.keep (fun j e => hb3.block j (hks.lt j e).2)
      have hvs3 := hvs.keep (fun j e => hb3.block j (hvs.lt j e).2)
      have hB02 := HB.out.trans (hB2.mono HB.out.size)
      have hB3 := hB02.trans (hb3.mono hB02.size)
      obtain ⟨w3, hw3⟩ : ∃ w3, w2.alloc (.cells #[.int .i64 6, .string ⟨#[]⟩, .slice ka i kc, .slice la i lc] 27) = w3 := ⟨_, rfl⟩
      rw [hw3] at hb3 hx3 hks3 hvs3 hB3
      obtain ⟨D, hD⟩ : ∃ D, w2.heap.size = D := ⟨_, rfl⟩
      rw [hD] at hx3
      have c0 : w3.cell? ⟨D, 0, none⟩ = some (.int .i64 6) := hx3.cell 0
      have c2 : w3.cell? ⟨D, 2, none⟩ = some (.slice ka i kc) := hx3.cell 2
      have c3 : w3.cell? ⟨D, 3, none⟩ = some (.slice la i lc) := hx3.cell 3
      have lD := hx3.lt
      have dne : ((i : Int) != (i : Int)) = false := by simp
      have HW3 := hide hw3
      have HDD := hide hD
      have HX3 := hide hx3
      have HKS := hide hks3
      have HVS := hide hvs3
      have HB3 := hide hB3
      clear hks hvs hB2 hb3 hx3 hks3 hvs3 hB02 hB3 hw3 hD HMD HO HB
      go_upto_region 9 with fail
      rw [HW3.out, HDD.out]
      clear HW3 HDD
      have HI2 : Hid (∃ j : Nat, j ≤ i ∧ Value.int .i64 0 = .int .i64 (j : Int) ∧ Below w3.heap.size w3 w3) := ⟨0, Nat.zero_le _, rfl, Below.refl _ _⟩
      go_wp2
      go_loopw [8] (fun iv wr => ∃ j : Nat, j ≤ i ∧ iv = .int .i64 (j : Int) ∧ Below w3.heap.size w3 wr) (fun iv _ => i - (RowKit.intOf iv).toNat)
      case atStart => exact HI2.out
      case round =>
        obtain ⟨j, hj, rfl, hB⟩ := hrel
        have HB4 := hide hB
        clear hB HI2
        generalize wr = wp at *
        by_cases hlt : j < i
        · have hKo := HKK.out.below (W' := wp) (HB3.out.trans (HB4.out.mono HB3.out.size))
          obtain ⟨ao', cap', e, hc⟩ := hKo
          rw [HN.out] at e hc
          cases e
          obtain ⟨b, off, rfl, cx⟩ := hc j hlt
          have hkx : ((prs K0).map Prod.fst)[j]? = some (nthS K0 j) := by rw [List.getElem?_map, prs_get (by rw [HN.out]; exact hlt)]; rfl
          have hvx : ((prs K0).map (fun x => nC x.2))[j]? = some (nC (smallS j)) := by rw [List.getElem?_map, prs_get (by rw [HN.out]; exact hlt)]; rfl
          have hksw := HKS.out.keep (fun q e => HB4.out.block q (HKS.out.lt q e).2)
          have hvsw := HVS.out.keep (fun q e => HB4.out.block q (HVS.out.lt q e).2)
          obtain ⟨GK, rfl, ck⟩ := hksw.cell hkx
          obtain ⟨GV, rfl, cv⟩ := hvsw.cell hvx
          have hxp := HX3.out.below HB4.out
          have k0 := cv 0 (by omega)
          have k1 := cv 1 (by omega)
          have k2 := cv 2 (by omega)
          have k3 := cv 3 (by omega)
          simp only [vcell, nC, List.getElem?_cons_zero, List.getElem?_cons_succ, Nat.add_zero] at k0 k1 k2 k3
          obtain ⟨j1, hj1⟩ : ∃ j1, j + 1 = j1 := ⟨_, rfl⟩
          have e1 : (j : Int) + 1 = (j1 : Int) := by omega
          have g1 : (j1 : Int) ≤ 1000000000 := by have := HNS.out; omega
          have d3 : (j : Int) < (i : Int) := by omega
          have d0 : (0 : Int) ≤ (j : Int) := by omega
          have HIL := hide hlt
          have HI1 := hide hj1
          have HOF := hide (fun W => of_calls W j (by have := HNS.out; omega))
          have HEQ := hide (fun W => equal_num W (smallS j))
          unfold nC vagg at HOF HEQ
          simp only at HOF HEQ
          generalize nthS K0 j = key at *
          generalize smallS j = num at *
          have hse : (key.toList == key.toList) = true := by simp
          have hsn : (key.toList != key.toList) = false := by simp
          have HCX : Hid (∀ W, Below wp.heap.size wp W → (W.cell? ⟨D, 2, none⟩ = some (.slice (some ⟨GK, 0, none⟩) i kc) ∧ W.cell? ⟨D, 3, none⟩ = some (.slice (some ⟨GV, 0, none⟩) i lc) ∧ W.cell? ⟨GK, j, none⟩ = some (.string key) ∧ W.cell? ⟨b, off + j, none⟩ = some (.string key) ∧ W.cell? ⟨GV, j * 4, none⟩ = some (.int .i64 3) ∧ W.cell? ⟨GV, j * 4 + 1, none⟩ = some (.string num) ∧ W.cell? ⟨GV, j * 4 + 2, none⟩ = some (.slice none 0 0) ∧ W.cell? ⟨GV, j * 4 + 3, none⟩ = some (.slice none 0 0))) := fun W hW =>
            ⟨(hxp.below hW).cell 2, (hxp.below hW).cell 3, (hW.cell (p := ⟨GK, j, none⟩) (block_lt ck)).trans ck, (hW.cell (p := ⟨b, off + j, none⟩) (block_lt cx)).trans cx, (hW.cell (p := ⟨GV, j * 4, none⟩) (block_lt k0)).trans k0, (hW.cell (p := ⟨GV, j * 4 + 1, none⟩) (block_lt k1)).trans k1, (hW.cell (p := ⟨GV, j * 4 + 2, none⟩) (block_lt k2)).trans k2, (hW.cell (p := ⟨GV, j * 4 + 3, none⟩) (block_lt k3)).trans k3⟩
          clear hc hlt hj hj1 cx ck cv hkx hvx hksw hvsw hxp k0 k1 k2 k3 c0 c2 c3 lD HX3 HKS HVS
          go_upto_region 14 with fail
          refine wp_region_held_drew (S := fun X0 : World => X0.cell? ⟨D, 2, none⟩ = some (.slice (some ⟨GK, 0, none⟩) i kc) ∧ X0.cell? ⟨D, 3, none⟩ = some (.slice (some ⟨GV, 0, none⟩) i lc) ∧ X0.cell? ⟨GK, j, none⟩ = some (.string key) ∧ X0.cell? ⟨b, off + j, none⟩ = some (.string key) ∧ X0.cell? ⟨GV, j * 4, none⟩ = some (.int .i64 3) ∧ X0.cell? ⟨GV, j * 4 + 1, none⟩ = some (.string num) ∧ X0.cell? ⟨GV, j * 4 + 2, none⟩ = some (.slice none 0 0) ∧ X0.cell? ⟨GV, j * 4 + 3, none⟩ = some (.slice none 0 0)) (by kernel_rfl) (HCX.out _ (Below.refl _ _).drew) (fun hHeld => ?_)
          have HWD : Hid (Below wp.heap.size wp wp.drew) := (Below.refl _ _).drew
          generalize wp.drew = w5 at *
          refine takeD (i := 0) (v := ?v9) (some 61) rfl (by kernel_rfl) (by kernel_rfl) (by kernel_rfl) (fun _ _ _ h => h) (Or.inl ⟨by rfl, ?hy9⟩) (HCX.out _ HWD.out) (by rfl) ?rest9
          case hy9 => first | (intro w hSw; (try dsimp only at hSw); obtain ⟨s0, s1, s2, s3, s4, s5, s6, s7⟩ := hSw; go_simp; done) | (intro w hSw; (try dsimp only at hSw); obtain ⟨s0, s1, s2, s3, s4, s5, s6, s7⟩ := hSw; go_simp; with_reducible rfl)
          try simp only [Act.put, List.setIfInBounds_toArray, List.set_cons_zero, List.set_cons_succ]
          refine takeD (i := 1) (v := ?v10) (some 62) rfl (by kernel_rfl) (by kernel_rfl) (by kernel_rfl) (fun _ _ _ h => h) (Or.inl ⟨by rfl, ?hy10⟩) (HCX.out _ HWD.out) (by rfl) ?rest10
          case hy10 => first | (intro w hSw; (try dsimp only at hSw); obtain ⟨s0, s1, s2, s3, s4, s5, s6, s7⟩ := hSw; go_simp; done) | (intro w hSw; (try dsimp only at hSw); obtain ⟨s0, s1, s2, s3, s4, s5, s6, s7⟩ := hSw; go_simp; with_reducible rfl)
          try simp only [Act.put, List.setIfInBounds_toArray, List.set_cons_zero, List.set_cons_succ]
          refine takeD (i := 2) (v := ?v11) (some 63) rfl (by kernel_rfl) (by kernel_rfl) (by kernel_rfl) (fun _ _ _ h => h) (Or.inl ⟨by rfl, ?hy11⟩) (HCX.out _ HWD.out) (by rfl) ?rest11
          case hy11 => first | (intro w hSw; (try dsimp only at hSw); obtain ⟨s0, s1, s2, s3, s4, s5, s6, s7⟩ := hSw; go_simp; done) | (intro w hSw; (try dsimp only at hSw); obtain ⟨s0, s1, s2, s3, s4, s5, s6, s7⟩ := hSw; go_simp; with_reducible rfl)
          try simp only [Act.put, List.setIfInBounds_toArray, List.set_cons_zero, List.set_cons_succ]
          refine takeD (i := 3) (v := ?v12) (some 64) rfl (by kernel_rfl) (by kernel_rfl) (by kernel_rfl) (fun _ _ _ h => h) (Or.inl ⟨by rfl, ?hy12⟩) (HCX.out _ HWD.out) (by rfl) ?rest12
          case hy12 => first | (intro w hSw; (try dsimp only at hSw); obtain ⟨s0, s1, s2, s3, s4, s5, s6, s7⟩ := hSw; go_simp; done) | (intro w hSw; (try dsimp only at hSw); obtain ⟨s0, s1, s2, s3, s4, s5, s6, s7⟩ := hSw; go_simp; with_reducible rfl)
          try simp only [Act.put, List.setIfInBounds_toArray, List.set_cons_zero, List.set_cons_succ]
          refine takeD (i := 4) (v := ?v13) (some 65) rfl (by kernel_rfl) (by kernel_rfl) (by kernel_rfl) (fun _ _ _ h => h) (Or.inl ⟨by rfl, ?hy13⟩) (HCX.out _ HWD.out) (by rfl) ?rest13
          case hy13 => first | (intro w hSw; (try dsimp only at hSw); obtain ⟨s0, s1, s2, s3, s4, s5, s6, s7⟩ := hSw; go_simp; done) | (intro w hSw; (try dsimp only at hSw); obtain ⟨s0, s1, s2, s3, s4, s5, s6, s7⟩ := hSw; go_simp; with_reducible rfl)
          try simp only [Act.put, List.setIfInBounds_toArray, List.set_cons_zero, List.set_cons_succ]
          refine takeD (i := 5) (v := ?v14) (some 66) rfl (by kernel_rfl) (by kernel_rfl) (by kernel_rfl) (fun _ _ _ h => h) (Or.inl ⟨by rfl, ?hy14⟩) (HCX.out _ HWD.out) (by rfl) ?rest14
          case hy14 => first | (intro w hSw; (try dsimp only at hSw); obtain ⟨s0, s1, s2, s3, s4, s5, s6, s7⟩ := hSw; go_simp; done) | (intro w hSw; (try dsimp only at hSw); obtain ⟨s0, s1, s2, s3, s4, s5, s6, s7⟩ := hSw; go_simp; with_reducible rfl)
          try simp only [Act.put, List.setIfInBounds_toArray, List.set_cons_zero, List.set_cons_succ]
          refine takeD (i := 6) (v := ?v15) (some 67) rfl (by kernel_rfl) (by kernel_rfl) (by kernel_rfl) (fun _ _ _ h => h) (Or.inl ⟨by rfl, ?hy15⟩) (HCX.out _ HWD.out) (by rfl) ?rest15
          case hy15 => first | (intro w hSw; (try dsimp only at hSw); obtain ⟨s0, s1, s2, s3, s4, s5, s6, s7⟩ := hSw; go_simp; done) | (intro w hSw; (try dsimp only at hSw); obtain ⟨s0, s1, s2, s3, s4, s5, s6, s7⟩ := hSw; go_simp; with_reducible rfl)
          try simp only [Act.put, List.setIfInBounds_toArray, List.set_cons_zero, List.set_cons_succ]
          refine takeD (i := 7) (v := ?v16) (some 68) rfl (by kernel_rfl) (by kernel_rfl) (by kernel_rfl) (fun _ _ _ h => h) (Or.inl ⟨by rfl, ?hy16⟩) (HCX.out _ HWD.out) (by rfl) ?rest16
          case hy16 => first | (intro w hSw; (try dsimp only at hSw); obtain ⟨s0, s1, s2, s3, s4, s5, s6, s7⟩ := hSw; go_simp; done) | (intro w hSw; (try dsimp only at hSw); obtain ⟨s0, s1, s2, s3, s4, s5, s6, s7⟩ := hSw; go_simp; with_reducible rfl)
          try simp only [Act.put, List.setIfInBounds_toArray, List.set_cons_zero, List.set_cons_succ]
          refine takeD (i := 8) (v := ?v17) (some 69) rfl (by kernel_rfl) (by kernel_rfl) (by kernel_rfl) (fun _ _ _ h => h) (Or.inl ⟨by rfl, ?hy17⟩) (HCX.out _ HWD.out) (by rfl) ?rest17
          case hy17 => first | (intro w hSw; (try dsimp only at hSw); obtain ⟨s0, s1, s2, s3, s4, s5, s6, s7⟩ := hSw; go_simp; done) | (intro w hSw; (try dsimp only at hSw); obtain ⟨s0, s1, s2, s3, s4, s5, s6, s7⟩ := hSw; go_simp; with_reducible rfl)
          try simp only [Act.put, List.setIfInBounds_toArray, List.set_cons_zero, List.set_cons_succ]
          refine takeD (i := 9) (v := ?v18) (some 70) rfl (by kernel_rfl) (by kernel_rfl) (by kernel_rfl) (fun _ _ _ h => h) (Or.inl ⟨by rfl, ?hy18⟩) (HCX.out _ HWD.out) (by rfl) ?rest18
          case hy18 => first | (intro w hSw; (try dsimp only at hSw); obtain ⟨s0, s1, s2, s3, s4, s5, s6, s7⟩ := hSw; go_simp; done) | (intro w hSw; (try dsimp only at hSw); obtain ⟨s0, s1, s2, s3, s4, s5, s6, s7⟩ := hSw; go_simp; with_reducible rfl)
          try simp only [Act.put, List.setIfInBounds_toArray, List.set_cons_zero, List.set_cons_succ]
          refine takeD (i := 10) (v := ?v19) (some 71) rfl (by kernel_rfl) (by kernel_rfl) (by kernel_rfl) (fun _ _ _ h => h) (Or.inl ⟨by rfl, ?hy19⟩) (HCX.out _ HWD.out) (by rfl) ?rest19
          case hy19 => first | (intro w hSw; (try dsimp only at hSw); obtain ⟨s0, s1, s2, s3, s4, s5, s6, s7⟩ := hSw; go_simp; done) | (intro w hSw; (try dsimp only at hSw); obtain ⟨s0, s1, s2, s3, s4, s5, s6, s7⟩ := hSw; go_simp; with_reducible rfl)
          try simp only [Act.put, List.setIfInBounds_toArray, List.set_cons_zero, List.set_cons_succ]
          refine takeD (i := 11) (v := ?v20) (some 72) rfl (by kernel_rfl) (by kernel_rfl) (by kernel_rfl) (fun _ _ _ h => h) (Or.inl ⟨by rfl, ?hy20⟩) (HCX.out _ HWD.out) (by rfl) ?rest20
          case hy20 => first | (intro w hSw; (try dsimp only at hSw); obtain ⟨s0, s1, s2, s3, s4, s5, s6, s7⟩ := hSw; go_simp; done) | (intro w hSw; (try dsimp only at hSw); obtain ⟨s0, s1, s2, s3, s4, s5, s6, s7⟩ := hSw; go_simp; with_reducible rfl)
          try simp only [Act.put, List.setIfInBounds_toArray, List.set_cons_zero, List.set_cons_succ]
          refine takeD (i := 12) (v := ?v21) (some 73) rfl (by kernel_rfl) (by kernel_rfl) (by kernel_rfl) (fun _ _ _ h => h) (Or.inl ⟨by rfl, ?hy21⟩) (HCX.out _ HWD.out) (by rfl) ?rest21
          case hy21 => first | (intro w hSw; (try dsimp only at hSw); obtain ⟨s0, s1, s2, s3, s4, s5, s6, s7⟩ := hSw; go_simp; done) | (intro w hSw; (try dsimp only at hSw); obtain ⟨s0, s1, s2, s3, s4, s5, s6, s7⟩ := hSw; go_simp; with_reducible rfl)
          try simp only [Act.put, List.setIfInBounds_toArray, List.set_cons_zero, List.set_cons_succ]
          refine takeD (i := 13) (v := ?v22) (some 74) rfl (by kernel_rfl) (by kernel_rfl) (by kernel_rfl) (fun _ _ _ h => h) (Or.inl ⟨by rfl, ?hy22⟩) (HCX.out _ HWD.out) (by rfl) ?rest22
          case hy22 => first | (intro w hSw; (try dsimp only at hSw); obtain ⟨s0, s1, s2, s3, s4, s5, s6, s7⟩ := hSw; go_simp; done) | (intro w hSw; (try dsimp only at hSw); obtain ⟨s0, s1, s2, s3, s4, s5, s6, s7⟩ := hSw; go_simp; with_reducible rfl)
          try simp only [Act.put, List.setIfInBounds_toArray, List.set_cons_zero, List.set_cons_succ]
          refine takeD (i := 14) (v := ?v23) (some 75) rfl (by kernel_rfl) (by kernel_rfl) (by kernel_rfl) (fun _ _ _ h => h) (Or.inl ⟨by rfl, ?hy23⟩) (HCX.out _ HWD.out) (by rfl) ?rest23
          case hy23 => first | (intro w hSw; (try dsimp only at hSw); obtain ⟨s0, s1, s2, s3, s4, s5, s6, s7⟩ := hSw; go_simp; done) | (intro w hSw; (try dsimp only at hSw); obtain ⟨s0, s1, s2, s3, s4, s5, s6, s7⟩ := hSw; go_simp; with_reducible rfl)
          try simp only [Act.put, List.setIfInBounds_toArray, List.set_cons_zero, List.set_cons_succ]
          refine takeD (i := 15) (v := ?v24) (some 76) rfl (by kernel_rfl) (by kernel_rfl) (by kernel_rfl) (fun _ _ _ h => h) (Or.inl ⟨by rfl, ?hy24⟩) (HCX.out _ HWD.out) (by rfl) ?rest24
          case hy24 => first | (intro w hSw; (try dsimp only at hSw); obtain ⟨s0, s1, s2, s3, s4, s5, s6, s7⟩ := hSw; go_simp; done) | (intro w hSw; (try dsimp only at hSw); obtain ⟨s0, s1, s2, s3, s4, s5, s6, s7⟩ := hSw; go_simp; with_reducible rfl)
          try simp only [Act.put, List.setIfInBounds_toArray, List.set_cons_zero, List.set_cons_succ]
          refine takeD (i := 16) (v := ?v25) (some 77) rfl (by kernel_rfl) (by kernel_rfl) (by kernel_rfl) (fun _ _ _ h => h) (Or.inl ⟨by rfl, ?hy25⟩) (HCX.out _ HWD.out) (by rfl) ?rest25
          case hy25 => first | (intro w hSw; (try dsimp only at hSw); obtain ⟨s0, s1, s2, s3, s4, s5, s6, s7⟩ := hSw; go_simp; done) | (intro w hSw; (try dsimp only at hSw); obtain ⟨s0, s1, s2, s3, s4, s5, s6, s7⟩ := hSw; go_simp; with_reducible rfl)
          try simp only [Act.put, List.setIfInBounds_toArray, List.set_cons_zero, List.set_cons_succ]
          refine wpAnyH_ready (rs := [17]) (by kernel_rfl) (by simp) ?_
          refine AllReadyH.cons rfl (fun K hK => ?_) AllReadyH.nil
          go_simp
          refine (HOF.out _).mono ?_
          rintro e w6 ⟨rfl, hB6⟩
          have HW6 := hide (HWD.out.trans (hB6.mono HWD.out.size))
          refine hK.out _ _ (HCX.out _ HW6.out) (fun hHeld => ?_)
          clear hK K hB6
          try simp only [Act.put, List.setIfInBounds_toArray, List.set_cons_zero, List.set_cons_succ]
          refine wpAnyH_ready (rs := [18]) (by kernel_rfl) (by simp) ?_
          refine AllReadyH.cons rfl (fun K hK => ?_) AllReadyH.nil
          go_simp
          refine (HEQ.out _).mono ?_
          rintro e w7 ⟨rfl, hB7⟩
          have HW7 := hide (HW6.out.trans (hB7.mono HW6.out.size))
          refine hK.out _ _ (HCX.out _ HW7.out) (fun hHeld => ?_)
          clear hK K hB7
          try simp only [Act.put, List.setIfInBounds_toArray, List.set_cons_zero, List.set_cons_succ]
          refine takeD (i := 19) (v := ?v26) (some 80) rfl (by kernel_rfl) (by kernel_rfl) (by kernel_rfl) (fun _ _ _ h => h) (Or.inl ⟨by rfl, ?hy26⟩) (HCX.out _ HW7.out) (by rfl) ?rest26
          case hy26 => first | (intro w hSw; (try dsimp only at hSw); obtain ⟨s0, s1, s2, s3, s4, s5, s6, s7⟩ := hSw; go_simp; done) | (intro w hSw; (try dsimp only at hSw); obtain ⟨s0, s1, s2, s3, s4, s5, s6, s7⟩ := hSw; go_simp; with_reducible rfl)
          try simp only [Act.put, List.setIfInBounds_toArray, List.set_cons_zero, List.set_cons_succ]
          refine takeD (i := 20) (v := ?v27) (some 81) rfl (by kernel_rfl) (by kernel_rfl) (by kernel_rfl) (fun _ _ _ h => h) (Or.inl ⟨by rfl, ?hy27⟩) (HCX.out _ HW7.out) (by rfl) ?rest27
          case hy27 => first | (intro w hSw; (try dsimp only at hSw); obtain ⟨s0, s1, s2, s3, s4, s5, s6, s7⟩ := hSw; go_simp; done) | (intro w hSw; (try dsimp only at hSw); obtain ⟨s0, s1, s2, s3, s4, s5, s6, s7⟩ := hSw; go_simp; with_reducible rfl)
          try simp only [Act.put, List.setIfInBounds_toArray, List.set_cons_zero, List.set_cons_succ]
          refine wpAnyH_done (by kernel_rfl) ?_ _
          go_wp2
          go_roundw
          case rel => exact ⟨j1, by have := HIL.out; have := HI1.out; omega, by first | rfl | go_num, HB4.out.trans (HW7.out.mono HB4.out.size)⟩
          case measure => have := HIL.out; have := HI1.out; simp [RowKit.intOf]; omega
        · obtain rfl : j = i := by omega
          have d3 : ¬ (j : Int) < (j : Int) := by omega
          have HT := hide (text_calls wp s)
          unfold vagg at HT
          simp only at HT
          have hse : (s.toList == s.toList) = true := by simp
          clear hlt hj c0 c2 c3 lD
          go_wp2_with fail
          refine HT.out.mono ?_
          rintro e w6 ⟨rfl, hB6⟩
          have hb7 := bel w6 (.cells #[.int .i64 4, .string s, .slice none 0 0, .slice none 0 0] 27)
          have HB7 : Hid (Below w.heap.size w (w6.alloc (.cells #[.int .i64 4, .string s, .slice none 0 0, .slice none 0 0] 27))) := by
            have h4 := HB3.out.trans (HB4.out.mono HB3.out.size)
            have h6 := h4.trans (hB6.mono h4.size)
            exact h6.trans (hb7.mono h6.size)
          clear hB6 hb7
          go_wp2
          go_ret
          exact ⟨rfl, HB7.out⟩

end Go.Proofs.YtcedcbonphgecaaDoor
