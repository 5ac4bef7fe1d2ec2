/- Json: Made, of pairs with numbers. -/
import Derived.Test.YtacgocfgcoejpaaDoorJMade2
namespace Go.Proofs.YtacgocfgcoejpaaDoor
set_option linter.unusedVariables false
set_option linter.unusedSimpArgs false
set_option maxRecDepth 100000
open Go Go.RowKit Go.Shelf Go.Lib

set_option maxHeartbeats 16000000 in
theorem made_calls (n₁ : Nat) (w : World) (pv : Value) (P : List (ByteArray × ByteArray)) (hP : OwnP n₁ w pv P) (hlen : P.length ≤ 1000) :
    Calls Tryd.prog 31 #[pv] w fun e w' => ∃ kv lv, e = .returned (vagg (6, ⟨#[]⟩, kv, lv)) ∧ OwnS w.heap.size w' kv (P.map Prod.fst) ∧ OwnV w.heap.size w' lv (P.map (fun x => nC x.2)) ∧ Below w.heap.size w w' := by
  obtain ⟨pa, pc, rfl, hpc⟩ := hP.len
  obtain ⟨K, hK⟩ : ∃ K, P.map Prod.fst = K := ⟨_, rfl⟩
  obtain ⟨M, hM⟩ : ∃ M, P.map (fun x => nC x.2) = M := ⟨_, rfl⟩
  have hKl : K.length = P.length := by rw [← hK]; simp
  have hMl : M.length = P.length := by rw [← hM]; simp
  have hb0 := bel w (.cells jv0 25)
  have hx0 := BoxC.new w 25 jv0
  have hb1 : Below w.heap.size w ((w.alloc (.cells jv0 25)).alloc (.cells #[.int .i64 6, .string ⟨#[]⟩, .slice none 0 0, .slice none 0 0] 25)) := hb0.alloc (by simp) _
  have hx1 := hx0.alloc (.cells #[.int .i64 6, .string ⟨#[]⟩, .slice none 0 0, .slice none 0 0] 25)
  have hv1 := BoxC.new (w.alloc (.cells jv0 25)) 25 #[.int .i64 6, .string ⟨#[]⟩, .slice none 0 0, .slice none 0 0]
  rw [World.size_alloc] at hv1
  unfold jv0 at hb1 hx1 hv1
  have HI : Hid (∃ (i : Nat) (kv lv : Value), i ≤ P.length ∧ Value.int .i64 0 = .int .i64 (i : Int) ∧ MadeJ w ((w.alloc (.cells #[.int .i64 0, .string ⟨#[]⟩, .slice none 0 0, .slice none 0 0] 25)).alloc (.cells #[.int .i64 6, .string ⟨#[]⟩, .slice none 0 0, .slice none 0 0] 25)) kv lv (K.take i) (M.take i)) := ⟨0, _, _, Nat.zero_le _, rfl, hv1, ownS_nil _ _, ownV_nil _ _, hb1, hx1⟩
  have HP := hide hP
  have HL := hide hlen
  have HKL := hide hKl
  have HML := hide hMl
  have HK := hide hK
  have HMM := hide hM
  rw [hK, hM]
  obtain ⟨n, hn⟩ : ∃ n, P.length = n := ⟨_, rfl⟩
  rw [hn] at hP HP HL HKL HML HI ⊢
  have HN := hide hn
  clear hP hlen hKl hMl hK hM hb0 hx0 hb1 hx1 hv1 hn hpc
  go_enter Tryd.func31, Tryd.ntmps31
  go_wp2
  go_loopw [9] (fun iv wr => ∃ (i : Nat) (kv lv : Value), i ≤ n ∧ iv = .int .i64 (i : Int) ∧ MadeJ w wr kv lv (K.take i) (M.take i)) (fun iv _ => n - (RowKit.intOf iv).toNat)
  case atStart => exact HI.out
  case round =>
    obtain ⟨i, kv, lv, hi, rfl, hm⟩ := hrel
    obtain ⟨ka, kc, hkv, _⟩ := hm.ks.len
    obtain ⟨la, lc, hlv, _⟩ := hm.vs.len
    generalize (K.take i).length = kn at *
    generalize (M.take i).length = ln at *
    subst hkv hlv
    have HM0 := hide hm
    have HNI := hide hi
    clear HI hm
    generalize wr = wo at *
    by_cases hlt : i < n
    · have hPi : i < P.length := by have := HN.out; omega
      obtain ⟨⟨xk, xs⟩, hPx⟩ : ∃ x, P[i]? = some x := ⟨_, List.getElem?_eq_getElem hPi⟩
      obtain ⟨G, rfl, hc⟩ := HP.out.cell hPx
      have hlowG : G < w.heap.size := block_lt (show w.cell? ⟨G, i * 5 + 0, none⟩ = some _ from hc 0 (by omega))
      have HKX : Hid (K[i]? = some xk) := by rw [← HK.out]; show _ = _; rw [List.getElem?_map, hPx]; rfl
      have HMX : Hid (M[i]? = some (nC xs)) := by rw [← HMM.out]; show _ = _; rw [List.getElem?_map, hPx]; rfl
      have hcc : ∀ r, r < 5 → wo.cell? ⟨G, i * 5 + r, none⟩ = (pcell (xk, xs))[r]? := fun r hr => (HM0.out.low.cell (p := ⟨G, i * 5 + r, none⟩) hlowG).trans (hc r hr)
      have k0 := hcc 0 (by omega)
      have k1 := hcc 1 (by omega)
      have k2 := hcc 2 (by omega)
      have k3 := hcc 3 (by omega)
      have k4 := hcc 4 (by omega)
      simp only [pcell, List.getElem?_cons_zero, List.getElem?_cons_succ, Nat.add_zero] at k0 k1 k2 k3 k4
      have d1 : (i : Int) < (n : Int) := by omega
      have d0 : (0 : Int) ≤ (i : Int) := by omega
      have HIL := hide hlt
      obtain ⟨i1, hi1⟩ : ∃ i1, i + 1 = i1 := ⟨_, rfl⟩
      have e1 : (i : Int) + 1 = (i1 : Int) := by omega
      have g1 : (i1 : Int) ≤ 1000000000 := by have := HL.out; omega
      have HI1 := hide hi1
      have HTK : Hid (K.take i1 = K.take i ++ [xk]) := by show _ = _; rw [← HI1.out, List.take_add_one, HKX.out]; rfl
      have HTM : Hid (M.take i1 = M.take i ++ [nC xs]) := by show _ = _; rw [← HI1.out, List.take_add_one, HMX.out]; rfl
      have HLN : Hid (n ≤ 1000) := HL.out
      have lG : G < wo.heap.size := Nat.lt_of_lt_of_le hlowG HM0.out.low.size
      have hb2 := bel wo (.cells #[.string xk, .int .i64 3, .string xs, .slice none 0 0, .slice none 0 0] 80)
      have hx2 := BoxC.new wo 80 #[.string xk, .int .i64 3, .string xs, .slice none 0 0, .slice none 0 0]
      have hm2 := HM0.out.below hb2
      have HBP : Hid (w.heap.size + 1 < wo.heap.size) := HM0.out.box.lt
      clear hPi hPx hc hlowG hcc hlt hi hi1
      go_upto_region 5 with fail
      generalize hBP : wo.heap.size = BP at *
      generalize wo.alloc (.cells #[.string xk, .int .i64 3, .string xs, .slice none 0 0, .slice none 0 0] 80) = w2 at *
      clear k0 k1 k2 k3 k4 lG hb2 hBP
      obtain ⟨va0, vn0, vc0, w3, hr3, hm3, cV3, fV3, lV3, hkeep⟩ := hm2.key xk (by rw [List.length_take]; have := HLN.out; omega)
      have hx3 := hkeep BP _ hx2
      have b0 : w2.cell? ⟨BP, 0, none⟩ = some (.string xk) := hx2.cell 0
      have lb0 := hx2.lt
      have cK : w2.cell? ⟨w.heap.size + 1, 2, none⟩ = some (.slice ka kn kc) := hm2.box.cell 2
      have lK := hm2.box.lt
      have HM3 := hide hm3
      have HX3 := hide (hx3.other (show BP ≠ w.heap.size + 1 by have := HBP.out; omega) 2 (.slice va0 vn0 vc0))
      clear hm2 hx2 hm3 hx3 hkeep HM0
      go_wp2_with (at_builtin; go_must (refine Lib.wpList_append_run _ rfl _ _ _ _ rfl _ _ rfl rfl _ _ hr3 ?_))
      generalize hw7 : w3.setCell ⟨w.heap.size + 1, 2, none⟩ (.slice va0 vn0 vc0) = w7 at *
      clear hw7 cV3 fV3 lV3 b0 lb0 cK lK hr3
      have HSX : Hid (∀ X0 : World, BoxC X0 BP 80 #[.string xk, .int .i64 3, .string xs, .slice none 0 0, .slice none 0 0] → (X0.cell? ⟨BP, 0, none⟩ = some (.string xk) ∧ X0.cell? ⟨BP, 1, none⟩ = some (.int .i64 3) ∧ X0.cell? ⟨BP, 2, none⟩ = some (.string xs) ∧ X0.cell? ⟨BP, 3, none⟩ = some (.slice none 0 0) ∧ X0.cell? ⟨BP, 4, none⟩ = some (.slice none 0 0))) := fun X0 h => ⟨h.cell 0, h.cell 1, h.cell 2, h.cell 3, h.cell 4⟩
      refine wp_region_held_drew (S := fun X0 : World => X0.cell? ⟨BP, 0, none⟩ = some (.string xk) ∧ X0.cell? ⟨BP, 1, none⟩ = some (.int .i64 3) ∧ X0.cell? ⟨BP, 2, none⟩ = some (.string xs) ∧ X0.cell? ⟨BP, 3, none⟩ = some (.slice none 0 0) ∧ X0.cell? ⟨BP, 4, none⟩ = some (.slice none 0 0)) (by kernel_rfl) (HSX.out _ HX3.out) (fun hHeld => ?_)
      have hdr : Below w7.heap.size w7 w7.drew := (Below.refl _ _).drew
      have HMD := hide (HM3.out.below hdr)
      have HBD := hide (HX3.out.below hdr)
      clear hdr HM3 HX3
      generalize w7.drew = w8 at *
      refine takeD (i := 0) (v := ?v1) (some 20) rfl (by kernel_rfl) (by kernel_rfl) (by kernel_rfl) (fun _ _ _ h => h) (Or.inl ⟨by rfl, ?hy1⟩) (HSX.out _ HBD.out) (by rfl) ?rest1
      case hy1 => first | (intro w hSw; (try dsimp only at hSw); obtain ⟨s0, s1, s2, s3, s4⟩ := hSw; go_simp; done) | (intro w hSw; (try dsimp only at hSw); obtain ⟨s0, s1, s2, s3, s4⟩ := hSw; go_simp; with_reducible rfl)
      try simp only [Act.put, List.setIfInBounds_toArray, List.set_cons_zero, List.set_cons_succ]
      refine takeD (i := 2) (v := ?v2) (some 22) rfl (by kernel_rfl) (by kernel_rfl) (by kernel_rfl) (fun _ _ _ h => h) (Or.inl ⟨by rfl, ?hy2⟩) (HSX.out _ HBD.out) (by rfl) ?rest2
      case hy2 => first | (intro w hSw; (try dsimp only at hSw); obtain ⟨s0, s1, s2, s3, s4⟩ := hSw; go_simp; done) | (intro w hSw; (try dsimp only at hSw); obtain ⟨s0, s1, s2, s3, s4⟩ := hSw; go_simp; with_reducible rfl)
      try simp only [Act.put, List.setIfInBounds_toArray, List.set_cons_zero, List.set_cons_succ]
      refine takeD (i := 3) (v := ?v3) (some 23) rfl (by kernel_rfl) (by kernel_rfl) (by kernel_rfl) (fun _ _ _ h => h) (Or.inl ⟨by rfl, ?hy3⟩) (HSX.out _ HBD.out) (by rfl) ?rest3
      case hy3 => first | (intro w hSw; (try dsimp only at hSw); obtain ⟨s0, s1, s2, s3, s4⟩ := hSw; go_simp; done) | (intro w hSw; (try dsimp only at hSw); obtain ⟨s0, s1, s2, s3, s4⟩ := hSw; go_simp; with_reducible rfl)
      try simp only [Act.put, List.setIfInBounds_toArray, List.set_cons_zero, List.set_cons_succ]
      refine wpAnyH_ready (rs := [1, 4]) (by kernel_rfl) (by simp) ?_
      refine AllReadyH.cons rfl (fun K hK => ?_) (AllReadyH.cons rfl (fun K hK => ?_) AllReadyH.nil)
      · have clw8 : w8.cell? ⟨w.heap.size + 1, 3, none⟩ = some (.slice la ln lc) := HMD.out.box.cell 3
        go_simp
        refine hK.out _ _ (HSX.out _ HBD.out) (fun _ => ?_)
        clear hK K
        try simp only [Act.put, List.setIfInBounds_toArray, List.set_cons_zero, List.set_cons_succ]
        refine wpAnyH_ready (rs := [4]) (by kernel_rfl) (by simp) ?_
        refine AllReadyH.cons rfl (fun K hK => ?_) AllReadyH.nil
        go_simp
        refine (clone_num w8 xs).mono ?_
        rintro e w4 ⟨rfl, hB4⟩
        have HM4 := hide (HMD.out.below hB4)
        have HB4 := hide (HBD.out.below hB4)
        refine hK.out _ _ (HSX.out _ HB4.out) (fun _ => ?_)
        clear hK K hB4
        try simp only [Act.put, List.setIfInBounds_toArray, List.set_cons_zero, List.set_cons_succ, vagg, nC]
        refine wpAnyH_ready (rs := [5]) (by kernel_rfl) (by simp) ?_
        refine AllReadyH.cons rfl (fun K hK => ?_) AllReadyH.nil
        go_simp
        have hbl := bel w4 (.cells #[.int .i64 3, .string xs, .slice none 0 0, .slice none 0 0] 25)
        have hbx := BoxC.new w4 25 #[.int .i64 3, .string xs, .slice none 0 0, .slice none 0 0]
        have HM5 := hide (HM4.out.below hbl)
        have HB5 := hide (HB4.out.below hbl)
        refine hK.out _ _ (HSX.out _ HB5.out) (fun _ => ?_)
        clear hK K hbl
        try simp only [Act.put, List.setIfInBounds_toArray, List.set_cons_zero, List.set_cons_succ]
        generalize hBn : w4.heap.size = BN at *
        generalize hw5 : w4.alloc (.cells #[.int .i64 3, .string xs, .slice none 0 0, .slice none 0 0] 25) = w5 at *
        have HBX := hide hbx
        clear hbx hw5
        refine wpAnyH_ready (rs := [6]) (by kernel_rfl) (by simp) ?_
        refine AllReadyH.cons rfl (fun K hK => ?_) AllReadyH.nil
        refine wp_appV _ (.tmp 21) (.tmp 25) rfl (w.heap.size + 2) (.slice la ln lc) (M.take i) rfl HM5.out.vs BN _ (nC xs) rfl HBX.out ⟨rfl, rfl⟩ (by rw [List.length_take]; have := HLN.out; omega) (by have := HM5.out.box.lt; omega) ?_
        intro lv' w6 hown hgrow hrow
        obtain ⟨va, vn, vc, rfl⟩ := hown.slice
        have hm6 := HM5.out.putV hgrow hown
        have hnb : ∀ cs, BoxC w5 BP 80 cs → BoxC w6 BP 80 cs := fun cs hB => hB.kept hgrow (fun e => HM5.out.vs.ne hB (by decide) e.symm)
        have HB6 := hide (hnb _ HB5.out)
        have n1 : some (w.heap.size + 1) ≠ (Value.slice la ln lc).ownBlock := fun e => by have := (HM5.out.vs.lt _ e.symm).1; omega
        have lV6 : w.heap.size + 1 < w6.heap.size := (HM5.out.box.kept hgrow n1).lt
        have cV6 : w6.cell? ⟨w.heap.size + 1, 3, none⟩ = some (.slice la ln lc) := (HM5.out.box.kept hgrow n1).cell 3
        have fV6 : w6.frozen? ⟨w.heap.size + 1, 3, none⟩ = false := (HM5.out.box.kept hgrow n1).frozen 3
        have HM6 := hide hm6
        refine hK.out _ _ (HSX.out _ HB6.out) (fun _ => ?_)
        clear hK K hown hgrow hrow hm6 hnb n1
        try simp only [Act.put, List.setIfInBounds_toArray, List.set_cons_zero, List.set_cons_succ]
        refine takeD (i := 7) (v := ?v4) (some 27) rfl (by kernel_rfl) (by kernel_rfl) (by kernel_rfl) (fun _ _ _ h => h) (Or.inl ⟨by rfl, ?hy4⟩) (HSX.out _ HB6.out) (by rfl) ?rest4
        case hy4 => first | (intro w hSw; (try dsimp only at hSw); obtain ⟨s0, s1, s2, s3, s4⟩ := hSw; go_simp; done) | (intro w hSw; (try dsimp only at hSw); obtain ⟨s0, s1, s2, s3, s4⟩ := hSw; go_simp; with_reducible rfl)
        try simp only [Act.put, List.setIfInBounds_toArray, List.set_cons_zero, List.set_cons_succ]
        refine wpAnyH_ready (rs := [8]) (by kernel_rfl) (by simp) ?_
        refine AllReadyH.cons rfl (fun K hK => ?_) AllReadyH.nil
        go_simp
        have HB7 := hide (HB6.out.other (show BP ≠ w.heap.size + 1 by have := HBP.out; omega) 3 (.slice va vn vc))
        refine hK.out _ _ (HSX.out _ HB7.out) (fun _ => ?_)
        clear hK K
        try simp only [Act.put, List.setIfInBounds_toArray, List.set_cons_zero, List.set_cons_succ]
        refine wpAnyH_done (by kernel_rfl) ?_ _
        go_wp2
        go_roundw
        case rel =>
          refine ⟨i1, .slice va0 vn0 vc0, .slice va vn vc, by have := HIL.out; have := HI1.out; omega, by first | rfl | go_num, ?_⟩
          rw [HTK.out, HTM.out]
          exact HM6.out
        case measure => have := HIL.out; have := HI1.out; simp [RowKit.intOf]; omega
      · go_simp
        refine (clone_num w8 xs).mono ?_
        rintro e w4 ⟨rfl, hB4⟩
        have HM4 := hide (HMD.out.below hB4)
        have HB4 := hide (HBD.out.below hB4)
        refine hK.out _ _ (HSX.out _ HB4.out) (fun _ => ?_)
        clear hK K hB4
        try simp only [Act.put, List.setIfInBounds_toArray, List.set_cons_zero, List.set_cons_succ, vagg, nC]
        refine wpAnyH_ready (rs := [1, 5]) (by kernel_rfl) (by simp) ?_
        refine AllReadyH.cons rfl (fun K hK => ?_) (AllReadyH.cons rfl (fun K hK => ?_) AllReadyH.nil)
        · have clw4 : w4.cell? ⟨w.heap.size + 1, 3, none⟩ = some (.slice la ln lc) := HM4.out.box.cell 3
          go_simp
          refine hK.out _ _ (HSX.out _ HB4.out) (fun _ => ?_)
          clear hK K
          try simp only [Act.put, List.setIfInBounds_toArray, List.set_cons_zero, List.set_cons_succ]
          refine wpAnyH_ready (rs := [5]) (by kernel_rfl) (by simp) ?_
          refine AllReadyH.cons rfl (fun K hK => ?_) AllReadyH.nil
          go_simp
          have hbl := bel w4 (.cells #[.int .i64 3, .string xs, .slice none 0 0, .slice none 0 0] 25)
          have hbx := BoxC.new w4 25 #[.int .i64 3, .string xs, .slice none 0 0, .slice none 0 0]
          have HM5 := hide (HM4.out.below hbl)
          have HB5 := hide (HB4.out.below hbl)
          refine hK.out _ _ (HSX.out _ HB5.out) (fun _ => ?_)
          clear hK K hbl
          try simp only [Act.put, List.setIfInBounds_toArray, List.set_cons_zero, List.set_cons_succ]
          generalize hBn : w4.heap.size = BN at *
          generalize hw5 : w4.alloc (.cells #[.int .i64 3, .string xs, .slice none 0 0, .slice none 0 0] 25) = w5 at *
          have HBX := hide hbx
          clear hbx hw5
          refine wpAnyH_ready (rs := [6]) (by kernel_rfl) (by simp) ?_
          refine AllReadyH.cons rfl (fun K hK => ?_) AllReadyH.nil
          refine wp_appV _ (.tmp 21) (.tmp 25) rfl (w.heap.size + 2) (.slice la ln lc) (M.take i) rfl HM5.out.vs BN _ (nC xs) rfl HBX.out ⟨rfl, rfl⟩ (by rw [List.length_take]; have := HLN.out; omega) (by have := HM5.out.box.lt; omega) ?_
          intro lv' w6 hown hgrow hrow
          obtain ⟨va, vn, vc, rfl⟩ := hown.slice
          have hm6 := HM5.out.putV hgrow hown
          have hnb : ∀ cs, BoxC w5 BP 80 cs → BoxC w6 BP 80 cs := fun cs hB => hB.kept hgrow (fun e => HM5.out.vs.ne hB (by decide) e.symm)
          have HB6 := hide (hnb _ HB5.out)
          have n1 : some (w.heap.size + 1) ≠ (Value.slice la ln lc).ownBlock := fun e => by have := (HM5.out.vs.lt _ e.symm).1; omega
          have lV6 : w.heap.size + 1 < w6.heap.size := (HM5.out.box.kept hgrow n1).lt
          have cV6 : w6.cell? ⟨w.heap.size + 1, 3, none⟩ = some (.slice la ln lc) := (HM5.out.box.kept hgrow n1).cell 3
          have fV6 : w6.frozen? ⟨w.heap.size + 1, 3, none⟩ = false := (HM5.out.box.kept hgrow n1).frozen 3
          have HM6 := hide hm6
          refine hK.out _ _ (HSX.out _ HB6.out) (fun _ => ?_)
          clear hK K hown hgrow hrow hm6 hnb n1
          try simp only [Act.put, List.setIfInBounds_toArray, List.set_cons_zero, List.set_cons_succ]
          refine takeD (i := 7) (v := ?v5) (some 27) rfl (by kernel_rfl) (by kernel_rfl) (by kernel_rfl) (fun _ _ _ h => h) (Or.inl ⟨by rfl, ?hy5⟩) (HSX.out _ HB6.out) (by rfl) ?rest5
          case hy5 => first | (intro w hSw; (try dsimp only at hSw); obtain ⟨s0, s1, s2, s3, s4⟩ := hSw; go_simp; done) | (intro w hSw; (try dsimp only at hSw); obtain ⟨s0, s1, s2, s3, s4⟩ := hSw; go_simp; with_reducible rfl)
          try simp only [Act.put, List.setIfInBounds_toArray, List.set_cons_zero, List.set_cons_succ]
          refine wpAnyH_ready (rs := [8]) (by kernel_rfl) (by simp) ?_
          refine AllReadyH.cons rfl (fun K hK => ?_) AllReadyH.nil
          go_simp
          have HB7 := hide (HB6.out.other (show BP ≠ w.heap.size + 1 by have := HBP.out; omega) 3 (.slice va vn vc))
          refine hK.out _ _ (HSX.out _ HB7.out) (fun _ => ?_)
          clear hK K
          try simp only [Act.put, List.setIfInBounds_toArray, List.set_cons_zero, List.set_cons_succ]
          refine wpAnyH_done (by kernel_rfl) ?_ _
          go_wp2
          go_roundw
          case rel =>
            refine ⟨i1, .slice va0 vn0 vc0, .slice va vn vc, by have := HIL.out; have := HI1.out; omega, by first | rfl | go_num, ?_⟩
            rw [HTK.out, HTM.out]
            exact HM6.out
          case measure => have := HIL.out; have := HI1.out; simp [RowKit.intOf]; omega
        · go_simp
          have hbl := bel w4 (.cells #[.int .i64 3, .string xs, .slice none 0 0, .slice none 0 0] 25)
          have hbx := BoxC.new w4 25 #[.int .i64 3, .string xs, .slice none 0 0, .slice none 0 0]
          have HM5 := hide (HM4.out.below hbl)
          have HB5 := hide (HB4.out.below hbl)
          refine hK.out _ _ (HSX.out _ HB5.out) (fun _ => ?_)
          clear hK K hbl
          try simp only [Act.put, List.setIfInBounds_toArray, List.set_cons_zero, List.set_cons_succ]
          generalize hBn : w4.heap.size = BN at *
          generalize hw5 : w4.alloc (.cells #[.int .i64 3, .string xs, .slice none 0 0, .slice none 0 0] 25) = w5 at *
          have HBX := hide hbx
          clear hbx hw5
          refine wpAnyH_ready (rs := [1]) (by kernel_rfl) (by simp) ?_
          refine AllReadyH.cons rfl (fun K hK => ?_) AllReadyH.nil
          have clw5 : w5.cell? ⟨w.heap.size + 1, 3, none⟩ = some (.slice la ln lc) := HM5.out.box.cell 3
          go_simp
          refine hK.out _ _ (HSX.out _ HB5.out) (fun _ => ?_)
          clear hK K
          try simp only [Act.put, List.setIfInBounds_toArray, List.set_cons_zero, List.set_cons_succ]
          refine wpAnyH_ready (rs := [6]) (by kernel_rfl) (by simp) ?_
          refine AllReadyH.cons rfl (fun K hK => ?_) AllReadyH.nil
          refine wp_appV _ (.tmp 21) (.tmp 25) rfl (w.heap.size + 2) (.slice la ln lc) (M.take i) rfl HM5.out.vs BN _ (nC xs) rfl HBX.out ⟨rfl, rfl⟩ (by rw [List.length_take]; have := HLN.out; omega) (by have := HM5.out.box.lt; omega) ?_
          intro lv' w6 hown hgrow hrow
          obtain ⟨va, vn, vc, rfl⟩ := hown.slice
          have hm6 := HM5.out.putV hgrow hown
          have hnb : ∀ cs, BoxC w5 BP 80 cs → BoxC w6 BP 80 cs := fun cs hB => hB.kept hgrow (fun e => HM5.out.vs.ne hB (by decide) e.symm)
          have HB6 := hide (hnb _ HB5.out)
          have n1 : some (w.heap.size + 1) ≠ (Value.slice la ln lc).ownBlock := fun e => by have := (HM5.out.vs.lt _ e.symm).1; omega
          have lV6 : w.heap.size + 1 < w6.heap.size := (HM5.out.box.kept hgrow n1).lt
          have cV6 : w6.cell? ⟨w.heap.size + 1, 3, none⟩ = some (.slice la ln lc) := (HM5.out.box.kept hgrow n1).cell 3
          have fV6 : w6.frozen? ⟨w.heap.size + 1, 3, none⟩ = false := (HM5.out.box.kept hgrow n1).frozen 3
          have HM6 := hide hm6
          refine hK.out _ _ (HSX.out _ HB6.out) (fun _ => ?_)
          clear hK K hown hgrow hrow hm6 hnb n1
          try simp only [Act.put, List.setIfInBounds_toArray, List.set_cons_zero, List.set_cons_succ]
          refine takeD (i := 7) (v := ?v6) (some 27) rfl (by kernel_rfl) (by kernel_rfl) (by kernel_rfl) (fun _ _ _ h => h) (Or.inl ⟨by rfl, ?hy6⟩) (HSX.out _ HB6.out) (by rfl) ?rest6
          case hy6 => first | (intro w hSw; (try dsimp only at hSw); obtain ⟨s0, s1, s2, s3, s4⟩ := hSw; go_simp; done) | (intro w hSw; (try dsimp only at hSw); obtain ⟨s0, s1, s2, s3, s4⟩ := hSw; go_simp; with_reducible rfl)
          try simp only [Act.put, List.setIfInBounds_toArray, List.set_cons_zero, List.set_cons_succ]
          refine wpAnyH_ready (rs := [8]) (by kernel_rfl) (by simp) ?_
          refine AllReadyH.cons rfl (fun K hK => ?_) AllReadyH.nil
          go_simp
          have HB7 := hide (HB6.out.other (show BP ≠ w.heap.size + 1 by have := HBP.out; omega) 3 (.slice va vn vc))
          refine hK.out _ _ (HSX.out _ HB7.out) (fun _ => ?_)
          clear hK K
          try simp only [Act.put, List.setIfInBounds_toArray, List.set_cons_zero, List.set_cons_succ]
          refine wpAnyH_done (by kernel_rfl) ?_ _
          go_wp2
          go_roundw
          case rel =>
            refine ⟨i1, .slice va0 vn0 vc0, .slice va vn vc, by have := HIL.out; have := HI1.out; omega, by first | rfl | go_num, ?_⟩
            rw [HTK.out, HTM.out]
            exact HM6.out
          case measure => have := HIL.out; have := HI1.out; simp [RowKit.intOf]; omega
    · obtain rfl : i = n := by omega
      have hk2 : K.take i = K := List.take_of_length_le (by rw [HKL.out]; exact Nat.le_refl _)
      have hm2 : M.take i = M := List.take_of_length_le (by rw [HML.out]; exact Nat.le_refl _)
      rw [hk2, hm2] at HM0
      have d1 : ¬ (i : Int) < (i : Int) := by omega
      have v0 : wo.cell? ⟨w.heap.size + 1, 0, none⟩ = some (.int .i64 6) := HM0.out.box.cell 0
      have v1 : wo.cell? ⟨w.heap.size + 1, 1, none⟩ = some (.string ⟨#[]⟩) := HM0.out.box.cell 1
      have v2 : wo.cell? ⟨w.heap.size + 1, 2, none⟩ = some (.slice ka kn kc) := HM0.out.box.cell 2
      have v3 : wo.cell? ⟨w.heap.size + 1, 3, none⟩ = some (.slice la ln lc) := HM0.out.box.cell 3
      have x0 : wo.cell? ⟨w.heap.size, 0, none⟩ = some (.int .i64 0) := HM0.out.res.cell 0
      have x1 : wo.cell? ⟨w.heap.size, 1, none⟩ = some (.string ⟨#[]⟩) := HM0.out.res.cell 1
      have x2 : wo.cell? ⟨w.heap.size, 2, none⟩ = some (.slice none 0 0) := HM0.out.res.cell 2
      have x3 : wo.cell? ⟨w.heap.size, 3, none⟩ = some (.slice none 0 0) := HM0.out.res.cell 3
      have y0 := HM0.out.res.frozen 0
      have y1 := HM0.out.res.frozen 1
      have y2 := HM0.out.res.frozen 2
      have y3 := HM0.out.res.frozen 3
      have lX := HM0.out.res.lt
      have lV := HM0.out.box.lt
      clear hk2 hm2 hlt hi
      go_wp2
      refine bodyPost_ret (results_jv rfl rfl (resJ_v HM0.out.res (.int .i64 6) (.string ⟨#[]⟩) (.slice ka kn kc) (.slice la ln lc))) rfl ?_
      have q1 : (Value.slice ka kn kc).ownBlock ≠ some w.heap.size := HM0.out.ks.off (by omega)
      have q2 : (Value.slice la ln lc).ownBlock ≠ some w.heap.size := HM0.out.vs.off (by omega)
      refine ⟨_, _, rfl, ?_, ((((HM0.out.vs.set q2).set q2).set q2).set q2).mono (by omega), below4 HM0.out.low (Nat.le_refl _) _ _ _ _⟩
      have hk := (((HM0.out.ks.set (i := 0) (x := .int .i64 6) q1).set (i := 1) (x := .string ⟨#[]⟩) q1).set (i := 2) (x := .slice ka kn kc) q1).set (i := 3) (x := .slice la ln lc) q1
      rcases hk.2 with h | ⟨g, cap, cur, h1, h2, h3⟩
      · exact ⟨hk.1, .inl h⟩
      · exact ⟨hk.1, .inr ⟨g, cap, cur, h1, by omega, h3⟩⟩

end Go.Proofs.YtacgocfgcoejpaaDoor
