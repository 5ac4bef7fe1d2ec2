/- The reference's Offset: the byte of a position. -/
import Derived.Test.YthhpfdjcggfhaaaDoorUOff
import Derived.Test.YthhpfdjcggfhaaaDoorURVal
namespace Go.Proofs.YthhpfdjcggfhaaaDoor
set_option linter.unusedVariables false
set_option linter.unusedSimpArgs false
set_option maxRecDepth 100000
open Go Go.RowKit Go.Shelf Go.Lib

theorem byts_nil {W : World} {a : Option Addr} {c : Nat} {LT : List Nat} (h : LT = []) : Byts W (.slice a LT.length c) LT := by
  subst h
  refine ⟨a, c, rfl, ?_, ?_⟩
  · intro x hx
    simp at hx
  · intro j hj
    simp at hj
theorem units_step (LT : List Nat) (k : Nat) : unitsL LT k < unitsL LT (k + 1) := by
  show unitsL LT k < unitsL LT k + unitOf _
  have : 1 ≤ unitOf (runeAt LT (posL LT k)) := by unfold unitOf; split <;> omega
  omega

set_option maxHeartbeats 8000000 in
theorem roffset_calls (w : World) (ao : Option Addr) (cap : Nat) (T : List Nat) (v : Value) (L : List Int) (ln u : Int) (h : Byt w ao cap T) (hL : IntsIn w v L) (hlen : T.length ≤ 1000000000) (hu64 : u ≤ 9223372036854775807) :
    Calls Tryd.prog 20 #[.slice ao T.length cap, v, .agg #[.int .i64 ln, .int .i64 u]] w fun e w' => ∃ r : Int, e = .returned (.int .i64 r) ∧ OffR T L ln u r ∧ Below w.heap.size w w' := by
  obtain ⟨lo, lc, rfl, hc⟩ := id hL
  have HC := hide hc
  have H := hide h
  have bP := Box2.new w 48 (.int .i64 ln) (.int .i64 u)
  have hB1 : Below w.heap.size w (w.alloc (.cells #[.int .i64 ln, .int .i64 u] 48)) := bel _ _
  have BP := hide bP
  have KB1 := hide hB1
  have HT1 := hide (h.below hB1)
  clear hL hc h bP hB1
  by_cases h0 : ln < 0
  · go_enter Tryd.func20, Tryd.ntmps20
    go_wp2
    go_ret
    exact ⟨0, rfl, .inl ⟨h0, rfl⟩, KB1.out⟩
  · by_cases h1 : ln ≥ (L.length : Int)
    · go_enter Tryd.func20, Tryd.ntmps20
      go_wp2
      go_ret
      exact ⟨_, rfl, .inr (.inl ⟨by omega, h1, rfl⟩), KB1.out⟩
    · obtain ⟨i, rfl⟩ : ∃ i : Nat, ln = (i : Int) := ⟨ln.toNat, by omega⟩
      have hi : i < L.length := by omega
      obtain ⟨b0, off0, rfl, c0⟩ := HC.out i hi
      have hb0 : b0 < w.heap.size := block_lt c0
      have di : (i : Int) < (L.length : Int) := by omega
      have di0 : (0 : Int) ≤ (i : Int) := by omega
      obtain ⟨f, hcl, hf⟩ := clamp_nat (nthI L i) T.length
      have HW := hide (fun w => rwithin_calls w (nthI L i) (T.length : Int))
      rw [hcl] at HW
      generalize hZ : nthI L i = z at *
      have HZ := hide hZ
      have HCL := hide hcl
      clear hZ hcl
      have HEn := hide (rend_calls _ ao cap T f HT1.out.1 hf hlen)
      go_enter Tryd.func20, Tryd.ntmps20
      go_wp2_with fail
      refine (HW.out _).mono ?_
      rintro e w1 ⟨rfl, hw⟩
      rw [hw]
      clear hw w1 HW
      go_wp2_with fail
      refine HEn.out.mono ?_
      rintro e w1 ⟨en, rfl, hE, hw⟩
      rw [hw]
      clear hw w1 HEn
      have HE := hide hE
      have hfe : f ≤ en := hE.1
      have het : en ≤ T.length := hE.2.1
      have hll : (lineL T f en).length = en - f := lineL_length hE.1 hE.2.1
      have hsm := lineL_small H.out.1.small f en
      obtain ⟨hBy, hcap, hnil⟩ := HT1.out
      generalize hLT : lineL T f en = LT at *
      have HLT := hide hLT
      obtain ⟨N, n1, n2⟩ := letters_count hsm
      have hN : N ≤ LT.length := by have := posL_ge hsm n1 N (Nat.le_refl _); omega
      have NP := hide n1
      have NQ := hide n2
      have HEN := hide (show (en : Int) = (f : Int) + (LT.length : Int) by omega)
      have BX := BP
      have hLl : LT.length ≤ 1000000000 := by omega
      have hPb := hide (show f + LT.length ≤ 1000000000 by omega)
      have HLL := hide hll
      have hNb : N ≤ 1000000000 := by omega
      have HBy := hide hBy
      have hcap' : LT.length ≤ cap - f := by omega
      clear hLT hll hsm n1 n2 hE hBy hN
      have e1 : (f : Int) ≤ (en : Int) := by omega
      have e2 : (en : Int) ≤ (T.length : Int) := by omega
      have e3 : (T.length : Int) ≤ (cap : Int) := by omega
      have e4 : (0 : Int) ≤ (f : Int) := by omega
      have e5 : (en : Int) ≤ (cap : Int) := by omega
      by_cases hfc : f = cap
      · -- nothing is left behind the beginning
        subst hfc
        have hz := hide (show LT = [] from List.length_eq_zero_iff.1 (by have := HLL.out; omega))
        have hN0 : N = 0 := by have h1 := NP.out; rcases Nat.eq_zero_or_pos N with g | g; exact g; exact absurd (h1 0 g) (by rw [hz.out]; simp)
        go_wp2_with fail
        rw [show en - f = LT.length from HLL.out.symm]
        refine (rletters_calls _ (ao) (0) LT N (byts_nil hz.out) (by rw [hz.out]; exact Nat.le_refl _) NP.out NQ.out hLl).mono ?_
        rintro e W3 ⟨rv, rfl, hLe, hb3⟩
        obtain ⟨lo, ll, rfl, hlc⟩ := hLe
        have HLC := hide hlc
        have HBB := hide (bafter KB1.out hb3 (Nat.le_refl _))
        have cu0 : W3.cell? ⟨w.heap.size, 1, none⟩ = some (.int .i64 u) := (BX.out.below hb3).cell1
        have CU := hide cu0
        clear hlc hb3 cu0
        go_wp2
        go_loopw [10, 11] (fun a i wr => ∃ k : Nat, k ≤ N ∧ i = .int .i64 (k : Int) ∧ a = .int .i64 ((unitsL LT k : Nat) : Int) ∧ (∀ j, j < k → ((unitsL LT (j + 1) : Nat) : Int) ≤ u) ∧ Below W3.heap.size W3 wr) (fun _ i _ => N - (RowKit.intOf i).toNat)
        case atStart => exact ⟨0, Nat.zero_le _, rfl, rfl, fun j hj => by omega, Below.refl _ _⟩
        case round =>
          obtain ⟨k, hk, rfl, rfl, hno, hB⟩ := hrel
          have HN := hide hno
          have HB := hide hB
          by_cases hlt : k < N
          · omega
          · obtain rfl : k = N := by omega
            have d1 : ¬ (k : Int) < (k : Int) := by omega
            clear hno hB
            go_wp2
            go_ret
            exact ⟨_, rfl, .inr (.inr ⟨i, f, en, k, rfl, hi, by rw [HZ.out]; exact HCL.out, HE.out, by rw [HLT.out]; exact NP.out, by rw [HLT.out]; exact NQ.out, by rw [HLT.out]; exact .inr ⟨HN.out, HEN.out⟩⟩), bafter HBB.out HB.out (Nat.le_refl _)⟩
      · cases ao with
        | none => exact absurd (hnil rfl) (by omega)
        | some ad =>
          by_cases hT0 : T.length = 0
          · have hx0 := hT0
            have hz := hide (show LT = [] from List.length_eq_zero_iff.1 (by have := HLL.out; omega))
            have hN0 : N = 0 := by have h1 := NP.out; rcases Nat.eq_zero_or_pos N with g | g; exact g; exact absurd (h1 0 g) (by rw [hz.out]; simp)
            go_wp2_with fail
            rw [show en - f = LT.length from HLL.out.symm]
            refine (rletters_calls _ (some (ad.add f)) (cap - f) LT N (byts_nil hz.out) (hcap') NP.out NQ.out hLl).mono ?_
            rintro e W3 ⟨rv, rfl, hLe, hb3⟩
            obtain ⟨lo, ll, rfl, hlc⟩ := hLe
            have HLC := hide hlc
            have HBB := hide (bafter KB1.out hb3 (Nat.le_refl _))
            have cu0 : W3.cell? ⟨w.heap.size, 1, none⟩ = some (.int .i64 u) := (BX.out.below hb3).cell1
            have CU := hide cu0
            clear hlc hb3 cu0
            go_wp2
            go_loopw [10, 11] (fun a i wr => ∃ k : Nat, k ≤ N ∧ i = .int .i64 (k : Int) ∧ a = .int .i64 ((unitsL LT k : Nat) : Int) ∧ (∀ j, j < k → ((unitsL LT (j + 1) : Nat) : Int) ≤ u) ∧ Below W3.heap.size W3 wr) (fun _ i _ => N - (RowKit.intOf i).toNat)
            case atStart => exact ⟨0, Nat.zero_le _, rfl, rfl, fun j hj => by omega, Below.refl _ _⟩
            case round =>
              obtain ⟨k, hk, rfl, rfl, hno, hB⟩ := hrel
              have HN := hide hno
              have HB := hide hB
              by_cases hlt : k < N
              · omega
              · obtain rfl : k = N := by omega
                have d1 : ¬ (k : Int) < (k : Int) := by omega
                clear hno hB
                go_wp2
                go_ret
                exact ⟨_, rfl, .inr (.inr ⟨i, f, en, k, rfl, hi, by rw [HZ.out]; exact HCL.out, HE.out, by rw [HLT.out]; exact NP.out, by rw [HLT.out]; exact NQ.out, by rw [HLT.out]; exact .inr ⟨HN.out, HEN.out⟩⟩), bafter HBB.out HB.out (Nat.le_refl _)⟩
          · have hx0 := hT0
            obtain ⟨b, off, rfl, _⟩ : ∃ b off, ad = ⟨b, off, none⟩ ∧ True := by
              obtain ⟨_, _, e, _, hc⟩ := HBy.out
              cases e
              obtain ⟨b, off, e, _⟩ := hc 0 (by omega)
              cases e
              exact ⟨b, off, rfl, trivial⟩
            have hcut : Byts (w.alloc (.cells #[.int .i64 (i : Int), .int .i64 u] 48)) (.slice (some ⟨b, off + f, none⟩) LT.length (cap - f)) LT := by
              have := HBy.out.cut (cap' := cap - f) (p := f) (m := en - f) (by omega)
              rw [← HLL.out] at this
              have e : (T.drop f).take LT.length = LT := by rw [HLL.out]; exact HLT.out
              rw [e] at this
              exact this
            have HCut := hide hcut
            clear hcut
            go_wp2_with fail
            rw [show en - f = LT.length from HLL.out.symm]
            refine (rletters_calls _ (some ⟨b, off + f, none⟩) (cap - f) LT N (HCut.out) (hcap') NP.out NQ.out hLl).mono ?_
            rintro e W3 ⟨rv, rfl, hLe, hb3⟩
            obtain ⟨lo, ll, rfl, hlc⟩ := hLe
            have HLC := hide hlc
            have HBB := hide (bafter KB1.out hb3 (Nat.le_refl _))
            have cu0 : W3.cell? ⟨w.heap.size, 1, none⟩ = some (.int .i64 u) := (BX.out.below hb3).cell1
            have CU := hide cu0
            clear hlc hb3 cu0
            go_wp2
            go_loopw [10, 11] (fun a i wr => ∃ k : Nat, k ≤ N ∧ i = .int .i64 (k : Int) ∧ a = .int .i64 ((unitsL LT k : Nat) : Int) ∧ (∀ j, j < k → ((unitsL LT (j + 1) : Nat) : Int) ≤ u) ∧ Below W3.heap.size W3 wr) (fun _ i _ => N - (RowKit.intOf i).toNat)
            case atStart => exact ⟨0, Nat.zero_le _, rfl, rfl, fun j hj => by omega, Below.refl _ _⟩
            case round =>
              obtain ⟨k, hk, rfl, rfl, hno, hB⟩ := hrel
              have HN := hide hno
              have HB := hide hB
              by_cases hlt : k < N
              · obtain ⟨lb, rfl, c0, c1, c2⟩ := HLC.out k hlt
                have cu : wr.cell? ⟨w.heap.size, 1, none⟩ = some (.int .i64 u) := (hB.cell (p := ⟨w.heap.size, 1, none⟩) (block_lt CU.out)).trans CU.out
                replace c0 := (hB.cell (p := ⟨lb, 3 * k, none⟩) (block_lt c0)).trans c0
                replace c1 := (hB.cell (p := ⟨lb, 3 * k + 1, none⟩) (block_lt c1)).trans c1
                have d1 : (k : Int) < (N : Int) := by omega
                have d0 : (0 : Int) ≤ (k : Int) := by omega
                have hkm : k * 3 = 3 * k := by omega
                have hle := unitsL_le LT k
                have hst := units_step LT k
                have hpk := NP.out k hlt
                have hun : unitOf (runeAt LT (posL LT k)) ≤ 2 := by unfold unitOf; split <;> omega
                have HU : Hid (unitsL LT (k + 1) = unitsL LT k + unitOf (runeAt LT (posL LT k))) := rfl
                generalize hP : posL LT k = P at *
                generalize hR : runeAt LT P = R at *
                generalize hu : unitOf R = uu at *
                obtain ⟨A, hA⟩ : ∃ A, unitsL LT k = A := ⟨_, rfl⟩
                obtain ⟨U, hU⟩ : ∃ U, unitsL LT (k + 1) = U := ⟨_, rfl⟩
                have hAU : A + uu = U := by rw [← hA, ← hU, HU.out]
                have hUA2 : U ≤ A + 2 := by omega
                have HUE := hide hU
                have HP := hide hP
                obtain ⟨fp, hfp⟩ : ∃ fp, f + P = fp := ⟨_, rfl⟩
                have hfp' : (f : Int) + (P : Int) = (fp : Int) := by omega
                have hfpb : fp ≤ 1000000000 := by have := hPb.out; omega
                rw [hA, hU] at hst
                rw [hA] at hle
                rw [hA]
                have HAe := hide hA
                clear hU HU hun hR hP hA hB hno c2 hfp hpk
                by_cases hge : (A : Int) ≥ u
                · have HG := hide (show u < (U : Int) by omega)
                  have hgd : decide (u ≤ (A : Int)) = true := decide_eq_true hge
                  clear hst hAU
                  go_wp2
                  refine wp_region_held_drew (S := fun X : World => X.cell? ⟨w.heap.size, 1, none⟩ = some (.int .i64 u) ∧ X.cell? ⟨lb, 3 * k + 1, none⟩ = some (.int .i64 R)) (by kernel_rfl) ⟨cu, c1⟩ (fun hSS => ?_)
                  try simp only [Act.put, List.setIfInBounds_toArray, List.set_cons_zero, List.set_cons_succ]
                  refine takeD (i := 0) (v := ?v1) (some 44) rfl (by kernel_rfl) (by kernel_rfl) (by kernel_rfl) (fun _ _ _ h => h) (Or.inl ⟨by rfl, ?hy1⟩) (by assumption) (by rfl) ?rest1
                  case hy1 => first | (intro w hSw; (try dsimp only at hSw); go_simp; done) | (intro w hSw; (try dsimp only at hSw); go_simp; with_reducible rfl)
                  try simp only [Act.put, List.setIfInBounds_toArray, List.set_cons_zero, List.set_cons_succ]
                  refine takeD (i := 1) (v := ?v2) (some 45) rfl (by kernel_rfl) (by kernel_rfl) (by kernel_rfl) (fun _ _ _ h => h) (Or.inl ⟨by rfl, ?hy2⟩) (by assumption) (by rfl) ?rest2
                  case hy2 => first | (intro w hSw; (try dsimp only at hSw); go_simp; done) | (intro w hSw; (try dsimp only at hSw); go_simp; with_reducible rfl)
                  try simp only [Act.put, List.setIfInBounds_toArray, List.set_cons_zero, List.set_cons_succ]
                  refine takeD (i := 2) (v := ?v3) (some 46) rfl (by kernel_rfl) (by kernel_rfl) (by kernel_rfl) (fun _ _ _ h => h) (Or.inl ⟨by rfl, ?hy3⟩) (by assumption) (by rfl) ?rest3
                  case hy3 => first | (intro w hSw; (try dsimp only at hSw); go_simp; done) | (intro w hSw; (try dsimp only at hSw); go_simp; with_reducible rfl)
                  try simp only [Act.put, List.setIfInBounds_toArray, List.set_cons_zero, List.set_cons_succ]
                  refine takeD (i := 3) (v := ?v4) (some 47) rfl (by kernel_rfl) (by kernel_rfl) (by kernel_rfl) (fun _ _ _ h => h) (Or.inl ⟨by rfl, ?hy4⟩) (by assumption) (by rfl) ?rest4
                  case hy4 => first | (intro w hSw; (try dsimp only at hSw); go_simp; done) | (intro w hSw; (try dsimp only at hSw); go_simp; with_reducible rfl)
                  try simp only [Act.put, List.setIfInBounds_toArray, List.set_cons_zero, List.set_cons_succ]
                  refine takeD (i := 4) (v := ?v5) (some 48) rfl (by kernel_rfl) (by kernel_rfl) (by kernel_rfl) (fun _ _ _ h => h) (Or.inl ⟨by rfl, ?hy5⟩) (by assumption) (by rfl) ?rest5
                  case hy5 => first | (intro w hSw; (try dsimp only at hSw); go_simp; done) | (intro w hSw; (try dsimp only at hSw); go_simp; with_reducible rfl)
                  try simp only [Act.put, List.setIfInBounds_toArray, List.set_cons_zero, List.set_cons_succ]
                  refine takeD (i := 5) (v := undef) (some 49) rfl (by kernel_rfl) (by kernel_rfl) (by kernel_rfl) (fun _ _ _ h => h) (Or.inr ⟨by rfl, rfl⟩) (by assumption) (by rfl) ?rest6
                  try simp only [Act.put, List.setIfInBounds_toArray, List.set_cons_zero, List.set_cons_succ]
                  refine takeD (i := 6) (v := undef) (some 50) rfl (by kernel_rfl) (by kernel_rfl) (by kernel_rfl) (fun _ _ _ h => h) (Or.inr ⟨by rfl, rfl⟩) (by assumption) (by rfl) ?rest7
                  try simp only [Act.put, List.setIfInBounds_toArray, List.set_cons_zero, List.set_cons_succ]
                  refine takeD (i := 7) (v := undef) (some 51) rfl (by kernel_rfl) (by kernel_rfl) (by kernel_rfl) (fun _ _ _ h => h) (Or.inr ⟨by rfl, rfl⟩) (by assumption) (by rfl) ?rest8
                  try simp only [Act.put, List.setIfInBounds_toArray, List.set_cons_zero, List.set_cons_succ]
                  refine takeD (i := 8) (v := undef) (some 52) rfl (by kernel_rfl) (by kernel_rfl) (by kernel_rfl) (fun _ _ _ h => h) (Or.inr ⟨by rfl, rfl⟩) (by assumption) (by rfl) ?rest9
                  try simp only [Act.put, List.setIfInBounds_toArray, List.set_cons_zero, List.set_cons_succ]
                  refine takeD (i := 9) (v := undef) (some 53) rfl (by kernel_rfl) (by kernel_rfl) (by kernel_rfl) (fun _ _ _ h => h) (Or.inr ⟨by rfl, rfl⟩) (by assumption) (by rfl) ?rest10
                  try simp only [Act.put, List.setIfInBounds_toArray, List.set_cons_zero, List.set_cons_succ]
                  refine takeD (i := 10) (v := undef) (some 54) rfl (by kernel_rfl) (by kernel_rfl) (by kernel_rfl) (fun _ _ _ h => h) (Or.inr ⟨by rfl, rfl⟩) (by assumption) (by rfl) ?rest11
                  try simp only [Act.put, List.setIfInBounds_toArray, List.set_cons_zero, List.set_cons_succ]
                  refine takeD (i := 11) (v := undef) (some 55) rfl (by kernel_rfl) (by kernel_rfl) (by kernel_rfl) (fun _ _ _ h => h) (Or.inr ⟨by rfl, rfl⟩) (by assumption) (by rfl) ?rest12
                  try simp only [Act.put, List.setIfInBounds_toArray, List.set_cons_zero, List.set_cons_succ]
                  refine takeD (i := 12) (v := undef) (some 56) rfl (by kernel_rfl) (by kernel_rfl) (by kernel_rfl) (fun _ _ _ h => h) (Or.inr ⟨by rfl, rfl⟩) (by assumption) (by rfl) ?rest13
                  try simp only [Act.put, List.setIfInBounds_toArray, List.set_cons_zero, List.set_cons_succ]
                  refine takeD (i := 13) (v := undef) (some 57) rfl (by kernel_rfl) (by kernel_rfl) (by kernel_rfl) (fun _ _ _ h => h) (Or.inr ⟨by rfl, rfl⟩) (by assumption) (by rfl) ?rest14
                  try simp only [Act.put, List.setIfInBounds_toArray, List.set_cons_zero, List.set_cons_succ]
                  refine takeD (i := 14) (v := undef) (some 58) rfl (by kernel_rfl) (by kernel_rfl) (by kernel_rfl) (fun _ _ _ h => h) (Or.inr ⟨by rfl, rfl⟩) (by assumption) (by rfl) ?rest15
                  try simp only [Act.put, List.setIfInBounds_toArray, List.set_cons_zero, List.set_cons_succ]
                  refine takeD (i := 15) (v := undef) (some 59) rfl (by kernel_rfl) (by kernel_rfl) (by kernel_rfl) (fun _ _ _ h => h) (Or.inr ⟨by rfl, rfl⟩) (by assumption) (by rfl) ?rest16
                  try simp only [Act.put, List.setIfInBounds_toArray, List.set_cons_zero, List.set_cons_succ]
                  refine takeD (i := 16) (v := ?v17) (some 60) rfl (by kernel_rfl) (by kernel_rfl) (by kernel_rfl) (fun _ _ _ h => h) (Or.inl ⟨by rfl, ?hy17⟩) (by assumption) (by rfl) ?rest17
                  case hy17 => first | (intro w hSw; (try dsimp only at hSw); go_simp; done) | (intro w hSw; (try dsimp only at hSw); go_simp; with_reducible rfl)
                  try simp only [Act.put, List.setIfInBounds_toArray, List.set_cons_zero, List.set_cons_succ]
                  refine wpAnyH_done (by kernel_rfl) ?_ _
                  go_wp2
                  go_ret
                  exact ⟨_, rfl, .inr (.inr ⟨i, f, en, N, rfl, hi, by rw [HZ.out]; exact HCL.out, HE.out, by rw [HLT.out]; exact NP.out, by rw [HLT.out]; exact NQ.out, by rw [HLT.out]; exact .inl ⟨k, hlt, by rw [HUE.out]; exact HG.out, HN.out, by rw [HP.out, hfp']⟩⟩), (bafter HBB.out HB.out (Nat.le_refl _)).drew⟩
                · obtain ⟨dd, hdd⟩ : ∃ dd : Int, u - (A : Int) = dd := ⟨_, rfl⟩
                  have hAb : A ≤ 2000000000 := by omega
                  have hgd : decide (u ≤ (A : Int)) = false := decide_eq_false (by omega)
                  have hdb : 0 < dd ∧ dd ≤ 9223372036854775807 := by omega
                  by_cases hlu : dd < (uu : Int)
                  · have HG := hide (show u < (U : Int) by omega)
                    have hwd : IntKind.i64.wrap dd = dd := by rw [IntKind.wrap_i64]; omega
                    have hld : decide (dd < (uu : Int)) = true := decide_eq_true hlu
                    clear hst hAU
                    go_wp2
                    refine wp_region_held_drew (S := fun X : World => X.cell? ⟨w.heap.size, 1, none⟩ = some (.int .i64 u) ∧ X.cell? ⟨lb, 3 * k + 1, none⟩ = some (.int .i64 R)) (by kernel_rfl) ⟨cu, c1⟩ (fun hSS => ?_)
                    try simp only [Act.put, List.setIfInBounds_toArray, List.set_cons_zero, List.set_cons_succ]
                    refine takeD (i := 0) (v := ?v18) (some 44) rfl (by kernel_rfl) (by kernel_rfl) (by kernel_rfl) (fun _ _ _ h => h) (Or.inl ⟨by rfl, ?hy18⟩) (by assumption) (by rfl) ?rest18
                    case hy18 => first | (intro w hSw; (try dsimp only at hSw); go_simp; done) | (intro w hSw; (try dsimp only at hSw); go_simp; with_reducible rfl)
                    try simp only [Act.put, List.setIfInBounds_toArray, List.set_cons_zero, List.set_cons_succ]
                    refine takeD (i := 1) (v := ?v19) (some 45) rfl (by kernel_rfl) (by kernel_rfl) (by kernel_rfl) (fun _ _ _ h => h) (Or.inl ⟨by rfl, ?hy19⟩) (by assumption) (by rfl) ?rest19
                    case hy19 => first | (intro w hSw; (try dsimp only at hSw); go_simp; done) | (intro w hSw; (try dsimp only at hSw); go_simp; with_reducible rfl)
                    try simp only [Act.put, List.setIfInBounds_toArray, List.set_cons_zero, List.set_cons_succ]
                    refine takeD (i := 2) (v := ?v20) (some 46) rfl (by kernel_rfl) (by kernel_rfl) (by kernel_rfl) (fun _ _ _ h => h) (Or.inl ⟨by rfl, ?hy20⟩) (by assumption) (by rfl) ?rest20
                    case hy20 => first | (intro w hSw; (try dsimp only at hSw); go_simp; done) | (intro w hSw; (try dsimp only at hSw); go_simp; with_reducible rfl)
                    try simp only [Act.put, List.setIfInBounds_toArray, List.set_cons_zero, List.set_cons_succ]
                    refine takeD (i := 3) (v := ?v21) (some 47) rfl (by kernel_rfl) (by kernel_rfl) (by kernel_rfl) (fun _ _ _ h => h) (Or.inl ⟨by rfl, ?hy21⟩) (by assumption) (by rfl) ?rest21
                    case hy21 => first | (intro w hSw; (try dsimp only at hSw); go_simp; done) | (intro w hSw; (try dsimp only at hSw); go_simp; with_reducible rfl)
                    try simp only [Act.put, List.setIfInBounds_toArray, List.set_cons_zero, List.set_cons_succ]
                    refine takeD (i := 4) (v := ?v22) (some 48) rfl (by kernel_rfl) (by kernel_rfl) (by kernel_rfl) (fun _ _ _ h => h) (Or.inl ⟨by rfl, ?hy22⟩) (by assumption) (by rfl) ?rest22
                    case hy22 => first | (intro w hSw; (try dsimp only at hSw); go_simp; done) | (intro w hSw; (try dsimp only at hSw); go_simp; with_reducible rfl)
                    try simp only [Act.put, List.setIfInBounds_toArray, List.set_cons_zero, List.set_cons_succ]
                    refine takeD (i := 5) (v := ?v23) (some 49) rfl (by kernel_rfl) (by kernel_rfl) (by kernel_rfl) (fun _ _ _ h => h) (Or.inl ⟨by rfl, ?hy23⟩) (by assumption) (by rfl) ?rest23
                    case hy23 => first | (intro w hSw; (try dsimp only at hSw); go_simp; done) | (intro w hSw; (try dsimp only at hSw); go_simp; with_reducible rfl)
                    try simp only [Act.put, List.setIfInBounds_toArray, List.set_cons_zero, List.set_cons_succ]
                    refine takeD (i := 6) (v := ?v24) (some 50) rfl (by kernel_rfl) (by kernel_rfl) (by kernel_rfl) (fun _ _ _ h => h) (Or.inl ⟨by rfl, ?hy24⟩) (by assumption) (by rfl) ?rest24
                    case hy24 => first | (intro w hSw; (try dsimp only at hSw); go_simp; done) | (intro w hSw; (try dsimp only at hSw); go_simp; with_reducible rfl)
                    try simp only [Act.put, List.setIfInBounds_toArray, List.set_cons_zero, List.set_cons_succ]
                    refine takeD (i := 7) (v := ?v25) (some 51) rfl (by kernel_rfl) (by kernel_rfl) (by kernel_rfl) (fun _ _ _ h => h) (Or.inl ⟨by rfl, ?hy25⟩) (by assumption) (by rfl) ?rest25
                    case hy25 => first | (intro w hSw; (try dsimp only at hSw); go_simp; done) | (intro w hSw; (try dsimp only at hSw); go_simp; with_reducible rfl)
                    try simp only [Act.put, List.setIfInBounds_toArray, List.set_cons_zero, List.set_cons_succ]
                    refine takeD (i := 8) (v := ?v26) (some 52) rfl (by kernel_rfl) (by kernel_rfl) (by kernel_rfl) (fun _ _ _ h => h) (Or.inl ⟨by rfl, ?hy26⟩) (by assumption) (by rfl) ?rest26
                    case hy26 => first | (intro w hSw; (try dsimp only at hSw); go_simp; done) | (intro w hSw; (try dsimp only at hSw); go_simp; with_reducible rfl)
                    try simp only [Act.put, List.setIfInBounds_toArray, List.set_cons_zero, List.set_cons_succ]
                    refine takeD (i := 9) (v := ?v27) (some 53) rfl (by kernel_rfl) (by kernel_rfl) (by kernel_rfl) (fun _ _ _ h => h) (Or.inl ⟨by rfl, ?hy27⟩) (by assumption) (by rfl) ?rest27
                    case hy27 => first | (intro w hSw; (try dsimp only at hSw); go_simp; done) | (intro w hSw; (try dsimp only at hSw); go_simp; with_reducible rfl)
                    try simp only [Act.put, List.setIfInBounds_toArray, List.set_cons_zero, List.set_cons_succ]
                    refine takeD (i := 10) (v := ?v28) (some 54) rfl (by kernel_rfl) (by kernel_rfl) (by kernel_rfl) (fun _ _ _ h => h) (Or.inl ⟨by rfl, ?hy28⟩) (by assumption) (by rfl) ?rest28
                    case hy28 => first | (intro w hSw; (try dsimp only at hSw); go_simp; done) | (intro w hSw; (try dsimp only at hSw); go_simp; with_reducible rfl)
                    try simp only [Act.put, List.setIfInBounds_toArray, List.set_cons_zero, List.set_cons_succ]
                    refine takeD (i := 11) (v := ?v29) (some 55) rfl (by kernel_rfl) (by kernel_rfl) (by kernel_rfl) (fun _ _ _ h => h) (Or.inl ⟨by rfl, ?hy29⟩) (by assumption) (by rfl) ?rest29
                    case hy29 => first | (intro w hSw; (try dsimp only at hSw); go_simp; done) | (intro w hSw; (try dsimp only at hSw); go_simp; with_reducible rfl)
                    try simp only [Act.put, List.setIfInBounds_toArray, List.set_cons_zero, List.set_cons_succ]
                    refine takeD (i := 12) (v := ?v30) (some 56) rfl (by kernel_rfl) (by kernel_rfl) (by kernel_rfl) (fun _ _ _ h => h) (Or.inl ⟨by rfl, ?hy30⟩) (by assumption) (by rfl) ?rest30
                    case hy30 => first | (intro w hSw; (try dsimp only at hSw); go_simp; done) | (intro w hSw; (try dsimp only at hSw); go_simp; with_reducible rfl)
                    try simp only [Act.put, List.setIfInBounds_toArray, List.set_cons_zero, List.set_cons_succ]
                    refine takeD (i := 13) (v := ?v31) (some 57) rfl (by kernel_rfl) (by kernel_rfl) (by kernel_rfl) (fun _ _ _ h => h) (Or.inl ⟨by rfl, ?hy31⟩) (by assumption) (by rfl) ?rest31
                    case hy31 => first | (intro w hSw; (try dsimp only at hSw); go_simp; done) | (intro w hSw; (try dsimp only at hSw); go_simp; with_reducible rfl)
                    try simp only [Act.put, List.setIfInBounds_toArray, List.set_cons_zero, List.set_cons_succ]
                    refine wpAnyH_ready (rs := [14]) (by kernel_rfl) (by simp) ?_
                    refine AllReadyH.cons rfl (fun K hK => ?_) AllReadyH.nil
                    go_simp
                    refine (runit_calls _ _).mono ?_
                    rintro e w1 ⟨rfl, hw⟩
                    rw [hw, hu]
                    clear hw
                    go_wp2_with fail
                    refine hK.out _ _ hSS (fun _ => ?_)
                    clear hK K
                    try simp only [Act.put, List.setIfInBounds_toArray, List.set_cons_zero, List.set_cons_succ]
                    refine takeD (i := 15) (v := ?v32) (some 59) rfl (by kernel_rfl) (by kernel_rfl) (by kernel_rfl) (fun _ _ _ h => h) (Or.inl ⟨by rfl, ?hy32⟩) (by assumption) (by rfl) ?rest32
                    case hy32 => first | (intro w hSw; (try dsimp only at hSw); go_simp; done) | (intro w hSw; (try dsimp only at hSw); go_simp; with_reducible rfl)
                    try simp only [Act.put, List.setIfInBounds_toArray, List.set_cons_zero, List.set_cons_succ]
                    refine takeD (i := 16) (v := ?v33) (some 60) rfl (by kernel_rfl) (by kernel_rfl) (by kernel_rfl) (fun _ _ _ h => h) (Or.inl ⟨by rfl, ?hy33⟩) (by assumption) (by rfl) ?rest33
                    case hy33 => first | (intro w hSw; (try dsimp only at hSw); go_simp; done) | (intro w hSw; (try dsimp only at hSw); go_simp; with_reducible rfl)
                    try simp only [Act.put, List.setIfInBounds_toArray, List.set_cons_zero, List.set_cons_succ]
                    refine wpAnyH_done (by kernel_rfl) ?_ _
                    go_wp2
                    go_ret
                    exact ⟨_, rfl, .inr (.inr ⟨i, f, en, N, rfl, hi, by rw [HZ.out]; exact HCL.out, HE.out, by rw [HLT.out]; exact NP.out, by rw [HLT.out]; exact NQ.out, by rw [HLT.out]; exact .inl ⟨k, hlt, by rw [HUE.out]; exact HG.out, HN.out, by rw [HP.out, hfp']⟩⟩), (bafter HBB.out HB.out (Nat.le_refl _)).drew⟩
                  · have HG := hide (show (U : Int) ≤ u by omega)
                    have hwd : IntKind.i64.wrap dd = dd := by rw [IntKind.wrap_i64]; omega
                    have hUU : (A : Int) + (uu : Int) = (U : Int) := by omega
                    have hUb : U ≤ 2000000002 := by omega
                    have hwU : IntKind.i64.wrap (U : Int) = (U : Int) := by rw [IntKind.wrap_i64]; omega
                    have hld : decide (dd < (uu : Int)) = false := decide_eq_false hlu
                    clear hst hAU
                    go_wp2
                    refine wp_region_held_drew (S := fun X : World => X.cell? ⟨w.heap.size, 1, none⟩ = some (.int .i64 u) ∧ X.cell? ⟨lb, 3 * k + 1, none⟩ = some (.int .i64 R)) (by kernel_rfl) ⟨cu, c1⟩ (fun hSS => ?_)
                    try simp only [Act.put, List.setIfInBounds_toArray, List.set_cons_zero, List.set_cons_succ]
                    refine takeD (i := 0) (v := ?v34) (some 44) rfl (by kernel_rfl) (by kernel_rfl) (by kernel_rfl) (fun _ _ _ h => h) (Or.inl ⟨by rfl, ?hy34⟩) (by assumption) (by rfl) ?rest34
                    case hy34 => first | (intro w hSw; (try dsimp only at hSw); go_simp; done) | (intro w hSw; (try dsimp only at hSw); go_simp; with_reducible rfl)
                    try simp only [Act.put, List.setIfInBounds_toArray, List.set_cons_zero, List.set_cons_succ]
                    refine takeD (i := 1) (v := ?v35) (some 45) rfl (by kernel_rfl) (by kernel_rfl) (by kernel_rfl) (fun _ _ _ h => h) (Or.inl ⟨by rfl, ?hy35⟩) (by assumption) (by rfl) ?rest35
                    case hy35 => first | (intro w hSw; (try dsimp only at hSw); go_simp; done) | (intro w hSw; (try dsimp only at hSw); go_simp; with_reducible rfl)
                    try simp only [Act.put, List.setIfInBounds_toArray, List.set_cons_zero, List.set_cons_succ]
                    refine takeD (i := 2) (v := ?v36) (some 46) rfl (by kernel_rfl) (by kernel_rfl) (by kernel_rfl) (fun _ _ _ h => h) (Or.inl ⟨by rfl, ?hy36⟩) (by assumption) (by rfl) ?rest36
                    case hy36 => first | (intro w hSw; (try dsimp only at hSw); go_simp; done) | (intro w hSw; (try dsimp only at hSw); go_simp; with_reducible rfl)
                    try simp only [Act.put, List.setIfInBounds_toArray, List.set_cons_zero, List.set_cons_succ]
                    refine takeD (i := 3) (v := ?v37) (some 47) rfl (by kernel_rfl) (by kernel_rfl) (by kernel_rfl) (fun _ _ _ h => h) (Or.inl ⟨by rfl, ?hy37⟩) (by assumption) (by rfl) ?rest37
                    case hy37 => first | (intro w hSw; (try dsimp only at hSw); go_simp; done) | (intro w hSw; (try dsimp only at hSw); go_simp; with_reducible rfl)
                    try simp only [Act.put, List.setIfInBounds_toArray, List.set_cons_zero, List.set_cons_succ]
                    refine takeD (i := 4) (v := ?v38) (some 48) rfl (by kernel_rfl) (by kernel_rfl) (by kernel_rfl) (fun _ _ _ h => h) (Or.inl ⟨by rfl, ?hy38⟩) (by assumption) (by rfl) ?rest38
                    case hy38 => first | (intro w hSw; (try dsimp only at hSw); go_simp; done) | (intro w hSw; (try dsimp only at hSw); go_simp; with_reducible rfl)
                    try simp only [Act.put, List.setIfInBounds_toArray, List.set_cons_zero, List.set_cons_succ]
                    refine takeD (i := 5) (v := ?v39) (some 49) rfl (by kernel_rfl) (by kernel_rfl) (by kernel_rfl) (fun _ _ _ h => h) (Or.inl ⟨by rfl, ?hy39⟩) (by assumption) (by rfl) ?rest39
                    case hy39 => first | (intro w hSw; (try dsimp only at hSw); go_simp; done) | (intro w hSw; (try dsimp only at hSw); go_simp; with_reducible rfl)
                    try simp only [Act.put, List.setIfInBounds_toArray, List.set_cons_zero, List.set_cons_succ]
                    refine takeD (i := 6) (v := ?v40) (some 50) rfl (by kernel_rfl) (by kernel_rfl) (by kernel_rfl) (fun _ _ _ h => h) (Or.inl ⟨by rfl, ?hy40⟩) (by assumption) (by rfl) ?rest40
                    case hy40 => first | (intro w hSw; (try dsimp only at hSw); go_simp; done) | (intro w hSw; (try dsimp only at hSw); go_simp; with_reducible rfl)
                    try simp only [Act.put, List.setIfInBounds_toArray, List.set_cons_zero, List.set_cons_succ]
                    refine takeD (i := 7) (v := ?v41) (some 51) rfl (by kernel_rfl) (by kernel_rfl) (by kernel_rfl) (fun _ _ _ h => h) (Or.inl ⟨by rfl, ?hy41⟩) (by assumption) (by rfl) ?rest41
                    case hy41 => first | (intro w hSw; (try dsimp only at hSw); go_simp; done) | (intro w hSw; (try dsimp only at hSw); go_simp; with_reducible rfl)
                    try simp only [Act.put, List.setIfInBounds_toArray, List.set_cons_zero, List.set_cons_succ]
                    refine takeD (i := 8) (v := ?v42) (some 52) rfl (by kernel_rfl) (by kernel_rfl) (by kernel_rfl) (fun _ _ _ h => h) (Or.inl ⟨by rfl, ?hy42⟩) (by assumption) (by rfl) ?rest42
                    case hy42 => first | (intro w hSw; (try dsimp only at hSw); go_simp; done) | (intro w hSw; (try dsimp only at hSw); go_simp; with_reducible rfl)
                    try simp only [Act.put, List.setIfInBounds_toArray, List.set_cons_zero, List.set_cons_succ]
                    refine takeD (i := 9) (v := ?v43) (some 53) rfl (by kernel_rfl) (by kernel_rfl) (by kernel_rfl) (fun _ _ _ h => h) (Or.inl ⟨by rfl, ?hy43⟩) (by assumption) (by rfl) ?rest43
                    case hy43 => first | (intro w hSw; (try dsimp only at hSw); go_simp; done) | (intro w hSw; (try dsimp only at hSw); go_simp; with_reducible rfl)
                    try simp only [Act.put, List.setIfInBounds_toArray, List.set_cons_zero, List.set_cons_succ]
                    refine takeD (i := 10) (v := ?v44) (some 54) rfl (by kernel_rfl) (by kernel_rfl) (by kernel_rfl) (fun _ _ _ h => h) (Or.inl ⟨by rfl, ?hy44⟩) (by assumption) (by rfl) ?rest44
                    case hy44 => first | (intro w hSw; (try dsimp only at hSw); go_simp; done) | (intro w hSw; (try dsimp only at hSw); go_simp; with_reducible rfl)
                    try simp only [Act.put, List.setIfInBounds_toArray, List.set_cons_zero, List.set_cons_succ]
                    refine takeD (i := 11) (v := ?v45) (some 55) rfl (by kernel_rfl) (by kernel_rfl) (by kernel_rfl) (fun _ _ _ h => h) (Or.inl ⟨by rfl, ?hy45⟩) (by assumption) (by rfl) ?rest45
                    case hy45 => first | (intro w hSw; (try dsimp only at hSw); go_simp; done) | (intro w hSw; (try dsimp only at hSw); go_simp; with_reducible rfl)
                    try simp only [Act.put, List.setIfInBounds_toArray, List.set_cons_zero, List.set_cons_succ]
                    refine takeD (i := 12) (v := ?v46) (some 56) rfl (by kernel_rfl) (by kernel_rfl) (by kernel_rfl) (fun _ _ _ h => h) (Or.inl ⟨by rfl, ?hy46⟩) (by assumption) (by rfl) ?rest46
                    case hy46 => first | (intro w hSw; (try dsimp only at hSw); go_simp; done) | (intro w hSw; (try dsimp only at hSw); go_simp; with_reducible rfl)
                    try simp only [Act.put, List.setIfInBounds_toArray, List.set_cons_zero, List.set_cons_succ]
                    refine takeD (i := 13) (v := ?v47) (some 57) rfl (by kernel_rfl) (by kernel_rfl) (by kernel_rfl) (fun _ _ _ h => h) (Or.inl ⟨by rfl, ?hy47⟩) (by assumption) (by rfl) ?rest47
                    case hy47 => first | (intro w hSw; (try dsimp only at hSw); go_simp; done) | (intro w hSw; (try dsimp only at hSw); go_simp; with_reducible rfl)
                    try simp only [Act.put, List.setIfInBounds_toArray, List.set_cons_zero, List.set_cons_succ]
                    refine wpAnyH_ready (rs := [14]) (by kernel_rfl) (by simp) ?_
                    refine AllReadyH.cons rfl (fun K hK => ?_) AllReadyH.nil
                    go_simp
                    refine (runit_calls _ _).mono ?_
                    rintro e w1 ⟨rfl, hw⟩
                    rw [hw, hu]
                    clear hw
                    go_wp2_with fail
                    refine hK.out _ _ hSS (fun _ => ?_)
                    clear hK K
                    try simp only [Act.put, List.setIfInBounds_toArray, List.set_cons_zero, List.set_cons_succ]
                    refine takeD (i := 15) (v := ?v48) (some 59) rfl (by kernel_rfl) (by kernel_rfl) (by kernel_rfl) (fun _ _ _ h => h) (Or.inl ⟨by rfl, ?hy48⟩) (by assumption) (by rfl) ?rest48
                    case hy48 => first | (intro w hSw; (try dsimp only at hSw); go_simp; done) | (intro w hSw; (try dsimp only at hSw); go_simp; with_reducible rfl)
                    try simp only [Act.put, List.setIfInBounds_toArray, List.set_cons_zero, List.set_cons_succ]
                    refine takeD (i := 16) (v := ?v49) (some 60) rfl (by kernel_rfl) (by kernel_rfl) (by kernel_rfl) (fun _ _ _ h => h) (Or.inl ⟨by rfl, ?hy49⟩) (by assumption) (by rfl) ?rest49
                    case hy49 => first | (intro w hSw; (try dsimp only at hSw); go_simp; done) | (intro w hSw; (try dsimp only at hSw); go_simp; with_reducible rfl)
                    try simp only [Act.put, List.setIfInBounds_toArray, List.set_cons_zero, List.set_cons_succ]
                    refine wpAnyH_done (by kernel_rfl) ?_ _
                    go_wp2_with (go_at_call 39; refine (runit_calls _ _).mono ?_; rintro e w' ⟨rfl, hw⟩; rw [hw, hu]; clear hw)
                    go_roundw
                    case rel =>
                      refine ⟨k + 1, by omega, by go_num, by rw [HUE.out], fun j hj => ?_, HB.out.drew⟩
                      rcases Nat.lt_succ_iff_lt_or_eq.1 hj with g | g
                      · exact HN.out j g
                      · rw [g, HUE.out]; exact HG.out
                    case measure => simp [RowKit.intOf]; omega
              · obtain rfl : k = N := by omega
                have d1 : ¬ (k : Int) < (k : Int) := by omega
                clear hno hB
                go_wp2
                go_ret
                exact ⟨_, rfl, .inr (.inr ⟨i, f, en, k, rfl, hi, by rw [HZ.out]; exact HCL.out, HE.out, by rw [HLT.out]; exact NP.out, by rw [HLT.out]; exact NQ.out, by rw [HLT.out]; exact .inr ⟨HN.out, HEN.out⟩⟩), bafter HBB.out HB.out (Nat.le_refl _)⟩

end Go.Proofs.YthhpfdjcggfhaaaDoor
