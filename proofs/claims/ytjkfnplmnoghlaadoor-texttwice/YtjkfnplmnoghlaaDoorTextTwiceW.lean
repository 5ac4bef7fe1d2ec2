/- The law TextTwice, walked. -/
import Derived.Test.YtjkfnplmnoghlaaDoorTextAppliesW
namespace Go.Proofs.YtjkfnplmnoghlaaDoor
set_option linter.unusedVariables false
set_option linter.unusedSimpArgs false
set_option maxRecDepth 100000
open Go Go.RowKit Go.Shelf Go.Lib

/-- The first changes of a list, and those behind them. -/
theorem pre_take {T : List Nat} {L : List Ch} {c k : Nat} {NT : List Nat} {D : List Ed} (hk : k ≤ c) (h : Pre T L k NT D) : Pre T (L.take c) k NT D := by
  induction k generalizing NT D with
  | zero => exact h
  | succ k ih =>
    obtain ⟨T1, D1, x, d, p1, hx, s1, rfl⟩ := h
    exact ⟨T1, D1, x, d, ih (by omega) p1, by rw [List.getElem?_take_of_lt (by omega)]; exact hx, s1, rfl⟩
theorem pre_untake {T : List Nat} {L : List Ch} {c k : Nat} {NT : List Nat} {D : List Ed} (hk : k ≤ c) (h : Pre T (L.take c) k NT D) : Pre T L k NT D := by
  induction k generalizing NT D with
  | zero => exact h
  | succ k ih =>
    obtain ⟨T1, D1, x, d, p1, hx, s1, rfl⟩ := h
    exact ⟨T1, D1, x, d, ih (by omega) p1, by rw [List.getElem?_take_of_lt (by omega)] at hx; exact hx, s1, rfl⟩
theorem pre_drop {T T1 : List Nat} {L : List Ch} {c k : Nat} {D1 D : List Ed} {NT : List Nat} (h1 : Pre T L c T1 D1) (h : Pre T1 (L.drop c) k NT D) : Pre T L (c + k) NT (D1 ++ D) := by
  induction k generalizing NT D with
  | zero =>
    obtain ⟨rfl, rfl⟩ := h
    simpa using h1
  | succ k ih =>
    obtain ⟨T2, D2, x, d, p1, hx, s1, rfl⟩ := h
    exact ⟨T2, D1 ++ D2, x, d, ih p1, by rw [List.getElem?_drop] at hx; exact hx, s1, by simp⟩
theorem pre_undrop {T T1 : List Nat} {L : List Ch} {c k : Nat} {D1 D : List Ed} {NT : List Nat} (h1 : Pre T L c T1 D1) (h : Pre T L (c + k) NT D) : ∃ D2, Pre T1 (L.drop c) k NT D2 := by
  induction k generalizing NT D with
  | zero =>
    obtain ⟨rfl, rfl⟩ := pre_one h1 h
    exact ⟨[], rfl, rfl⟩
  | succ k ih =>
    obtain ⟨T2, D2, x, d, p1, hx, s1, rfl⟩ := h
    obtain ⟨D3, q⟩ := ih p1
    exact ⟨D3 ++ [d], T2, D3, x, d, q, by rw [List.getElem?_drop]; exact hx, s1, rfl⟩
theorem pre_less {T : List Nat} {L : List Ch} {k j : Nat} {NT : List Nat} {D : List Ed} (h : Pre T L k NT D) (hj : j ≤ k) : ∃ T' D', Pre T L j T' D' := by
  rcases Nat.lt_or_ge j k with g | g
  · obtain ⟨T', D', _, _, _, p, _⟩ := pre_down h g
    exact ⟨T', D', p⟩
  · obtain rfl : j = k := by omega
    exact ⟨NT, D, h⟩
/-- In two rows or in one: both are right, and then the text is the same; or both go wrong. -/
theorem two_rows {T : List Nat} {L : List Ch} {c : Nat} (hc : c ≤ L.length) {g h : Int} {NT N1 N2 : List Nat} {D D1 D2 : List Ed} (hg : ApplyR T L g NT D) (hh : ApplyR T (L.take c) h N1 D1) :
    (h ≠ 0 → g ≠ 0) ∧ (h = 0 → ∀ h2, ApplyR N1 (L.drop c) h2 N2 D2 → (g = 0 ↔ h2 = 0) ∧ (g = 0 → NT = N2)) := by
  have hl : (L.take c).length = c := by simp; omega
  have hl2 : (L.drop c).length = L.length - c := by simp
  constructor
  · intro hne e
    subst e
    rcases hg with ⟨_, p⟩ | ⟨k, _⟩
    · obtain ⟨T', D', q⟩ := pre_less p hc
      have hq : ApplyR T (L.take c) 0 T' D' := .inl ⟨rfl, by rw [hl]; exact pre_take (Nat.le_refl _) q⟩
      exact hne (apply_one hh hq).1
    · exact k rfl
  · intro e h2 hh2
    subst e
    obtain ⟨p1⟩ : Nonempty (Pre T L c N1 D1) := by
      rcases hh with ⟨_, p⟩ | ⟨k, _⟩
      · rw [hl] at p
        exact ⟨pre_untake (Nat.le_refl _) p⟩
      · exact absurd rfl k
    rcases hh2 with ⟨rfl, p2⟩ | ⟨hne, k, T', D', x, N', d', p2, hx, s2⟩
    · rw [hl2] at p2
      have p3 := pre_drop p1 p2
      rw [show c + (L.length - c) = L.length by omega] at p3
      have h3 := apply_one hg (.inl ⟨rfl, p3⟩)
      exact ⟨⟨fun _ => rfl, fun _ => h3.1⟩, fun e => (h3.2 e).1⟩
    · have p3 := pre_drop p1 p2
      rw [List.getElem?_drop] at hx
      have h3 := apply_one (NT' := []) (D' := []) hg (.inr ⟨hne, c + k, T', D1 ++ D', x, N', d', p3, hx, s2⟩)
      obtain ⟨rfl, _⟩ := h3
      exact ⟨Iff.rfl, fun e => absurd e hne⟩

theorem ChsIn.take {W : World} {ao : Option Addr} {n cap : Nat} {L : List Ch} (h : ChsIn W (.slice ao n cap) L) {c : Nat} (hc : c ≤ L.length) : ChsIn W (.slice ao c cap) (L.take c) := by
  obtain ⟨ao', cap', e, hl, hs⟩ := h
  cases e
  have e1 : (L.take c).length = c := by simp; omega
  refine ⟨ao, cap, by rw [e1], by omega, fun j x hj => ?_⟩
  have : j < c := by have := (List.getElem?_eq_some_iff.1 hj).1; omega
  rw [List.getElem?_take_of_lt this] at hj
  exact hs j x hj
theorem cut_head (W : World) (co : Option Addr) (n cc C : Nat) (h : C ≤ cc) : (Instr.slice 22 (.slice co n cc) none (some (.int .i64 (C : Int))) none).run Tryd.prog W = .ok (.slice co C cc) W := by
  have h1 := run_slice_h (P := Tryd.prog) (w := W) 22 co n cc (by kernel_rfl) .i64 (C : Int) (by omega) (by omega)
  rw [h1]
  go_simp
theorem cut_tail (W : World) (co : Option Addr) (n cc C : Nat) (h : C ≤ n) (h2 : n ≤ cc) : (Instr.slice 22 (.slice co n cc) (some (.int .i64 (C : Int))) none none).run Tryd.prog W = .ok (.slice (if cc = C then co else co.map (·.add (C * 6))) (n - C) (cc - C)) W := by
  have h1 := run_slice_l (P := Tryd.prog) (w := W) 22 co n cc (by kernel_rfl) .i64 (C : Int) (by omega) (by omega)
  rw [h1]
  go_simp
theorem ChsIn.tail {W : World} {co : Option Addr} {n cc : Nat} {L : List Ch} (h : ChsIn W (.slice co n cc) L) {C : Nat} (hc : C ≤ L.length) : ChsIn W (.slice (if cc = C then co else co.map (·.add (C * 6))) (L.drop C).length (cc - C)) (L.drop C) := by
  obtain ⟨ao', cap', e, hl, hs⟩ := h
  cases e
  refine ⟨_, _, rfl, by simp; omega, fun j x hj => ?_⟩
  have hlt : j < (L.drop C).length := (List.getElem?_eq_some_iff.1 hj).1
  rw [List.getElem?_drop] at hj
  obtain ⟨k, b', o', e, hc⟩ := hs _ x hj
  cases e
  rw [if_neg (by simp at hlt; omega)]
  refine ⟨k, b', o' + C * 6, by simp [add_plain], ?_⟩
  rw [show o' + C * 6 + j * 6 = o' + (C + j) * 6 by omega]
  exact hc

theorem undrew {n : Nat} {w W : World} (h : Below n w.drew W) : Below n w W := ⟨h.os, h.tape, h.output, h.size, h.block⟩
theorem take_get {L : List Ch} {c j : Nat} {x : Ch} (h : (L.take c)[j]? = some x) : L[j]? = some x := by
  rw [List.getElem?_take] at h
  split at h
  · exact h
  · cases h
theorem drop_get {L : List Ch} {c j : Nat} {x : Ch} (h : (L.drop c)[j]? = some x) : ∃ i : Nat, L[i]? = some x := ⟨_, by rw [List.getElem?_drop] at h; exact h⟩

theorem apply_docX (w : World) (D : Nat) (ver ver2 : Int) (T : List Nat) (E : List Ed) (co : Option Addr) (cc : Nat) (L : List Ch) {P : Nat → Prop}
    (h : DocX P w D ver T E) (hK : Know w) (hT : T.length ≤ 1048576) (hC : ChsIn w (.slice co L.length cc) L) (hX : ∀ (j : Nat) (x : Ch), L[j]? = some x → x.2.2.2.2.2.length ≤ 1000000) (hL : L.length ≤ 1000000) :
    Calls Tryd.prog 13 #[.pointer (some ⟨D, 0, none⟩), .int .i64 ver2, .slice co L.length cc] w fun e w' => ∃ (r : Int) (NT : List Nat) (Dl : List Ed), e = .returned (.int .i64 r) ∧ ApplyR T L r NT Dl ∧
      ((r ≠ 0 ∧ Below w.heap.size w w') ∨ (r = 0 ∧ DocX (fun B => P B ∧ B < w.heap.size) w' D ver2 NT Dl ∧ But D w w')) := by
  obtain ⟨ao, c, lo, ln, lc, eo, ec, h1, h2, h3, h4, h5, h6, h7, h8, h9⟩ := h
  refine (apply_any w D ver ver2 ao c lo ln lc eo E.length ec T co cc L h1 h2 h3 h4 h5 hK hT hC hX hL).mono ?_
  rintro e w' ⟨r, NT, Dl, he, hA, hr | ⟨hr, ao2, c2, lo2, ln2, lc2, eo2, ec2, k1, k2, k3, k4, k5, k6, k7, k8, k9, k10⟩⟩
  · exact ⟨r, NT, Dl, he, hA, .inl hr⟩
  · exact ⟨r, NT, Dl, he, hA, .inr ⟨hr, ⟨ao2, c2, lo2, ln2, lc2, eo2, ec2, k1, k2, k3, k4, k5, k6, k7, k8, fun B hB => k10 B hB.2 (h9 B hB.1).1 (h9 B hB.1).2.1⟩, k9⟩⟩

set_option maxHeartbeats 16000000 in
theorem textTwice_walk (w : World) (T : List Nat) (hT : ∀ y ∈ T, y < 256) (co : Option Addr) (cc : Nat) (L : List Ch) (hC : ChsIn w (.slice co L.length cc) L) (cut : Int) (hcut : (Lit.int .i64 cut).wf = true) (hK : Know w) :
    Calls Tryd.prog 8 #[.string (strOf T), .slice co L.length cc, .int .i64 cut] w fun e w' => e = .returned (.bool true) ∧ Below w.heap.size w w' := by
  have HK := hide hK
  have HC := hide hC
  have HT := hide hT
  clear hK hC hT hcut
  obtain ⟨Ln, hLn⟩ : ∃ Ln, L.length = Ln := ⟨_, rfl⟩
  have HLN := hide hLn
  rw [hLn] at HC ⊢
  clear hLn
  obtain ⟨sT, hsT⟩ : ∃ sT, strOf T = sT := ⟨_, rfl⟩
  have HST := hide hsT
  rw [hsT]
  clear hsT
  go_enter Tryd.func8, Tryd.ntmps8
  go_wp2_with fail
  refine (opened_calls w HK.out).mono ?_
  rintro e w1 ⟨rfl, hb1⟩
  have hli := light_calls w1 T _ L (HC.out.below hb1)
  rw [HST.out] at hli
  have HLI := hide hli
  have HB1 := hide hb1
  clear hli hb1
  go_wp2_with fail
  refine HLI.out.mono ?_
  rintro e w1' ⟨b, rfl, hlr, hw1⟩
  rw [hw1]
  clear hw1 HLI
  rcases hlr with rfl | ⟨rfl, t1, t2, t3⟩
  · go_wp2_with fail
    refine (opened_calls w1 (HK.out.below HB1.out)).mono ?_
    rintro e w2 ⟨rfl, hb2⟩
    have HB2 := hide (bafter HB1.out hb2 (by have := HB1.out.size; omega))
    clear hb2
    go_wp2
    go_ret
    exact ⟨rfl, HB2.out⟩
  have T1 := hide t1
  have T2 := hide (show Ln ≤ 20 by rw [← HLN.out]; exact t2)
  have T3 := hide t3
  clear t1 t2 t3
  have hop := open_on w1 1 T (HK.out.below HB1.out) HT.out (by have := T1.out; omega)
  rw [HST.out] at hop
  have HOP := hide hop
  clear hop
  go_wp2_with fail
  refine HOP.out.mono ?_
  clear HOP
  rintro e w2 ⟨r, htk, hb2, hcase2⟩
  have HTK := hide htk
  have HB2 := hide (bafter HB1.out hb2 (by have := HB1.out.size; omega))
  have hop := open_on w2 1 T (HK.out.below HB2.out) HT.out (by have := T1.out; omega)
  rw [HST.out] at hop
  have HOP := hide hop
  have HS1 := hide (show w.heap.size ≤ w1.heap.size from HB1.out.size)
  clear hop htk hb2
  rcases hcase2 with ⟨hr, rfl⟩ | ⟨rfl, D, rfl, hD, hdoc⟩
  · have HR := hide hr
    clear hr
    go_wp2_with fail
    refine HOP.out.mono ?_
    clear HOP
    rintro e w3 ⟨r', htk', hb3, hcase3⟩
    obtain rfl := take_one HTK.out htk'
    have HB3 := hide (bafter HB2.out hb3 (by have := HB2.out.size; omega))
    have hr := HR.out
    rcases hcase3 with ⟨_, rfl⟩ | ⟨e0, _⟩
    · clear htk' hb3
      go_wp2
      go_ret
      exact ⟨by simp, HB3.out⟩
    · exact absurd e0 hr
  · have HDOC := hide hdoc
    have HD := hide (Nat.le_trans HS1.out hD)
    clear hdoc hD
    go_wp2_with fail
    refine HOP.out.mono ?_
    clear HOP
    rintro e w3 ⟨r', htk', hb3, hcase3⟩
    obtain rfl := take_one HTK.out htk'
    rcases hcase3 with ⟨e0, _⟩ | ⟨_, D2, rfl, hD2, hdoc2⟩
    · exact absurd rfl e0
    have HB3 := hide (bafter HB2.out hb3 (by have := HB2.out.size; omega))
    have HDOC1 := hide (HDOC.out.below hb3)
    have HDOC2 := hide hdoc2
    have HNE := hide (show D < D2 from Nat.lt_of_lt_of_le HDOC.out.is.lt hD2)
    have HDlt := hide HDOC.out.is.lt
    have HD2a := hide hD2
    have HD2b := hide hdoc2.is.lt
    clear htk' hb3 hD2 hdoc2 HDOC HTK
    have n1 : (Ln : Int) + 1 ≠ 0 := by omega
    have n2 : IntKind.u64.wrap ((Ln : Int) + 1) = (Ln : Int) + 1 := by
      have := T2.out
      simp [IntKind.wrap, IntKind.signed, IntKind.bits]
      omega
    have n3 : IntKind.i64.wrap ((Ln : Int) + 1) = (Ln : Int) + 1 := by
      have := T2.out
      rw [wrap_i64]; unfold wrap64; omega
    obtain ⟨C, hCe, hCl⟩ : ∃ C : Nat, wrap64 ((IntKind.u64.wrap cut).tmod ((Ln : Int) + 1)) = (C : Int) ∧ C ≤ Ln := by
      have h0 : 0 ≤ IntKind.u64.wrap cut := by simp [IntKind.wrap, IntKind.signed, IntKind.bits]; omega
      rw [Int.tmod_eq_emod_of_nonneg h0]
      have h1 := Int.emod_nonneg (IntKind.u64.wrap cut) n1
      have h2 := Int.emod_lt_of_pos (IntKind.u64.wrap cut) (show (0 : Int) < (Ln : Int) + 1 by omega)
      have := T2.out
      refine ⟨(IntKind.u64.wrap cut % ((Ln : Int) + 1)).toNat, ?_, by omega⟩
      unfold wrap64
      omega
    have happ := apply_docX w3 D 1 2 T [] co cc L HDOC1.out (HK.out.below HB3.out) (by have := T1.out; omega) (by rw [HLN.out]; exact HC.out.below HB3.out) (fun j x hj => by have := T3.out j x hj; omega) (by have := T2.out; have := HLN.out; omega)
    rw [HLN.out] at happ
    have HAPP := hide happ
    clear happ
    go_upto_region 8 with fail
    rw [hCe]
    generalize (IntKind.u64.wrap cut).tmod ((Ln : Int) + 1) = tq at *
    generalize IntKind.u64.wrap cut = tu at *
    clear hCe n1 n2 n3
    go_wp2_with fail
    refine HAPP.out.mono ?_
    clear HAPP
    rintro e w4 ⟨g, NT, Dl, rfl, hA, hcase⟩
    have HA := hide hA
    have hb4 : Below w.heap.size w w4 := by
      rcases hcase with ⟨_, h⟩ | ⟨_, _, h⟩
      · exact bafter HB3.out h (by have := HB3.out.size; omega)
      · exact h.after HB3.out HD.out HB3.out.size
    have hd4 : DocX (fun B => B < w2.heap.size ∨ w3.heap.size ≤ B) w4 D2 1 T [] := by
      have hlt : D < w2.heap.size := HDlt.out
      rcases hcase with ⟨_, h⟩ | ⟨_, _, h⟩
      · exact HDOC2.out.below h
      · exact HDOC2.out.but h (.inl hlt) (by have := HNE.out; omega)
    have HB4 := hide hb4
    have HD4 := hide hd4
    have HGOOD : Hid (g = 0 → DocX (fun B => (B < w1.heap.size ∨ w2.heap.size ≤ B) ∧ B < w3.heap.size) w4 D 2 NT Dl) := fun e => by
      rcases hcase with ⟨h, _⟩ | ⟨_, h, _⟩
      · exact absurd e h
      · exact h
    clear hA hb4 hd4 hcase HDOC1 HDOC2
    have hcl : C ≤ L.length := by rw [HLN.out]; exact hCl
    have HCL := hide hcl
    have hcap : Ln ≤ cc := by
      obtain ⟨_, _, e, h, _⟩ := HC.out
      cases e
      rw [← HLN.out]
      exact h
    have hap2 := apply_doc w4 D2 1 2 T [] co cc (L.take C) HD4.out.is (HK.out.below HB4.out) (by have := T1.out; omega) (by have e := ChsIn.take (HC.out.below HB4.out) hcl; rwa [show (L.take C).length = C by simp; omega]) (fun j x hj => by have := T3.out j x (take_get hj); omega) (by have := T2.out; have := HLN.out; simp; omega)
    rw [show (L.take C).length = C by simp; omega] at hap2
    have HAP2 := hide hap2
    have q1 : ∀ W : World, (Instr.slice 22 (.slice co Ln cc) none (some (.int .i64 (C : Int))) none).run Tryd.prog W = .ok (.slice co C cc) W := fun W => cut_head W co Ln cc C (by omega)
    obtain ⟨aB, haB⟩ : ∃ aB, (if cc = C then co else co.map (·.add (C * 6))) = aB := ⟨_, rfl⟩
    have q2 : ∀ W : World, (Instr.slice 22 (.slice co Ln cc) (some (.int .i64 (C : Int))) none none).run Tryd.prog W = .ok (.slice aB (Ln - C) (cc - C)) W := fun W => by rw [← haB]; exact cut_tail W co Ln cc C hCl hcap
    have HAB := hide haB
    have HCAP := hide hcap
    have HCl := hide hCl
    clear hap2 hcl haB hcap hCl
    go_wp2_with fail
    refine HAP2.out.mono ?_
    clear HAP2
    rintro e w5 ⟨h, N1, D1, rfl, hA1, hcase⟩
    have HA1 := hide hA1
    have HN := hide HNE.out
    have hdd : D2 ≠ D := by have := HNE.out; omega
    have hb5 : Below w.heap.size w w5 := by
      rcases hcase with ⟨_, h⟩ | ⟨_, _, h⟩
      · exact bafter HB4.out h (by have := HB4.out.size; omega)
      · exact h.after HB4.out (by have := HD.out; have := HNE.out; omega) HB4.out.size
    have hbut5 : But D2 w4 w5 := by
      rcases hcase with ⟨_, h⟩ | ⟨_, _, h⟩
      · exact But.of h
      · exact h
    have HB5 := hide hb5
    have HBUT5 := hide hbut5
    have HCASE := hide hcase
    clear hA1 hb5 hbut5 hcase
    by_cases hh : h = 0
    · subst hh
      obtain ⟨hne, _⟩ | ⟨_, hd5, _⟩ := HCASE.out
      · exact absurd rfl hne
      have HD5 := hide hd5
      clear hd5 HCASE
      have hN1 := apply_size (by have := T1.out; omega) HA1.out
      have hld : (L.drop C).length = Ln - C := by rw [List.length_drop, HLN.out]
      have hap3 := apply_doc w5 D2 2 2 N1 D1 aB (cc - C) (L.drop C) HD5.out (HK.out.below HB5.out) hN1.1 (by have e := ChsIn.tail (HC.out.below HB5.out) HCL.out; rwa [HAB.out] at e) (fun j x hj => by obtain ⟨i, hi⟩ := drop_get hj; have := T3.out i x hi; omega) (by have := T2.out; omega)
      rw [hld] at hap3
      have HAP3 := hide hap3
      have HN1 := hide hN1
      clear hap3 hN1 hld
      go_wp2_with fail
      refine HAP3.out.mono ?_
      clear HAP3
      rintro e w6 ⟨h2, N2, D2l, rfl, hA2, hcase⟩
      have htwo := (two_rows HCL.out HA.out HA1.out (N2 := N2) (D2 := D2l)).2 rfl h2 hA2
      have hb6 : Below w.heap.size w w6 := by
        rcases hcase with ⟨_, h⟩ | ⟨_, _, h⟩
        · exact bafter HB5.out h (by have := HB5.out.size; omega)
        · exact h.after HB5.out (by have := HD.out; have := HNE.out; omega) HB5.out.size
      have hbut6 : But D2 w5 w6 := by
        rcases hcase with ⟨_, h⟩ | ⟨_, _, h⟩
        · exact But.of h
        · exact h
      have HB6 := hide hb6
      have HA2 := hide hA2
      by_cases hg : g = 0
      · have hh2 : h2 = 0 := htwo.1.1 hg
        obtain rfl := htwo.2 hg
        subst hg
        subst hh2
        obtain ⟨hne, _⟩ | ⟨_, hd6, _⟩ := hcase
        · exact absurd rfl hne
        have hda := ((HGOOD.out rfl).but HBUT5.out ⟨.inr HD2a.out, HD2b.out⟩ (by omega)).but hbut6 ⟨.inr HD2a.out, HD2b.out⟩ (by omega)
        have HDA := hide hda.is
        have HDB := hide hd6
        have HNT := hide (apply_size (by have := T1.out; omega) HA.out).1
        clear hda hd6 hbut6 hb6 hA2 htwo HGOOD HD5
        obtain ⟨sN, hsN⟩ : ∃ sN, strOf NT = sN := ⟨_, rfl⟩
        have HSN := hide hsN
        clear hsN
        go_upto_region 12 with fail
        refine wp_region_held_drew (S := fun _ : World => True) (by kernel_rfl) trivial (fun hHeld => ?_)
        refine takeD (i := 0) (v := ?v1) (some 64) rfl (by kernel_rfl) (by kernel_rfl) (by kernel_rfl) (fun _ _ _ h => h) (Or.inl ⟨by rfl, ?hy1⟩) (by assumption) (by rfl) ?rest1
        case hy1 => first | (intro w hSw; go_simp; done) | (intro w hSw; go_simp; with_reducible rfl)
        try simp only [Act.put, List.setIfInBounds_toArray, List.set_cons_zero, List.set_cons_succ]
        refine takeD (i := 1) (v := ?v2) (some 65) rfl (by kernel_rfl) (by kernel_rfl) (by kernel_rfl) (fun _ _ _ h => h) (Or.inl ⟨by rfl, ?hy2⟩) (by assumption) (by rfl) ?rest2
        case hy2 => first | (intro w hSw; go_simp; done) | (intro w hSw; go_simp; with_reducible rfl)
        try simp only [Act.put, List.setIfInBounds_toArray, List.set_cons_zero, List.set_cons_succ]
        refine takeD (i := 2) (v := ?v3) (some 66) rfl (by kernel_rfl) (by kernel_rfl) (by kernel_rfl) (fun _ _ _ h => h) (Or.inl ⟨by rfl, ?hy3⟩) (by assumption) (by rfl) ?rest3
        case hy3 => first | (intro w hSw; go_simp; done) | (intro w hSw; go_simp; with_reducible rfl)
        try simp only [Act.put, List.setIfInBounds_toArray, List.set_cons_zero, List.set_cons_succ]
        refine takeD (i := 3) (v := ?v4) (some 67) rfl (by kernel_rfl) (by kernel_rfl) (by kernel_rfl) (fun _ _ _ h => h) (Or.inl ⟨by rfl, ?hy4⟩) (by assumption) (by rfl) ?rest4
        case hy4 => first | (intro w hSw; go_simp; done) | (intro w hSw; go_simp; with_reducible rfl)
        try simp only [Act.put, List.setIfInBounds_toArray, List.set_cons_zero, List.set_cons_succ]
        refine takeD (i := 4) (v := ?v5) (some 68) rfl (by kernel_rfl) (by kernel_rfl) (by kernel_rfl) (fun _ _ _ h => h) (Or.inl ⟨by rfl, ?hy5⟩) (by assumption) (by rfl) ?rest5
        case hy5 => first | (intro w hSw; go_simp; done) | (intro w hSw; go_simp; with_reducible rfl)
        try simp only [Act.put, List.setIfInBounds_toArray, List.set_cons_zero, List.set_cons_succ]
        refine takeD (i := 5) (v := ?v6) (some 69) rfl (by kernel_rfl) (by kernel_rfl) (by kernel_rfl) (fun _ _ _ h => h) (Or.inl ⟨by rfl, ?hy6⟩) (by assumption) (by rfl) ?rest6
        case hy6 => first | (intro w hSw; go_simp; done) | (intro w hSw; go_simp; with_reducible rfl)
        try simp only [Act.put, List.setIfInBounds_toArray, List.set_cons_zero, List.set_cons_succ]
        refine takeD (i := 6) (v := ?v7) (some 70) rfl (by kernel_rfl) (by kernel_rfl) (by kernel_rfl) (fun _ _ _ h => h) (Or.inl ⟨by rfl, ?hy7⟩) (by assumption) (by rfl) ?rest7
        case hy7 => first | (intro w hSw; go_simp; done) | (intro w hSw; go_simp; with_reducible rfl)
        try simp only [Act.put, List.setIfInBounds_toArray, List.set_cons_zero, List.set_cons_succ]
        refine takeD (i := 7) (v := ?v8) (some 71) rfl (by kernel_rfl) (by kernel_rfl) (by kernel_rfl) (fun _ _ _ h => h) (Or.inl ⟨by rfl, ?hy8⟩) (by assumption) (by rfl) ?rest8
        case hy8 => first | (intro w hSw; go_simp; done) | (intro w hSw; go_simp; with_reducible rfl)
        try simp only [Act.put, List.setIfInBounds_toArray, List.set_cons_zero, List.set_cons_succ]
        refine takeD (i := 8) (v := ?v9) (some 72) rfl (by kernel_rfl) (by kernel_rfl) (by kernel_rfl) (fun _ _ _ h => h) (Or.inl ⟨by rfl, ?hy9⟩) (by assumption) (by rfl) ?rest9
        case hy9 => first | (intro w hSw; go_simp; done) | (intro w hSw; go_simp; with_reducible rfl)
        try simp only [Act.put, List.setIfInBounds_toArray, List.set_cons_zero, List.set_cons_succ]
        refine takeD (i := 9) (v := ?v10) (some 73) rfl (by kernel_rfl) (by kernel_rfl) (by kernel_rfl) (fun _ _ _ h => h) (Or.inl ⟨by rfl, ?hy10⟩) (by assumption) (by rfl) ?rest10
        case hy10 => first | (intro w hSw; go_simp; done) | (intro w hSw; go_simp; with_reducible rfl)
        try simp only [Act.put, List.setIfInBounds_toArray, List.set_cons_zero, List.set_cons_succ]
        refine takeD (i := 12) (v := ?v11) (some 76) rfl (by kernel_rfl) (by kernel_rfl) (by kernel_rfl) (fun _ _ _ h => h) (Or.inl ⟨by rfl, ?hy11⟩) (by assumption) (by rfl) ?rest11
        case hy11 => first | (intro w hSw; go_simp; done) | (intro w hSw; go_simp; with_reducible rfl)
        try simp only [Act.put, List.setIfInBounds_toArray, List.set_cons_zero, List.set_cons_succ]
        refine wpAnyH_ready (rs := [10]) (by kernel_rfl) (by simp) ?_
        refine AllReadyH.cons rfl (fun K hK => ?_) AllReadyH.nil
        go_simp
        refine (bytes_any _ D 2 NT Dl (HDA.out.below (Below.refl _ _).drew) (by have := HNT.out; omega)).mono ?_
        rintro e w12 ⟨ao12, c12, rfl, hy12, hs12⟩
        have hb12 : Below w6.heap.size w6 w12 := undrew hs12
        go_wp2_with fail
        refine hK.out _ _ trivial (fun _ => ?_)
        clear hK K
        try simp only [Act.put, List.setIfInBounds_toArray, List.set_cons_zero, List.set_cons_succ]
        refine wpAnyH_ready (rs := [11, 13]) (by kernel_rfl) (by simp) ?_
        refine AllReadyH.cons rfl (fun K hK => ?_) (AllReadyH.cons rfl (fun K hK => ?_) AllReadyH.nil)
        · have hcv13 := conv_byts hy12.1
          rw [HSN.out] at hcv13
          go_simp
          refine hK.out _ _ trivial (fun _ => ?_)
          clear hK K hcv13
          try simp only [Act.put, List.setIfInBounds_toArray, List.set_cons_zero, List.set_cons_succ]
          refine wpAnyH_ready (rs := [13]) (by kernel_rfl) (by simp) ?_
          refine AllReadyH.cons rfl (fun K hK => ?_) AllReadyH.nil
          go_simp
          refine (bytes_any _ D2 2 NT D2l (HDB.out.below hb12) (by have := HNT.out; omega)).mono ?_
          rintro e w14 ⟨ao14, c14, rfl, hy14, hs14⟩
          have hb14 : Below w6.heap.size w6 w14 := bafter hb12 hs14 (Nat.le_refl _)
          have hyo14 := hy12.below hs14
          go_wp2_with fail
          refine hK.out _ _ trivial (fun _ => ?_)
          clear hK K
          try simp only [Act.put, List.setIfInBounds_toArray, List.set_cons_zero, List.set_cons_succ]
          refine wpAnyH_ready (rs := [14]) (by kernel_rfl) (by simp) ?_
          refine AllReadyH.cons rfl (fun K hK => ?_) AllReadyH.nil
          have hcv15 := conv_byts hy14.1
          rw [HSN.out] at hcv15
          go_simp
          refine hK.out _ _ trivial (fun _ => ?_)
          clear hK K hcv15
          try simp only [Act.put, List.setIfInBounds_toArray, List.set_cons_zero, List.set_cons_succ]
          refine takeD (i := 15) (v := ?v16) (some 79) rfl (by kernel_rfl) (by kernel_rfl) (by kernel_rfl) (fun _ _ _ h => h) (Or.inl ⟨by rfl, ?hy16⟩) (by assumption) (by rfl) ?rest16
          case hy16 => first | (intro w hSw; go_simp; done) | (intro w hSw; go_simp; with_reducible rfl)
          try simp only [Act.put, List.setIfInBounds_toArray, List.set_cons_zero, List.set_cons_succ]
          refine takeD (i := 16) (v := ?v17) (some 80) rfl (by kernel_rfl) (by kernel_rfl) (by kernel_rfl) (fun _ _ _ h => h) (Or.inl ⟨by rfl, ?hy17⟩) (by assumption) (by rfl) ?rest17
          case hy17 => first | (intro w hSw; go_simp; done) | (intro w hSw; go_simp; with_reducible rfl)
          try simp only [Act.put, List.setIfInBounds_toArray, List.set_cons_zero, List.set_cons_succ]
          refine takeD (i := 17) (v := ?v18) (some 81) rfl (by kernel_rfl) (by kernel_rfl) (by kernel_rfl) (fun _ _ _ h => h) (Or.inl ⟨by rfl, ?hy18⟩) (by assumption) (by rfl) ?rest18
          case hy18 => first | (intro w hSw; go_simp; done) | (intro w hSw; go_simp; with_reducible rfl)
          try simp only [Act.put, List.setIfInBounds_toArray, List.set_cons_zero, List.set_cons_succ]
          refine wpAnyH_ready (rs := [18]) (by kernel_rfl) (by simp) ?_
          refine AllReadyH.cons rfl (fun K hK => ?_) AllReadyH.nil
          go_simp
          refine hK.out _ _ trivial (fun _ => ?_)
          clear hK K
          try simp only [Act.put, List.setIfInBounds_toArray, List.set_cons_zero, List.set_cons_succ]
          refine wpAnyH_done (by kernel_rfl) ?_ _
          go_wp2
          go_ret
          exact ⟨by simp, bafter HB6.out hb14 (Nat.le_refl _)⟩
        · go_simp
          refine (bytes_any _ D2 2 NT D2l (HDB.out.below hb12) (by have := HNT.out; omega)).mono ?_
          rintro e w19 ⟨ao19, c19, rfl, hy19, hs19⟩
          have hb19 : Below w6.heap.size w6 w19 := bafter hb12 hs19 (Nat.le_refl _)
          have hyo19 := hy12.below hs19
          go_wp2_with fail
          refine hK.out _ _ trivial (fun _ => ?_)
          clear hK K
          try simp only [Act.put, List.setIfInBounds_toArray, List.set_cons_zero, List.set_cons_succ]
          refine wpAnyH_ready (rs := [11, 14]) (by kernel_rfl) (by simp) ?_
          refine AllReadyH.cons rfl (fun K hK => ?_) (AllReadyH.cons rfl (fun K hK => ?_) AllReadyH.nil)
          · have hcv20 := conv_byts hyo19.1
            rw [HSN.out] at hcv20
            go_simp
            refine hK.out _ _ trivial (fun _ => ?_)
            clear hK K hcv20
            try simp only [Act.put, List.setIfInBounds_toArray, List.set_cons_zero, List.set_cons_succ]
            refine wpAnyH_ready (rs := [14]) (by kernel_rfl) (by simp) ?_
            refine AllReadyH.cons rfl (fun K hK => ?_) AllReadyH.nil
            have hcv21 := conv_byts hy19.1
            rw [HSN.out] at hcv21
            go_simp
            refine hK.out _ _ trivial (fun _ => ?_)
            clear hK K hcv21
            try simp only [Act.put, List.setIfInBounds_toArray, List.set_cons_zero, List.set_cons_succ]
            refine takeD (i := 15) (v := ?v22) (some 79) rfl (by kernel_rfl) (by kernel_rfl) (by kernel_rfl) (fun _ _ _ h => h) (Or.inl ⟨by rfl, ?hy22⟩) (by assumption) (by rfl) ?rest22
            case hy22 => first | (intro w hSw; go_simp; done) | (intro w hSw; go_simp; with_reducible rfl)
            try simp only [Act.put, List.setIfInBounds_toArray, List.set_cons_zero, List.set_cons_succ]
            refine takeD (i := 16) (v := ?v23) (some 80) rfl (by kernel_rfl) (by kernel_rfl) (by kernel_rfl) (fun _ _ _ h => h) (Or.inl ⟨by rfl, ?hy23⟩) (by assumption) (by rfl) ?rest23
            case hy23 => first | (intro w hSw; go_simp; done) | (intro w hSw; go_simp; with_reducible rfl)
            try simp only [Act.put, List.setIfInBounds_toArray, List.set_cons_zero, List.set_cons_succ]
            refine takeD (i := 17) (v := ?v24) (some 81) rfl (by kernel_rfl) (by kernel_rfl) (by kernel_rfl) (fun _ _ _ h => h) (Or.inl ⟨by rfl, ?hy24⟩) (by assumption) (by rfl) ?rest24
            case hy24 => first | (intro w hSw; go_simp; done) | (intro w hSw; go_simp; with_reducible rfl)
            try simp only [Act.put, List.setIfInBounds_toArray, List.set_cons_zero, List.set_cons_succ]
            refine wpAnyH_ready (rs := [18]) (by kernel_rfl) (by simp) ?_
            refine AllReadyH.cons rfl (fun K hK => ?_) AllReadyH.nil
            go_simp
            refine hK.out _ _ trivial (fun _ => ?_)
            clear hK K
            try simp only [Act.put, List.setIfInBounds_toArray, List.set_cons_zero, List.set_cons_succ]
            refine wpAnyH_done (by kernel_rfl) ?_ _
            go_wp2
            go_ret
            exact ⟨by simp, bafter HB6.out hb19 (Nat.le_refl _)⟩
          · have hcv25 := conv_byts hy19.1
            rw [HSN.out] at hcv25
            go_simp
            refine hK.out _ _ trivial (fun _ => ?_)
            clear hK K hcv25
            try simp only [Act.put, List.setIfInBounds_toArray, List.set_cons_zero, List.set_cons_succ]
            refine wpAnyH_ready (rs := [11]) (by kernel_rfl) (by simp) ?_
            refine AllReadyH.cons rfl (fun K hK => ?_) AllReadyH.nil
            have hcv26 := conv_byts hyo19.1
            rw [HSN.out] at hcv26
            go_simp
            refine hK.out _ _ trivial (fun _ => ?_)
            clear hK K hcv26
            try simp only [Act.put, List.setIfInBounds_toArray, List.set_cons_zero, List.set_cons_succ]
            refine takeD (i := 15) (v := ?v27) (some 79) rfl (by kernel_rfl) (by kernel_rfl) (by kernel_rfl) (fun _ _ _ h => h) (Or.inl ⟨by rfl, ?hy27⟩) (by assumption) (by rfl) ?rest27
            case hy27 => first | (intro w hSw; go_simp; done) | (intro w hSw; go_simp; with_reducible rfl)
            try simp only [Act.put, List.setIfInBounds_toArray, List.set_cons_zero, List.set_cons_succ]
            refine takeD (i := 16) (v := ?v28) (some 80) rfl (by kernel_rfl) (by kernel_rfl) (by kernel_rfl) (fun _ _ _ h => h) (Or.inl ⟨by rfl, ?hy28⟩) (by assumption) (by rfl) ?rest28
            case hy28 => first | (intro w hSw; go_simp; done) | (intro w hSw; go_simp; with_reducible rfl)
            try simp only [Act.put, List.setIfInBounds_toArray, List.set_cons_zero, List.set_cons_succ]
            refine takeD (i := 17) (v := ?v29) (some 81) rfl (by kernel_rfl) (by kernel_rfl) (by kernel_rfl) (fun _ _ _ h => h) (Or.inl ⟨by rfl, ?hy29⟩) (by assumption) (by rfl) ?rest29
            case hy29 => first | (intro w hSw; go_simp; done) | (intro w hSw; go_simp; with_reducible rfl)
            try simp only [Act.put, List.setIfInBounds_toArray, List.set_cons_zero, List.set_cons_succ]
            refine wpAnyH_ready (rs := [18]) (by kernel_rfl) (by simp) ?_
            refine AllReadyH.cons rfl (fun K hK => ?_) AllReadyH.nil
            go_simp
            refine hK.out _ _ trivial (fun _ => ?_)
            clear hK K
            try simp only [Act.put, List.setIfInBounds_toArray, List.set_cons_zero, List.set_cons_succ]
            refine wpAnyH_done (by kernel_rfl) ?_ _
            go_wp2
            go_ret
            exact ⟨by simp, bafter HB6.out hb19 (Nat.le_refl _)⟩
      · have hh2 : ¬ h2 = 0 := fun e => hg (htwo.1.2 e)
        have hg1 : (g == 0) = false := by simp [hg]
        have hh1 : (h2 == 0) = false := by simp [hh2]
        clear hcase htwo hbut6 hb6 hA2
        go_wp2
        go_quiet (fail)
        go_wp2
        go_ret
        exact ⟨by simp [hg, hh2], bdrewN HB6.out _⟩
    · have hg : g ≠ 0 := (two_rows HCL.out HA.out HA1.out (N2 := []) (D2 := [])).1 hh
      clear HCASE
      go_wp2
      go_quiet (fail)
      go_wp2
      go_ret
      exact ⟨by simp [hg], bdrewN HB5.out _⟩

end Go.Proofs.YtjkfnplmnoghlaaDoor
