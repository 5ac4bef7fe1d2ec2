/- The law TopEdits, walked. -/
import Derived.Test.YthhpfdjcggfhaaaDoorTTopM
import Derived.Test.YthhpfdjcggfhaaaDoorULaw1
import Derived.Deep.QuietTactic
import Derived.BigQuiet
import Derived.Deep.CutRange
import Derived.Deep.RegionWith
namespace Go.Proofs.YthhpfdjcggfhaaaDoor
set_option linter.unusedVariables false
set_option linter.unusedSimpArgs false
set_option maxRecDepth 100000
open Go Go.RowKit Go.Shelf Go.Lib

theorem chs_lit2 (w : World) (x : Ch) (hx : ChOk x) : ChsIn (w.alloc (.cells #[.bool x.1, .int .i64 x.2.1, .int .i64 x.2.2.1, .int .i64 x.2.2.2.1, .int .i64 x.2.2.2.2.1, .string (strOf x.2.2.2.2.2)] 71)) (.slice (some ⟨w.heap.size, 0, none⟩) 1 1) [x] := by
  refine ⟨_, _, rfl, Nat.le_refl _, fun j y hj => ?_⟩
  have hk := (List.getElem?_eq_some_iff.1 hj).1
  obtain rfl : j = 0 := by simp at hk; omega
  cases hj
  have b := BoxC.new w 71 #[.bool x.1, .int .i64 x.2.1, .int .i64 x.2.2.1, .int .i64 x.2.2.2.1, .int .i64 x.2.2.2.2.1, .string (strOf x.2.2.2.2.2)]
  exact ⟨hx, _, _, rfl, b.cell 0, b.cell 1, b.cell 2, b.cell 3, b.cell 4, b.cell 5⟩
theorem apply_doc2 (w : World) (D : Nat) (ver ver2 : Int) (T : List Nat) (E : List Ed) (co : Option Addr) (cc : Nat) (L : List Ch)
    (h : DocIs w D ver T E) (hK : Know w) (hT : T.length ≤ 1048576) (hC : ChsIn w (.slice co L.length cc) L) (hX : ∀ (j : Nat) (x : Ch), L[j]? = some x → x.2.2.2.2.2.length ≤ 1000000) (hL : L.length ≤ 1000000) :
    Calls Tryd.prog 12 #[.pointer (some ⟨D, 0, none⟩), .int .i64 ver2, .slice co L.length cc] w fun e w' => ∃ (r : Int) (NT : List Nat) (Dl : List Ed), e = .returned (.int .i64 r) ∧ ApplyR T L r NT Dl ∧
      ((r ≠ 0 ∧ Below w.heap.size w w') ∨ (r = 0 ∧ DocIs w' D ver2 NT Dl ∧ But D w w')) := by
  obtain ⟨ao, c, lo, ln, lc, eo, ec, h1, h2, h3, h4, h5, h6, h7, h8⟩ := h
  refine (apply_any w D ver ver2 ao c lo ln lc eo E.length ec T co cc L h1 h2 h3 h4 h5 hK hT hC hX hL).mono ?_
  rintro e w' ⟨r, NT, Dl, he, hA, hr | ⟨hr, ao2, c2, lo2, ln2, lc2, eo2, ec2, k1, k2, k3, k4, k5, k6, k7, k8, k9, _⟩⟩
  · exact ⟨r, NT, Dl, he, hA, .inl hr⟩
  · exact ⟨r, NT, Dl, he, hA, .inr ⟨hr, ⟨ao2, c2, lo2, ln2, lc2, eo2, ec2, k1, k2, k3, k4, k5, k6, k7, k8⟩, k9⟩⟩
set_option maxHeartbeats 4000000 in
theorem bytes_any2 (w : World) (D : Nat) (ver : Int) (T : List Nat) (E : List Ed) (h : DocIs w D ver T E) (hlen : T.length ≤ 100000000) :
    Calls Tryd.prog 15 #[.pointer (some ⟨D, 0, none⟩)] w fun e w' => ∃ ao c, e = .returned (.slice ao T.length c) ∧ Byt w' ao c T ∧ Below w.heap.size w w' := by
  obtain ⟨ao, c, lo, ln, lc, eo, ec, h1, h2, h3, h4, h5, h6, h7, h8⟩ := h
  cases ao with
  | some a => exact bytes_calls w D ver a c T lo ln lc eo _ ec h1 h2.1 hlen
  | none =>
    have hc : c = 0 := h2.1.2.2 rfl
    have hT : T = [] := List.length_eq_zero_iff.1 (by have := h2.1.2.1; omega)
    subst hc hT
    have c1 : w.cell? ⟨D, 1, none⟩ = some (.slice none 0 0) := BoxC.cell h1 1
    have HB := hide h2
    clear h1 h2 h3 h4 h5 h6 h7 h8
    go_enter Tryd.func15, Tryd.ntmps15
    go_wp2_with fail
    refine (bclone_nil2 w 0).mono ?_
    rintro e w1 ⟨rfl, hw⟩
    rw [hw]
    go_wp2
    go_ret
    exact ⟨none, 0, rfl, HB.out.1, Below.refl _ _⟩

/-- One change, by numbers: the answer. -/
theorem apply_single {T : List Nat} {x : Ch} {r : Int} {NT : List Nat} {D : List Ed} (h : ApplyR T [x] r NT D) : ∃ NT' d, StepR T x r NT' d ∧ (r = 0 → NT = NT' ∧ D = [d]) := by
  rcases h with ⟨rfl, p⟩ | ⟨hr, k, T', D', x', N', d', p, hx, s⟩
  · obtain ⟨T1, D1, x1, d, p1, hx, s1, e⟩ := p
    obtain ⟨rfl, rfl⟩ := p1
    cases hx
    exact ⟨NT, d, s1, fun _ => ⟨rfl, e⟩⟩
  · have hk := (List.getElem?_eq_some_iff.1 hx).1
    obtain rfl : k = 0 := by simp at hk; omega
    obtain ⟨rfl, _⟩ := p
    cases hx
    exact ⟨N', d', s, fun e => absurd e hr⟩

attribute [local go_sem] Oper.semAt_some

/-- The law's own string stands in its box. -/
def TSt (w : World) (sT : ByteArray) (Y : World) : Prop := BoxC Y (w.heap.size + 1) 9 #[.string sT] ∧ Below w.heap.size w Y
theorem TSt.below {w Y Y' : World} {sT : ByteArray} (h : TSt w sT Y) (hb : Below Y.heap.size Y Y') : TSt w sT Y' := ⟨h.1.below hb, bafter h.2 hb (Nat.le_refl _)⟩
theorem TSt.but {w Y Y' : World} {sT : ByteArray} {D : Nat} (h : TSt w sT Y) (hb : But D Y Y') (hD : w.heap.size + 2 ≤ D) : TSt w sT Y' := ⟨h.1.but hb (by omega), hb.after h.2 (by omega) h.2.size⟩
theorem TSt.cell {w Y : World} {sT : ByteArray} (h : TSt w sT Y) : Y.cell? ⟨w.heap.size + 1, 0, none⟩ = some (.string sT) := by
  have := h.1.cell 0
  simpa using this
theorem TSt.lt {w Y : World} {sT : ByteArray} (h : TSt w sT Y) : w.heap.size + 2 ≤ Y.heap.size := h.1.lt

theorem edits_one2 (w : World) (D : Nat) (ver : Int) (T : List Nat) (d : Ed) (h : DocIs w D ver T [d]) :
    Calls Tryd.prog 16 #[.pointer (some ⟨D, 0, none⟩)] w fun e w' => ∃ v, e = .returned v ∧ EdsIn w' v [d] ∧ Below w.heap.size w w' := by
  obtain ⟨ao, c, lo, ln, lc, eo, ec, h1, h2, h3, h4, h5, h6, h7, h8⟩ := h
  cases eo with
  | some a =>
    obtain ⟨b, o, rfl⟩ := h7 a rfl
    exact (dedits_calls w D ver ao _ c lo ln lc b o ec [d] h1 h6 (by simp)).mono fun e w' ⟨rv, k1, k2, k3⟩ => ⟨rv, k1, k2, k3⟩
  | none =>
    obtain ⟨ao', cap', e, _, hs⟩ := h6
    obtain ⟨b, off, e2, _⟩ := hs 0 d rfl
    cases e
    cases e2
theorem place_unit {T : List Nat} (hT : ∀ x ∈ T, x < 256) (hl : T.length ≤ 400) {z ln un : Int} (h : PlaceR T (linesL T) z ln un) : un ≤ 9223372036854775807 := by
  rcases h with ⟨_, _, rfl⟩ | ⟨a, i, f, en, M, k, _, _, _, _, _, hE, n1, n2, hk, _, _, rfl⟩
  · decide
  · have h1 := unitsL_le (lineL T f en) k
    have h2 := posL_ge (T := lineL T f en) (fun x hx => hT x (List.mem_of_mem_drop (List.mem_of_mem_take hx))) n1 M (Nat.le_refl _)
    have h3 := lineL_length hE.1 hE.2.1
    have := hE.2.1
    omega
theorem top_step {T X : List Nat} {N A B : Nat} (hT : ∀ x ∈ T, x < 256) (h1 : ∀ k, k < N → posL T k < T.length) (h2 : posL T N = T.length) (hv : AllLet T N) (hA : MayAt T N (A : Int)) (hB : MayAt T N (B : Int)) (hAB : A ≤ B) (hTl : T.length ≤ 400) (hXl : X.length ≤ 200) (hXv : ValidL X)
    {pa ua pb ub : Int} (hpa : PlaceR T (linesL T) (A : Int) pa ua) (hpb : PlaceR T (linesL T) (B : Int) pb ub) {r : Int} {NT : List Nat} {D : List Ed} (h : ApplyR T [(true, pa, ua, pb, ub, X)] r NT D) : r = 0 ∧ NT = T.take A ++ X ++ T.drop B ∧ D = [((A : Int), (B : Int), (X.length : Int))] := by
  obtain ⟨NT', d, s, e⟩ := apply_single h
  have hs : r = 0 ∧ NT' = T.take A ++ X ++ T.drop B ∧ d = ((A : Int), (B : Int), (X.length : Int)) := by
    rcases s with ⟨a, _⟩ | ⟨_, F, G, hE, hI⟩
    · exact absurd hXv a
    · obtain ⟨rfl, rfl⟩ : F = A ∧ G = B := by
        rcases hE with ⟨_, f, t, hf, ht, e1, e2⟩ | ⟨a, _⟩
        · have a1 := may_back hT h1 h2 hv hA hpa hf
          have a2 := may_back hT h1 h2 hv hB hpb ht
          omega
        · cases a
      rcases hI with ⟨g, _⟩ | ⟨_, g3, g4, g5⟩
      · exfalso
        have g' : T.length - (G - F) + X.length > 1048576 := g
        omega
      · exact ⟨g3, g4, g5⟩
  obtain ⟨rfl, rfl, rfl⟩ := hs
  obtain ⟨q1, q2⟩ := e rfl
  exact ⟨rfl, q1, q2⟩
theorem top_moved {A B n m : Nat} (hAB : A ≤ B) (hB : B < n) (hn : n ≤ 400) (hm : m ≤ 200) : mvL [((A : Int), (B : Int), (m : Int))] ((B : Int), (n : Int)) = some (((A + m : Nat) : Int), ((A + m + (n - B) : Nat) : Int)) := by
  have hp : putsB ((A : Int), (B : Int), (m : Int)) (B : Int) (n : Int) = false := by
    unfold putsB
    have : decide ((B : Int) = (n : Int)) = false := decide_eq_false (by omega)
    rw [this]
    rfl
  have e1 : wrap64 ((B : Int) - (A : Int)) = (B : Int) - (A : Int) := by unfold wrap64; omega
  have hg : growL ((A : Int), (B : Int), (m : Int)) = (m : Int) - ((B : Int) - (A : Int)) := by
    unfold growL
    simp only [e1]
    unfold wrap64
    omega
  have hs : mvStep ((A : Int), (B : Int), (m : Int)) ((B : Int), (n : Int)) = some (((A + m : Nat) : Int), ((A + m + (n - B) : Nat) : Int)) := by
    unfold mvStep
    rw [if_neg (by rw [hp]; decide), if_pos (Int.le_refl _), hg]
    congr 2 <;> (unfold wrap64; omega)
  show (match mvStep _ _ with | some s' => mvL [] s' | none => none) = _
  rw [hs]
  rfl
/-- The numbers can be read. -/
theorem atL_read {Wl : World} {b2 : Nat} {T : List Nat} {N : Nat} {L : List Int} {W : World} (h1 : ∀ k, k < N → posL T k < T.length) (h2 : posL T N = T.length) (h : AtL Wl b2 T N L W) (hL : 1 ≤ L.length) : ∃ g sc, Boxed W b2 38 (.slice (some ⟨g, 0, none⟩) L.length sc) ∧ ∀ C, C < L.length → ∃ F : Nat, W.cell? ⟨g, C, none⟩ = some (.int .i64 (F : Int)) ∧ MayAt T N (F : Int) ∧ F ≤ T.length := by
  obtain ⟨so, sc, g0, g1, g2, g3⟩ := h
  rcases g2.2 with ⟨_, h0⟩ | ⟨g, cap, cur, e, hg, hh, hn, hm, hc, ht⟩
  · omega
  · cases e
    refine ⟨g, _, g1, fun C hC => ?_⟩
    have hca := World.ownsRow.cellAt g2
    have hmay := g3 L[C] (List.getElem_mem hC)
    obtain ⟨j, hj, hz, hx⟩ := hmay
    have hle : posL T j ≤ T.length := by
      rcases Nat.eq_or_lt_of_le hj with q | q
      · rw [q, h2]; exact Nat.le_refl _
      · exact Nat.le_of_lt (h1 j q)
    refine ⟨posL T j, ?_, ⟨j, hj, rfl, hx⟩, hle⟩
    refine (hca C (by omega)).trans ?_
    rw [← hz]
    simp [icells, List.getElem?_eq_getElem hC]

theorem bdrewN2 {n : Nat} {w W : World} (h : Below n w W) (k : Nat) : Below n w (W.drewN k) := by
  induction k with
  | zero => exact h
  | succ k ih => exact ih.drew

theorem mvV_form3 (r : Option (Int × Int)) : ∃ x y ok, mvV r = .tuple #[.agg #[.int .i64 x, .int .i64 y], .bool ok] := by
  cases r with
  | none => exact ⟨0, 0, false, rfl⟩
  | some s => exact ⟨s.1, s.2, true, rfl⟩

set_option maxHeartbeats 16000000 in
theorem topEdits_walk (w : World) (T : List Nat) (hT : ∀ y ∈ T, y < 256) (from0 : Int) (to0 : Int) (X : List Nat) (hX : ∀ y ∈ X, y < 256) (hK : Know w) :
    Calls Tryd.prog 7 #[.agg #[.string (strOf T), .int .i64 from0, .int .i64 to0, .string (strOf X)]] w fun e w' => e = .returned (.bool true) ∧ Below w.heap.size w w' := by
  obtain ⟨sT, hsT⟩ : ∃ sT, strOf T = sT := ⟨_, rfl⟩
  obtain ⟨sX, hsX⟩ : ∃ sX, strOf X = sX := ⟨_, rfl⟩
  have hszT : sT.size = T.length := by rw [← hsT]; exact strOf_size T
  have hszX : sX.size = X.length := by rw [← hsX]; exact strOf_size X
  have HK := hide hK
  have HT := hide hT
  have HX := hide hX
  have HST := hide hsT
  have HSX := hide hsX
  rw [hsT, hsX]
  clear hK hT hX hsT hsX
  have x0 := BoxC.new w 69 #[.string sT, .int .i64 from0, .int .i64 to0, .string sX]
  have HB0 := hide (bel w (.cells #[.string sT, .int .i64 from0, .int .i64 to0, .string sX] 69))
  clear x0
  refine calls_of_marks Tryd.func7 rfl ?_
  simp only [Tryd.ntmps7, List.size_toArray, List.length_cons, List.length_nil, Nat.reduceAdd, Nat.reduceSub, Array.replicate_succ, Array.replicate_zero, List.push_toArray, List.append_toArray, List.nil_append, List.cons_append]
  go_wp2
  generalize hW0 : w.alloc (.cells #[.string sT, .int .i64 from0, .int .i64 to0, .string sX] 69) = W0 at *
  have x0 : BoxC W0 w.heap.size 69 #[.string sT, .int .i64 from0, .int .i64 to0, .string sX] := by rw [← hW0]; exact BoxC.new _ _ _
  have c0 := x0.cell 0
  have c1 := x0.cell 1
  have c2 := x0.cell 2
  have c3 := x0.cell 3
  simp at c0 c1 c2 c3
  have hl0 := x0.lt
  have hsz0 : W0.heap.size = w.heap.size + 1 := by rw [← hW0]; simp
  have HSZ0 := hide hsz0
  clear x0 hW0 hsz0
  go_cut [3, 4, 5, 6] from 20 to 27 (fun s3 s4 s5 s6 wx => s3 = .pointer (some ⟨w.heap.size + 1, 0, none⟩) ∧ s4 = .int .i64 from0 ∧ s5 = .int .i64 to0 ∧ s6 = .string sX ∧ TSt w sT wx)
  case first =>
    go_region
    all_goals
      go_wp2_with fail
      go_meet
      refine ⟨by rw [HSZ0.out], rfl, rfl, rfl, ?_, ?_⟩
      · have h := BoxC.new W0 9 #[.string sT]
        rw [HSZ0.out] at h
        exact h
      · exact (bafter HB0.out (bel W0 _) (Nat.le_refl _)).drew
  case rest =>
    obtain ⟨rfl, rfl, rfl, rfl, hst⟩ := hcut
    have HS := hide hst
    clear hst c0 c1 c2 c3 HB0 hl0 HSZ0
    have hop := open_any wc 1 oT (HK.out.below HS.out.2) oT_small (by decide)
    rw [oT_str] at hop
    have HOP := hide hop
    clear hop
    go_wp2_with fail
    refine HOP.out.mono ?_
    clear HOP
    rintro e w1 ⟨r, htk, hb1, hcase⟩
    obtain rfl : r = 0 := take_one htk (.inr ⟨by decide, .inl ⟨oT_valid, rfl⟩⟩)
    rcases hcase with ⟨hr, _⟩ | ⟨_, D0, rfl, hD0, hdoc⟩
    · exact absurd rfl hr
    have HS1 := hide (HS.out.below hb1)
    have HD0 := hide (Nat.le_trans HS.out.lt hD0)
    have HDOC0 := hide (hdoc.below (bel w1 (.cells #[.bool true, .int .i64 0, .int .i64 1, .int .i64 0, .int .i64 2, .string (strOf [120])] 71)))
    have HS1' := hide (HS1.out.below (bel w1 (.cells #[.bool true, .int .i64 0, .int .i64 1, .int .i64 0, .int .i64 2, .string (strOf [120])] 71)))
    clear htk hb1 hD0 hdoc
    have hap := apply_doc2 _ D0 1 2 oT [] (some ⟨w1.heap.size, 0, none⟩) 1 [(true, 0, 1, 0, 2, [120])] HDOC0.out (HK.out.below HS1'.out.2) (by decide) (chs_lit2 w1 (true, 0, 1, 0, 2, [120]) ⟨by decide, by decide, by decide⟩) (fun j x hj => by
      have hk := (List.getElem?_eq_some_iff.1 hj).1
      obtain rfl : j = 0 := by simp at hk; omega
      cases hj
      decide) (by decide)
    simp only [oX_str] at hap HS1' HDOC0
    have HAP := hide hap
    clear hap
    go_wp2_with fail
    refine HAP.out.mono ?_
    clear HAP
    rintro e w2 ⟨r, NT, Dl, rfl, hA, hcase⟩
    obtain ⟨rfl, rfl⟩ := oT_apply hA
    rcases hcase with ⟨hr, _⟩ | ⟨_, hdoc2, hbut2⟩
    · exact absurd rfl hr
    have HS2 := hide (HS1'.out.but hbut2 HD0.out)
    have HBY := hide (bytes_any2 w2 D0 2 oN Dl hdoc2 (by decide))
    clear hA hdoc2 hbut2 HDOC0 HS1' HS1
    go_wp2_with fail
    refine HBY.out.mono ?_
    clear HBY
    rintro e w3 ⟨ao3, k3, rfl, hy3, hb3⟩
    have hcv := conv_byts hy3.1
    rw [oN_str] at hcv
    have HS3 := hide (HS2.out.below hb3)
    have cs3 := HS3.out.cell
    clear hy3 hb3 HS2
    by_cases hl1 : 400 < T.length
    · have d1 : (400 : Int) < (T.length : Int) := by omega
      go_wp2
      refine ⟨.bool true, by simp [results, Tryd.f7, go_sem], ⟨rfl, HS3.out.2⟩⟩
    by_cases hl2 : 200 < X.length
    · have d1 : ¬ (400 : Int) < (T.length : Int) := by omega
      have d2 : (200 : Int) < (X.length : Int) := by omega
      go_wp2
      refine ⟨.bool true, by simp [results, Tryd.f7, go_sem], ⟨rfl, HS3.out.2⟩⟩
    have d1 : ¬ (400 : Int) < (T.length : Int) := by omega
    have d2 : ¬ (200 : Int) < (X.length : Int) := by omega
    have T1 := hide (show T.length ≤ 400 by omega)
    have X1 := hide (show X.length ≤ 200 by omega)
    have hop := open_any w3 1 T (HK.out.below HS3.out.2) HT.out (by omega)
    rw [HST.out] at hop
    have HOP := hide hop
    clear hop
    go_wp2_with fail
    refine HOP.out.mono ?_
    clear HOP
    rintro e w4 ⟨r, htk, hb4, hcase⟩
    have HS4 := hide (HS3.out.below hb4)
    have HL3 := hide HS3.out.lt
    clear cs3 hcv hb4 HS3 d1 d2 hl1 hl2
    rcases hcase with ⟨hr, rfl⟩ | ⟨rfl, D, rfl, hD, hdoc⟩
    · go_wp2
      refine ⟨.bool true, by simp [results, Tryd.f7, go_sem], ⟨rfl, HS4.out.2⟩⟩
    have hval : ValidL T := by
      rcases htk with ⟨_, e⟩ | ⟨_, ⟨h, _⟩ | ⟨_, e⟩⟩
      · exact absurd e (by decide)
      · exact h
      · exact absurd e (by decide)
    obtain ⟨N, n1, n2, n3⟩ := hval
    have HN1 := hide n1
    have HN2 := hide n2
    have HN3 := hide n3
    have HDOC := hide hdoc
    have HDL := hide (Nat.le_trans HL3.out hD)
    clear htk n1 n2 n3 hdoc hD HL3
    obtain ⟨M, m1, m2⟩ := letters_count HX.out
    have HM1 := hide m1
    have HM2 := hide m2
    clear m1 m2
    obtain ⟨kx, w5, hcv5, hby5, hb5, _⟩ := conv_str w4 X HX.out
    rw [HSX.out] at hcv5
    have HBY5 := hide hby5
    have HB5 := hide hb5
    clear hby5 hb5
    have HVA := hide (valid_calls w5 _ kx X M HBY5.out.1 (HK.out.below (HS4.out.below HB5.out).2).tabs HM1.out HM2.out (by have := X1.out; omega) HBY5.out.2.1)
    go_wp2_with fail
    refine HVA.out.mono ?_
    clear HVA
    rintro e wB ⟨at6, er, rfl, htold, hb6⟩
    have HBB := hide (bafter HB5.out hb6 (Nat.le_refl _))
    have HSB := hide (HS4.out.below HBB.out)
    have HDOCB := hide (HDOC.out.below HBB.out)
    have HKB := hide (HK.out.below HSB.out.2)
    have hv := told_valid HM1.out HM2.out htold
    clear hcv5 htold hb6 HBY5 HB5 HDOC HS4 HBB
    rcases hv with ⟨hv, rfl⟩ | ⟨hv, rfl⟩
    rotate_left
    · have HVX := hide hv
      clear hv
      have HBD := hide (show Below wB.heap.size wB (wB.drew.alloc (.cells #[.bool false, .int .i64 0, .int .i64 0, .int .i64 0, .int .i64 0, .string (strOf X)] 71)) from ((Below.refl _ wB).drew).alloc (Nat.le_refl _) _)
      have hap := apply_doc2 _ D 1 2 T [] (some ⟨wB.drew.heap.size, 0, none⟩) 1 [(false, 0, 0, 0, 0, X)] (HDOCB.out.below HBD.out) (HKB.out.below HBD.out) (by have := T1.out; omega) (chs_lit2 wB.drew (false, 0, 0, 0, 0, X) ⟨show (0 : Int) ≤ 9223372036854775807 by decide, show (0 : Int) ≤ 9223372036854775807 by decide, HX.out⟩) (fun j x hj => by
        have hk := (List.getElem?_eq_some_iff.1 hj).1
        obtain rfl : j = 0 := by simp at hk; omega
        cases hj
        have := X1.out
        show X.length ≤ 1000000
        omega) (by simp)
      rw [HSX.out] at HBD hap
      have HAP := hide hap
      clear hap
      go_upto_region 12 with fail
      have cq := HSB.out.cell
      refine wp_region_held_drew (S := fun Y : World => Y.cell? ⟨w.heap.size + 1, 0, none⟩ = some (.string sT)) (by kernel_rfl) cq (fun hHeld => ?_)
      refine takeD (i := 0) (v := ?v49) (some 72) rfl (by kernel_rfl) (by kernel_rfl) (by kernel_rfl) (fun _ _ _ h => h) (Or.inl ⟨by rfl, ?hy49⟩) (by assumption) (by rfl) ?rest49
      case hy49 => first | (intro w hSw; (try dsimp only at hSw); go_simp; done) | (intro w hSw; (try dsimp only at hSw); go_simp; with_reducible rfl)
      try simp only [Act.put, List.setIfInBounds_toArray, List.set_cons_zero, List.set_cons_succ]
      refine takeD (i := 1) (v := ?v50) (some 73) rfl (by kernel_rfl) (by kernel_rfl) (by kernel_rfl) (fun _ _ _ h => h) (Or.inl ⟨by rfl, ?hy50⟩) (by assumption) (by rfl) ?rest50
      case hy50 => first | (intro w hSw; (try dsimp only at hSw); go_simp; done) | (intro w hSw; (try dsimp only at hSw); go_simp; with_reducible rfl)
      try simp only [Act.put, List.setIfInBounds_toArray, List.set_cons_zero, List.set_cons_succ]
      refine takeD (i := 2) (v := ?v51) (some 74) rfl (by kernel_rfl) (by kernel_rfl) (by kernel_rfl) (fun _ _ _ h => h) (Or.inl ⟨by rfl, ?hy51⟩) (by assumption) (by rfl) ?rest51
      case hy51 => first | (intro w hSw; (try dsimp only at hSw); go_simp; done) | (intro w hSw; (try dsimp only at hSw); go_simp; with_reducible rfl)
      try simp only [Act.put, List.setIfInBounds_toArray, List.set_cons_zero, List.set_cons_succ]
      refine takeD (i := 5) (v := ?v52) (some 77) rfl (by kernel_rfl) (by kernel_rfl) (by kernel_rfl) (fun _ _ _ h => h) (Or.inl ⟨by rfl, ?hy52⟩) (by assumption) (by rfl) ?rest52
      case hy52 => first | (intro w hSw; (try dsimp only at hSw); go_simp; done) | (intro w hSw; (try dsimp only at hSw); go_simp; with_reducible rfl)
      try simp only [Act.put, List.setIfInBounds_toArray, List.set_cons_zero, List.set_cons_succ]
      refine wpAnyH_ready (rs := [3]) (by kernel_rfl) (by simp) ?_
      refine AllReadyH.cons rfl (fun K hK => ?_) AllReadyH.nil
      go_simp
      have hq1 := (HSB.out.below HBD.out).cell
      refine hK.out _ _ hq1 (fun _ => ?_)
      clear hK K
      try simp only [Act.put, List.setIfInBounds_toArray, List.set_cons_zero, List.set_cons_succ]
      refine wpAnyH_ready (rs := [4]) (by kernel_rfl) (by simp) ?_
      refine AllReadyH.cons rfl (fun K hK => ?_) AllReadyH.nil
      go_simp
      refine HAP.out.mono ?_
      clear HAP
      rintro e w10 ⟨r, NT, Dl, rfl, hA, hcase⟩
      obtain ⟨NT', dd, hst, _⟩ := apply_single hA
      obtain rfl : r = 10 := by
        rcases hst with ⟨_, e⟩ | ⟨a, _⟩
        · exact e
        · exact absurd a HVX.out
      rcases hcase with ⟨_, hb10⟩ | ⟨e, _⟩
      rotate_left
      · exact absurd e (by decide)
      have HBX := hide (bafter HBD.out hb10 (Nat.le_refl _))
      have hq2 := (HSB.out.below HBX.out).cell
      clear hA hst hb10 hHeld hq1
      go_wp2_with fail
      refine hK.out _ _ hq2 (fun _ => ?_)
      clear hK K
      try simp only [Act.put, List.setIfInBounds_toArray, List.set_cons_zero, List.set_cons_succ]
      refine takeD (i := 6) (v := ?v53) (some 78) rfl (by kernel_rfl) (by kernel_rfl) (by kernel_rfl) (fun _ _ _ h => h) (Or.inl ⟨by rfl, ?hy53⟩) (by assumption) (by rfl) ?rest53
      case hy53 => first | (intro w hSw; (try dsimp only at hSw); go_simp; done) | (intro w hSw; (try dsimp only at hSw); go_simp; with_reducible rfl)
      try simp only [Act.put, List.setIfInBounds_toArray, List.set_cons_zero, List.set_cons_succ]
      refine takeD (i := 7) (v := ?v54) (some 79) rfl (by kernel_rfl) (by kernel_rfl) (by kernel_rfl) (fun _ _ _ h => h) (Or.inl ⟨by rfl, ?hy54⟩) (by assumption) (by rfl) ?rest54
      case hy54 => first | (intro w hSw; (try dsimp only at hSw); go_simp; done) | (intro w hSw; (try dsimp only at hSw); go_simp; with_reducible rfl)
      try simp only [Act.put, List.setIfInBounds_toArray, List.set_cons_zero, List.set_cons_succ]
      refine takeD (i := 8) (v := ?v55) (some 80) rfl (by kernel_rfl) (by kernel_rfl) (by kernel_rfl) (fun _ _ _ h => h) (Or.inl ⟨by rfl, ?hy55⟩) (by assumption) (by rfl) ?rest55
      case hy55 => first | (intro w hSw; (try dsimp only at hSw); go_simp; done) | (intro w hSw; (try dsimp only at hSw); go_simp; with_reducible rfl)
      try simp only [Act.put, List.setIfInBounds_toArray, List.set_cons_zero, List.set_cons_succ]
      refine takeD (i := 11) (v := ?v56) (some 83) rfl (by kernel_rfl) (by kernel_rfl) (by kernel_rfl) (fun _ _ _ h => h) (Or.inl ⟨by rfl, ?hy56⟩) (by assumption) (by rfl) ?rest56
      case hy56 => first | (intro w hSw; (try dsimp only at hSw); go_simp; done) | (intro w hSw; (try dsimp only at hSw); go_simp; with_reducible rfl)
      try simp only [Act.put, List.setIfInBounds_toArray, List.set_cons_zero, List.set_cons_succ]
      refine wpAnyH_ready (rs := [9]) (by kernel_rfl) (by simp) ?_
      refine AllReadyH.cons rfl (fun K hK => ?_) AllReadyH.nil
      go_simp
      refine (bytes_any2 w10 D 1 T [] (HDOCB.out.below HBX.out) (by have := T1.out; omega)).mono ?_
      rintro e w11 ⟨ao, k, rfl, hy, hb11⟩
      have hcv := conv_byts hy.1
      rw [HST.out] at hcv
      have HBY := hide (bafter HBX.out hb11 (Nat.le_refl _))
      have hq3 := (HSB.out.below HBY.out).cell
      clear hy hb11 hq2
      go_wp2_with fail
      refine hK.out _ _ hq3 (fun _ => ?_)
      clear hK K
      try simp only [Act.put, List.setIfInBounds_toArray, List.set_cons_zero, List.set_cons_succ]
      refine wpAnyH_ready (rs := [10]) (by kernel_rfl) (by simp) ?_
      refine AllReadyH.cons rfl (fun K hK => ?_) AllReadyH.nil
      go_simp
      refine hK.out _ _ hq3 (fun _ => ?_)
      clear hK K
      try simp only [Act.put, List.setIfInBounds_toArray, List.set_cons_zero, List.set_cons_succ]
      refine takeD (i := 12) (v := .bool true) (some 84) rfl (by kernel_rfl) (by kernel_rfl) (by kernel_rfl) (fun _ _ _ h => h) (Or.inl ⟨by rfl, ?hy57⟩) (by assumption) (by rfl) ?rest57
      case hy57 => first | (intro w hSw; (try dsimp only at hSw); go_simp; done) | (intro w hSw; (try dsimp only at hSw); go_simp; with_reducible rfl)
      try simp only [Act.put, List.setIfInBounds_toArray, List.set_cons_zero, List.set_cons_succ]
      refine takeD (i := 13) (v := ?v58) (some 85) rfl (by kernel_rfl) (by kernel_rfl) (by kernel_rfl) (fun _ _ _ h => h) (Or.inl ⟨by rfl, ?hy58⟩) (by assumption) (by rfl) ?rest58
      case hy58 => first | (intro w hSw; (try dsimp only at hSw); go_simp; done) | (intro w hSw; (try dsimp only at hSw); go_simp; with_reducible rfl)
      try simp only [Act.put, List.setIfInBounds_toArray, List.set_cons_zero, List.set_cons_succ]
      refine takeD (i := 14) (v := ?v59) (some 2) rfl (by kernel_rfl) (by kernel_rfl) (by kernel_rfl) (fun _ _ _ h => h) (Or.inl ⟨by rfl, ?hy59⟩) (by assumption) (by rfl) ?rest59
      case hy59 => first | (intro w hSw; (try dsimp only at hSw); go_simp; done) | (intro w hSw; (try dsimp only at hSw); go_simp; with_reducible rfl)
      try simp only [Act.put, List.setIfInBounds_toArray, List.set_cons_zero, List.set_cons_succ]
      refine wpAnyH_done (by kernel_rfl) ?_ _
      go_wp2
      refine ⟨.bool true, by simp [results, Tryd.f7, go_sem], ⟨rfl, (HSB.out.below HBY.out).2⟩⟩
    have HVX := hide hv
    have v0 := Boxed.new wB 38 (.slice none 0 0)
    have k0 := bel wB (.cells #[.slice none 0 0] 38)
    have z0 : (wB.alloc (.cells #[.slice none 0 0] 38)).heap.size = wB.heap.size + 1 := by simp
    have HV0 := hide (And.intro v0 (And.intro k0 z0))
    clear v0 k0 z0 hv
    go_upto_region 14 with fail
    generalize wB.alloc (.cells #[.slice none 0 0] 38) = W7 at *
    obtain ⟨v0, k0, z0⟩ := HV0.out
    have cs7 := (HSB.out.below k0).cell
    obtain ⟨kt, w8, hcv8, hby8, hb8, _⟩ := conv_str W7 T HT.out
    rw [HST.out] at hcv8
    have hl := uletters_calls2 w8 ⟨W7.heap.size, 0, none⟩ kt T hby8 (by have := T1.out; omega)
    rw [z0] at hl hcv8
    have HL := hide hl
    clear hl
    have K8 := hide (bafter k0 hb8 (Nat.le_refl _))
    have V8 := hide (boxed_below v0 hb8)
    clear HV0 v0 k0 hby8 hb8
    go_wp2_with fail
    refine HL.out.mono ?_
    clear HL
    rintro e Wl ⟨Bs, ao', cap', rfl, hbox, hby, hbl⟩
    have KL := hide (show Below wB.heap.size wB Wl from bafter K8.out hbl (Nat.le_refl _))
    have VL := hide (boxed_below V8.out hbl)
    have HBOX := hide hbox
    have HBY := hide hby
    have hb2 : wB.heap.size < Wl.heap.size := VL.out.lt
    clear hcv8 cs7 K8 V8 hbox hby hbl z0
    go_wp2
    refine (wpIn_wide (n := 3)).1 ?_
    have hne : Bs ≠ wB.heap.size := fun e => by
      have h1 : Wl.heap[Bs]? = _ := HBOX.out
      have h2 : Wl.heap[wB.heap.size]? = _ := VL.out
      rw [e, h2] at h1
      simp at h1
    have HKN : Hid (∀ (k : Nat) (W : World), AtI Wl wB.heap.size T N k W → LetKnow Bs ao' cap' T W) := by
      rintro k W ⟨L, _, so, sc, g0, _⟩
      have hbB : Below wB.heap.size wB W := g0.after KL.out (Nat.le_refl _) (by omega)
      have hlB : Bs < Wl.heap.size := HBOX.out.lt
      refine ⟨(g0.cell (p := ⟨Bs, 0, none⟩) hlB hne).trans (Boxed.cell HBOX.out), ?_, (HKB.out.below hbB).tabs⟩
      obtain ⟨_, _, e, q1, q2⟩ := HBY.out.1
      cases e
      refine ⟨ao', cap', rfl, q1, fun j hj => ?_⟩
      obtain ⟨b, off, e2, hc⟩ := q2 j hj
      exact ⟨b, off, e2, (g0.cell (p := ⟨b, off + j, none⟩) (block_lt hc) (fun e => by
        have e' : b = wB.heap.size := e
        subst e'
        exact box_no_byte3 VL.out hc)).trans hc⟩
    have hstart : AtI Wl wB.heap.size T N 0 Wl := ⟨[], Nat.le_refl _, none, 0, But.of (Below.refl _ _), VL.out, World.ownsRow_nil _ _ _ _, fun z hz => by cases hz⟩
    refine range_knownB (gf := 54) (lb := #[.pointer (some ⟨Bs, 0, none⟩)]) ?hg (enters_of Tryd.func54 (by kernel_rfl) rfl)
      (letters_hands Bs ao' cap' T N HN1.out HN2.out (by have := T1.out; omega) HBY.out.2.1) (fun _ => rfl)
      (fun k W => AtI Wl wB.heap.size T N k W) (fun c k W => False) atI_own (fun c => fun k X Y row h _ _ => h) HKN.out (fun k W W' h hb => h.below hb) hstart ?a1 ?assign ?body ?done ?stop
    case hg => rfl
    case assign =>
      intro l k W K hk hK
      gi_wp2
      exact hK
    case body =>
      rintro l k W hk ⟨L, hL, so, sc, g0, g1, g2, g3⟩
      obtain ⟨i0, hi, hz0, hz1, hz2⟩ := info_parts infoI64
      have cB := g1.cell
      have fB := g1.frozen
      have hbB : Below wB.heap.size wB W := g0.after KL.out (Nat.le_refl _) (by omega)
      have cS := (HSB.out.below hbB).cell
      have hPl := HN1.out k hk
      have hLb : L.length ≤ 400 := by
        have := posL_ge HT.out HN1.out N (Nat.le_refl _)
        have := HN2.out
        have := T1.out
        omega
      obtain ⟨P, hP⟩ : ∃ P, posL T k = P := ⟨_, rfl⟩
      rw [hP] at hPl ⊢
      obtain ⟨R, hR⟩ : ∃ R, runeAt T P = R := ⟨_, rfl⟩
      rw [hR]
      have HP := hide hP
      have HR := hide hR
      have HPL := hide hPl
      have hPb : P ≤ 400 := by have := T1.out; omega
      clear hbB hP hR hPl hstart
      by_cases h1 : R = 10
      · have e1 : (R == 10) = true := by simp [h1]
        have e1' : (R != 10) = false := by simp [h1]
        have H1 := hide h1
        clear h1
        by_cases h2 : P = 0
        · have e2 : ((P : Int) == 0) = true := by simp [h2]
          have H2 := hide h2
          clear h2
          have HMAY : Hid (MayAt T N (P : Int)) := ⟨k, by omega, by rw [HP.out], fun _ _ h => by rw [HP.out, H2.out] at h; omega⟩
          have HPUSH : Hid (∀ v' Xa, Xa.ownsRow Wl.heap.size 3 1 v' (L.length + 1) (icells L ++ [.int .i64 (P : Int)]) → (W.alloc (.cells #[.int .i64 (P : Int)] 3)).grownBy Xa (Value.slice so L.length sc).ownBlock → Boxed Xa wB.heap.size 38 (.slice so L.length sc) ∧ KeepsOthers W (Xa.setCell ⟨wB.heap.size, 0, none⟩ v') ∧ AtL Wl wB.heap.size T N (L ++ [(P : Int)]) (Xa.setCell ⟨wB.heap.size, 0, none⟩ v')) := fun v' Xa ho hg => atL_push hb2 g0 g1 g2 g3 HMAY.out ho hg
          have HO := hide (ownsRow_keep g2 (bel W (.cells #[.int .i64 (P : Int)] 3)))
          have HSZ : Hid (Wl.heap.size ≤ (W.alloc (.cells #[.int .i64 (P : Int)] 3)).heap.size) := by
            have := g0.2.2.2.1
            show _ ≤ _
            simp
            omega
          have c6 : (W.alloc (.cells #[.int .i64 (P : Int)] 3)).cell? ⟨wB.heap.size, 0, none⟩ = some (.slice so L.length sc) := (boxed_below g1 (bel _ _)).cell
          clear g0 g1 g2 g3
          gi_wp2_with (gi_at_builtin; go_must (refine wpListIn_append_own _ rfl (.tmp 104) (.tmp 106) 38 rfl Wl.heap.size 3 i0 (.int .i64 0) 1 8 Tryd.underlying38 hi hz0 hz1 hz2 rfl (by decide) (.slice so L.length sc) L.length (icells L) rfl HO.out ⟨W.heap.size, 0, none⟩ 1 1 [.int .i64 (P : Int)] rfl rfl (by exact World.news_of_block (World.alloc_heap_new _ _)) one_cell (by unfold maxLen; omega) (by omega) HSZ.out ?_; intro v' Xa hown' hgrow hnil; obtain ⟨y1, y2, y3⟩ := HPUSH.out v' Xa hown' hgrow; have HY2 := hide y2; have HY3 := hide y3; obtain ⟨so', sc', rfl⟩ := own_slice hown'; have cy := y1.cell; have fy := y1.frozen; clear y1 y2 y3 hown' hgrow hnil))
          exact ⟨HY2.out.from _, _, by rw [List.length_append]; simp; omega, HY3.out⟩
        · have e2 : ((P : Int) == 0) = false := by simp; omega
          obtain ⟨Q, hQ⟩ : ∃ Q, P - 1 = Q := ⟨_, rfl⟩
          have hPQ : (P : Int) - 1 = (Q : Int) := by omega
          have nQ : IntKind.i64.wrap (Q : Int) = (Q : Int) := by rw [wrap_i64]; unfold wrap64; omega
          have hix : ∀ W : World, (Instr.index 9 (.string sT) (.int .i64 (Q : Int))).run Tryd.prog W = .ok (.int .u8 ((nth T Q : Nat) : Int)) W := fun W => by
            have h := str_at HT.out W (j := Q) (by have := HPL.out; omega)
            rw [HST.out] at h
            exact h
          have H2 := hide h2
          have HQ := hide hQ
          clear h2 hQ
          by_cases h3 : nth T Q = 13
          · have e3 : (((nth T Q : Nat) : Int) == 13) = true := by simp [h3]
            have e3' : (((nth T Q : Nat) : Int) != 13) = false := by simp [h3]
            have G := hide (And.intro g0 (And.intro g1 (And.intro g2 g3)))
            clear g0 g1 g2 g3 h3
            gi_wp2
            obtain ⟨g0, g1, g2, g3⟩ := G.out
            exact ⟨KeepsFrom.refl _ _, L, by omega, so, sc, g0, g1, g2, g3⟩
          · have e3 : (((nth T Q : Nat) : Int) == 13) = false := by simp; omega
            have e3' : (((nth T Q : Nat) : Int) != 13) = true := by simp; omega
            have H3 := hide h3
            clear h3
            have HMAY : Hid (MayAt T N (P : Int)) := ⟨k, by omega, by rw [HP.out], fun _ _ _ => by rw [HP.out, HQ.out]; exact H3.out⟩
            have HPUSH : Hid (∀ v' Xa, Xa.ownsRow Wl.heap.size 3 1 v' (L.length + 1) (icells L ++ [.int .i64 (P : Int)]) → (W.alloc (.cells #[.int .i64 (P : Int)] 3)).grownBy Xa (Value.slice so L.length sc).ownBlock → Boxed Xa wB.heap.size 38 (.slice so L.length sc) ∧ KeepsOthers W (Xa.setCell ⟨wB.heap.size, 0, none⟩ v') ∧ AtL Wl wB.heap.size T N (L ++ [(P : Int)]) (Xa.setCell ⟨wB.heap.size, 0, none⟩ v')) := fun v' Xa ho hg => atL_push hb2 g0 g1 g2 g3 HMAY.out ho hg
            have HO := hide (ownsRow_keep g2 (bel W (.cells #[.int .i64 (P : Int)] 3)))
            have HSZ : Hid (Wl.heap.size ≤ (W.alloc (.cells #[.int .i64 (P : Int)] 3)).heap.size) := by
              have := g0.2.2.2.1
              show _ ≤ _
              simp
              omega
            have c6 : (W.alloc (.cells #[.int .i64 (P : Int)] 3)).cell? ⟨wB.heap.size, 0, none⟩ = some (.slice so L.length sc) := (boxed_below g1 (bel _ _)).cell
            clear g0 g1 g2 g3
            gi_wp2_with (gi_at_builtin; go_must (refine wpListIn_append_own _ rfl (.tmp 104) (.tmp 106) 38 rfl Wl.heap.size 3 i0 (.int .i64 0) 1 8 Tryd.underlying38 hi hz0 hz1 hz2 rfl (by decide) (.slice so L.length sc) L.length (icells L) rfl HO.out ⟨W.heap.size, 0, none⟩ 1 1 [.int .i64 (P : Int)] rfl rfl (by exact World.news_of_block (World.alloc_heap_new _ _)) one_cell (by unfold maxLen; omega) (by omega) HSZ.out ?_; intro v' Xa hown' hgrow hnil; obtain ⟨y1, y2, y3⟩ := HPUSH.out v' Xa hown' hgrow; have HY2 := hide y2; have HY3 := hide y3; obtain ⟨so', sc', rfl⟩ := own_slice hown'; have cy := y1.cell; have fy := y1.frozen; clear y1 y2 y3 hown' hgrow hnil))
            exact ⟨HY2.out.from _, _, by rw [List.length_append]; simp; omega, HY3.out⟩
      · have e1 : (R == 10) = false := by simp [h1]
        have e1' : (R != 10) = true := by simp [h1]
        have H1 := hide h1
        clear h1
        have HMAY : Hid (MayAt T N (P : Int)) := ⟨k, by omega, by rw [HP.out], fun h h10 _ => by
          rw [HP.out] at h h10
          have := (rune_ascii h (by omega)).1
          rw [HR.out, h10] at this
          exact absurd this H1.out⟩
        have HPUSH : Hid (∀ v' Xa, Xa.ownsRow Wl.heap.size 3 1 v' (L.length + 1) (icells L ++ [.int .i64 (P : Int)]) → (W.alloc (.cells #[.int .i64 (P : Int)] 3)).grownBy Xa (Value.slice so L.length sc).ownBlock → Boxed Xa wB.heap.size 38 (.slice so L.length sc) ∧ KeepsOthers W (Xa.setCell ⟨wB.heap.size, 0, none⟩ v') ∧ AtL Wl wB.heap.size T N (L ++ [(P : Int)]) (Xa.setCell ⟨wB.heap.size, 0, none⟩ v')) := fun v' Xa ho hg => atL_push hb2 g0 g1 g2 g3 HMAY.out ho hg
        have HO := hide (ownsRow_keep g2 (bel W (.cells #[.int .i64 (P : Int)] 3)))
        have HSZ : Hid (Wl.heap.size ≤ (W.alloc (.cells #[.int .i64 (P : Int)] 3)).heap.size) := by
          have := g0.2.2.2.1
          show _ ≤ _
          simp
          omega
        have c6 : (W.alloc (.cells #[.int .i64 (P : Int)] 3)).cell? ⟨wB.heap.size, 0, none⟩ = some (.slice so L.length sc) := (boxed_below g1 (bel _ _)).cell
        clear g0 g1 g2 g3
        gi_wp2_with (gi_at_builtin; go_must (refine wpListIn_append_own _ rfl (.tmp 104) (.tmp 106) 38 rfl Wl.heap.size 3 i0 (.int .i64 0) 1 8 Tryd.underlying38 hi hz0 hz1 hz2 rfl (by decide) (.slice so L.length sc) L.length (icells L) rfl HO.out ⟨W.heap.size, 0, none⟩ 1 1 [.int .i64 (P : Int)] rfl rfl (by exact World.news_of_block (World.alloc_heap_new _ _)) one_cell (by unfold maxLen; omega) (by omega) HSZ.out ?_; intro v' Xa hown' hgrow hnil; obtain ⟨y1, y2, y3⟩ := HPUSH.out v' Xa hown' hgrow; have HY2 := hide y2; have HY3 := hide y3; obtain ⟨so', sc', rfl⟩ := own_slice hown'; have cy := y1.cell; have fy := y1.frozen; clear y1 y2 y3 hown' hgrow hnil))
        exact ⟨HY2.out.from _, _, by rw [List.length_append]; simp; omega, HY3.out⟩
    case done =>
      rintro D9 W hD ⟨L, hL, so, sc, g0, g1, g2, g3⟩ hKd
      obtain ⟨i0, hi, hz0, hz1, hz2⟩ := info_parts infoI64
      have cB := g1.cell
      have fB := g1.frozen
      have hbB : Below wB.heap.size wB W := g0.after KL.out (Nat.le_refl _) (by omega)
      have cS := (HSB.out.below hbB).cell
      have hLb : L.length ≤ 400 := by
        have := posL_ge HT.out HN1.out N (Nat.le_refl _)
        have := HN2.out
        have := T1.out
        omega
      have HMAY : Hid (MayAt T N (T.length : Int)) := ⟨N, Nat.le_refl _, by rw [HN2.out], fun h => by rw [HN2.out] at h; omega⟩
      have HKd := hide hKd
      have HD := hide hD
      have HPUSH : Hid (∀ v' Xa, Xa.ownsRow Wl.heap.size 3 1 v' (L.length + 1) (icells L ++ [.int .i64 (T.length : Int)]) → (W.alloc (.cells #[.int .i64 (T.length : Int)] 3)).grownBy Xa (Value.slice so L.length sc).ownBlock → Boxed Xa wB.heap.size 38 (.slice so L.length sc) ∧ KeepsOthers W (Xa.setCell ⟨wB.heap.size, 0, none⟩ v') ∧ AtL Wl wB.heap.size T N (L ++ [(T.length : Int)]) (Xa.setCell ⟨wB.heap.size, 0, none⟩ v')) := fun v' Xa ho hg => atL_push hb2 g0 g1 g2 g3 HMAY.out ho hg
      have HO := hide (ownsRow_keep g2 (bel W (.cells #[.int .i64 (T.length : Int)] 3)))
      have HSZ : Hid (Wl.heap.size ≤ (W.alloc (.cells #[.int .i64 (T.length : Int)] 3)).heap.size) := by
        have := g0.2.2.2.1
        show _ ≤ _
        simp
        omega
      have c6 : (W.alloc (.cells #[.int .i64 (T.length : Int)] 3)).cell? ⟨wB.heap.size, 0, none⟩ = some (.slice so L.length sc) := (boxed_below g1 (bel _ _)).cell
      clear g0 g1 g2 g3 hstart hbB hKd hD
      go_wp2_with (at_builtin; go_must (refine wpList_append_own _ rfl (.tmp 108) (.tmp 111) 38 rfl Wl.heap.size 3 i0 (.int .i64 0) 1 8 Tryd.underlying38 hi hz0 hz1 hz2 rfl (by decide) (.slice so L.length sc) L.length (icells L) rfl HO.out ⟨W.heap.size, 0, none⟩ 1 1 [.int .i64 (T.length : Int)] rfl rfl (by exact World.news_of_block (World.alloc_heap_new _ _)) one_cell (by unfold maxLen; omega) (by omega) HSZ.out ?_; intro v' Xa hown' hgrow hnil; obtain ⟨y1, y2, y3⟩ := HPUSH.out v' Xa hown' hgrow; have HY2 := hide y2; have HY3 := hide y3; obtain ⟨so', sc', rfl⟩ := own_slice hown'; have cy := y1.cell; have fy := y1.frozen; clear y1 y2 y3 hown' hgrow hnil))
      have hK2 := HY2.out.same D9 _ HKd.out rfl
      have hY3 := HY3.out
      generalize Xa.setCell ⟨wB.heap.size, 0, none⟩ (.slice so' (L.length + 1) sc') = Wa at *
      have hlen : (L ++ [(T.length : Int)]).length = L.length + 1 := by simp
      obtain ⟨g, sc2, hbx, hread⟩ := atL_read HN1.out HN2.out hY3 (by rw [hlen]; omega)
      rw [hlen] at hbx hread
      obtain ⟨n, hn⟩ : ∃ n, L.length + 1 = n := ⟨_, rfl⟩
      rw [hn] at hbx hread
      obtain ⟨C1, hC1, l1⟩ := pick_in from0 n (by omega) (by omega)
      obtain ⟨C2, hC2, l2⟩ := pick_in to0 n (by omega) (by omega)
      have HP1 : ∀ W : World, Calls Tryd.prog 28 #[.int .i64 from0, .int .i64 (n : Int)] W fun e w' => e = .returned (.int .i64 (C1 : Int)) ∧ w' = W := fun W => (pick_calls W from0 n (by omega) (by omega)).mono fun e w' ⟨⟨C, a, b, _⟩, c⟩ => by
        have : (C : Int) = (C1 : Int) := by rw [← b, hC1]
        exact ⟨by rw [a, this], c⟩
      have HP2 : ∀ W : World, Calls Tryd.prog 28 #[.int .i64 to0, .int .i64 (n : Int)] W fun e w' => e = .returned (.int .i64 (C2 : Int)) ∧ w' = W := fun W => (pick_calls W to0 n (by omega) (by omega)).mono fun e w' ⟨⟨C, a, b, _⟩, c⟩ => by
        have : (C : Int) = (C2 : Int) := by rw [← b, hC2]
        exact ⟨by rw [a, this], c⟩
      obtain ⟨F1, r1, m1, f1⟩ := hread C1 l1
      obtain ⟨F2, r2, m2, f2⟩ := hread C2 l2
      have HF1 := hide f1
      have HF2 := hide f2
      have HM1 := hide m1
      have HM2 := hide m2
      have hKBa : Below wB.heap.size wB Wa := by
        obtain ⟨_, _, ga, _⟩ := hY3
        exact ga.after KL.out (Nat.le_refl _) (by omega)
      have KBa := hide hKBa
      have KDa := hide hK2
      have cb := hbx.cell
      have HD9 := hide (show D9 ≠ D by
        have := HD.out
        have := HDOCB.out.lt
        omega)
      have HD9w := hide (show w.heap.size ≤ D9 by
        have := HD.out
        have := HSB.out.lt
        omega)
      have k1 : (C1 : Int) < (n : Int) := by omega
      have k2 : (C2 : Int) < (n : Int) := by omega
      clear hn hY3 hread hbx hC1 hC2 hlen cB cS fB cy fy hK2 hKBa m1 m2 f1 f2 HPUSH HO HSZ c6 HMAY HY2 HY3 HKd
      have k0 : (0 : Int) ≤ (C1 : Int) := by omega
      have k0' : (0 : Int) ≤ (C2 : Int) := by omega
      go_cut [14, 15] from 113 to 126 (fun s14 s15 wx => s14 = .int .i64 (F1 : Int) ∧ s15 = .int .i64 (F2 : Int) ∧ wx = Wa.drew)
      case first =>
        refine wp_region_held_drew (S := fun Y : World => Y.cell? ⟨wB.heap.size, 0, none⟩ = some (.slice (some ⟨g, 0, none⟩) n sc2) ∧ Y.cell? ⟨g, C1, none⟩ = some (.int .i64 (F1 : Int)) ∧ Y.cell? ⟨g, C2, none⟩ = some (.int .i64 (F2 : Int))) (by kernel_rfl) ⟨cb, r1, r2⟩ (fun hHeld => ?_)
        refine takeD (i := 0) (v := ?v1) (some 113) rfl (by kernel_rfl) (by kernel_rfl) (by kernel_rfl) (fun _ _ _ h => h) (Or.inl ⟨by rfl, ?hy1⟩) (by assumption) (by rfl) ?rest1
        case hy1 => first | (intro w hSw; (try dsimp only at hSw); obtain ⟨q0, q1, q2⟩ := hSw; go_simp; done) | (intro w hSw; (try dsimp only at hSw); obtain ⟨q0, q1, q2⟩ := hSw; go_simp; with_reducible rfl)
        try simp only [Act.put, List.setIfInBounds_toArray, List.set_cons_zero, List.set_cons_succ]
        refine takeD (i := 1) (v := ?v2) (some 114) rfl (by kernel_rfl) (by kernel_rfl) (by kernel_rfl) (fun _ _ _ h => h) (Or.inl ⟨by rfl, ?hy2⟩) (by assumption) (by rfl) ?rest2
        case hy2 => first | (intro w hSw; (try dsimp only at hSw); obtain ⟨q0, q1, q2⟩ := hSw; go_simp; done) | (intro w hSw; (try dsimp only at hSw); obtain ⟨q0, q1, q2⟩ := hSw; go_simp; with_reducible rfl)
        try simp only [Act.put, List.setIfInBounds_toArray, List.set_cons_zero, List.set_cons_succ]
        refine takeD (i := 2) (v := ?v3) (some 115) rfl (by kernel_rfl) (by kernel_rfl) (by kernel_rfl) (fun _ _ _ h => h) (Or.inl ⟨by rfl, ?hy3⟩) (by assumption) (by rfl) ?rest3
        case hy3 => first | (intro w hSw; (try dsimp only at hSw); obtain ⟨q0, q1, q2⟩ := hSw; go_simp; done) | (intro w hSw; (try dsimp only at hSw); obtain ⟨q0, q1, q2⟩ := hSw; go_simp; with_reducible rfl)
        try simp only [Act.put, List.setIfInBounds_toArray, List.set_cons_zero, List.set_cons_succ]
        refine takeD (i := 3) (v := ?v4) (some 116) rfl (by kernel_rfl) (by kernel_rfl) (by kernel_rfl) (fun _ _ _ h => h) (Or.inl ⟨by rfl, ?hy4⟩) (by assumption) (by rfl) ?rest4
        case hy4 => first | (intro w hSw; (try dsimp only at hSw); obtain ⟨q0, q1, q2⟩ := hSw; go_simp; done) | (intro w hSw; (try dsimp only at hSw); obtain ⟨q0, q1, q2⟩ := hSw; go_simp; with_reducible rfl)
        try simp only [Act.put, List.setIfInBounds_toArray, List.set_cons_zero, List.set_cons_succ]
        refine takeD (i := 7) (v := ?v5) (some 120) rfl (by kernel_rfl) (by kernel_rfl) (by kernel_rfl) (fun _ _ _ h => h) (Or.inl ⟨by rfl, ?hy5⟩) (by assumption) (by rfl) ?rest5
        case hy5 => first | (intro w hSw; (try dsimp only at hSw); obtain ⟨q0, q1, q2⟩ := hSw; go_simp; done) | (intro w hSw; (try dsimp only at hSw); obtain ⟨q0, q1, q2⟩ := hSw; go_simp; with_reducible rfl)
        try simp only [Act.put, List.setIfInBounds_toArray, List.set_cons_zero, List.set_cons_succ]
        refine takeD (i := 8) (v := ?v6) (some 121) rfl (by kernel_rfl) (by kernel_rfl) (by kernel_rfl) (fun _ _ _ h => h) (Or.inl ⟨by rfl, ?hy6⟩) (by assumption) (by rfl) ?rest6
        case hy6 => first | (intro w hSw; (try dsimp only at hSw); obtain ⟨q0, q1, q2⟩ := hSw; go_simp; done) | (intro w hSw; (try dsimp only at hSw); obtain ⟨q0, q1, q2⟩ := hSw; go_simp; with_reducible rfl)
        try simp only [Act.put, List.setIfInBounds_toArray, List.set_cons_zero, List.set_cons_succ]
        refine takeD (i := 9) (v := ?v7) (some 122) rfl (by kernel_rfl) (by kernel_rfl) (by kernel_rfl) (fun _ _ _ h => h) (Or.inl ⟨by rfl, ?hy7⟩) (by assumption) (by rfl) ?rest7
        case hy7 => first | (intro w hSw; (try dsimp only at hSw); obtain ⟨q0, q1, q2⟩ := hSw; go_simp; done) | (intro w hSw; (try dsimp only at hSw); obtain ⟨q0, q1, q2⟩ := hSw; go_simp; with_reducible rfl)
        try simp only [Act.put, List.setIfInBounds_toArray, List.set_cons_zero, List.set_cons_succ]
        refine takeD (i := 10) (v := ?v8) (some 123) rfl (by kernel_rfl) (by kernel_rfl) (by kernel_rfl) (fun _ _ _ h => h) (Or.inl ⟨by rfl, ?hy8⟩) (by assumption) (by rfl) ?rest8
        case hy8 => first | (intro w hSw; (try dsimp only at hSw); obtain ⟨q0, q1, q2⟩ := hSw; go_simp; done) | (intro w hSw; (try dsimp only at hSw); obtain ⟨q0, q1, q2⟩ := hSw; go_simp; with_reducible rfl)
        try simp only [Act.put, List.setIfInBounds_toArray, List.set_cons_zero, List.set_cons_succ]
        refine wpAnyH_ready (rs := [4]) (by kernel_rfl) (by simp) ?_
        refine AllReadyH.cons rfl (fun K hK => ?_) AllReadyH.nil
        go_simp
        refine (HP1 Wa.drew).mono ?_
        rintro e w' ⟨rfl, rfl⟩
        go_wp2_with fail
        refine hK.out _ _ hHeld (fun _ => ?_)
        clear hK K
        try simp only [Act.put, List.setIfInBounds_toArray, List.set_cons_zero, List.set_cons_succ]
        refine takeD (i := 5) (v := ?v9) (some 118) rfl (by kernel_rfl) (by kernel_rfl) (by kernel_rfl) (fun _ _ _ h => h) (Or.inl ⟨by rfl, ?hy9⟩) (by assumption) (by rfl) ?rest9
        case hy9 => first | (intro w hSw; (try dsimp only at hSw); obtain ⟨q0, q1, q2⟩ := hSw; go_simp; done) | (intro w hSw; (try dsimp only at hSw); obtain ⟨q0, q1, q2⟩ := hSw; go_simp; with_reducible rfl)
        try simp only [Act.put, List.setIfInBounds_toArray, List.set_cons_zero, List.set_cons_succ]
        refine takeD (i := 6) (v := ?v10) (some 119) rfl (by kernel_rfl) (by kernel_rfl) (by kernel_rfl) (fun _ _ _ h => h) (Or.inl ⟨by rfl, ?hy10⟩) (by assumption) (by rfl) ?rest10
        case hy10 => first | (intro w hSw; (try dsimp only at hSw); obtain ⟨q0, q1, q2⟩ := hSw; go_simp; done) | (intro w hSw; (try dsimp only at hSw); obtain ⟨q0, q1, q2⟩ := hSw; go_simp; with_reducible rfl)
        try simp only [Act.put, List.setIfInBounds_toArray, List.set_cons_zero, List.set_cons_succ]
        refine wpAnyH_ready (rs := [11]) (by kernel_rfl) (by simp) ?_
        refine AllReadyH.cons rfl (fun K hK => ?_) AllReadyH.nil
        go_simp
        refine (HP2 Wa.drew).mono ?_
        rintro e w' ⟨rfl, rfl⟩
        go_wp2_with fail
        refine hK.out _ _ hHeld (fun _ => ?_)
        clear hK K
        try simp only [Act.put, List.setIfInBounds_toArray, List.set_cons_zero, List.set_cons_succ]
        refine takeD (i := 12) (v := ?v11) (some 125) rfl (by kernel_rfl) (by kernel_rfl) (by kernel_rfl) (fun _ _ _ h => h) (Or.inl ⟨by rfl, ?hy11⟩) (by assumption) (by rfl) ?rest11
        case hy11 => first | (intro w hSw; (try dsimp only at hSw); obtain ⟨q0, q1, q2⟩ := hSw; go_simp; done) | (intro w hSw; (try dsimp only at hSw); obtain ⟨q0, q1, q2⟩ := hSw; go_simp; with_reducible rfl)
        try simp only [Act.put, List.setIfInBounds_toArray, List.set_cons_zero, List.set_cons_succ]
        refine takeD (i := 13) (v := ?v12) (some 126) rfl (by kernel_rfl) (by kernel_rfl) (by kernel_rfl) (fun _ _ _ h => h) (Or.inl ⟨by rfl, ?hy12⟩) (by assumption) (by rfl) ?rest12
        case hy12 => first | (intro w hSw; (try dsimp only at hSw); obtain ⟨q0, q1, q2⟩ := hSw; go_simp; done) | (intro w hSw; (try dsimp only at hSw); obtain ⟨q0, q1, q2⟩ := hSw; go_simp; with_reducible rfl)
        try simp only [Act.put, List.setIfInBounds_toArray, List.set_cons_zero, List.set_cons_succ]
        refine takeD (i := 14) (v := ?v13) (some 14) rfl (by kernel_rfl) (by kernel_rfl) (by kernel_rfl) (fun _ _ _ h => h) (Or.inl ⟨by rfl, ?hy13⟩) (by assumption) (by rfl) ?rest13
        case hy13 => first | (intro w hSw; (try dsimp only at hSw); obtain ⟨q0, q1, q2⟩ := hSw; go_simp; done) | (intro w hSw; (try dsimp only at hSw); obtain ⟨q0, q1, q2⟩ := hSw; go_simp; with_reducible rfl)
        try simp only [Act.put, List.setIfInBounds_toArray, List.set_cons_zero, List.set_cons_succ]
        refine takeD (i := 15) (v := ?v14) (some 15) rfl (by kernel_rfl) (by kernel_rfl) (by kernel_rfl) (fun _ _ _ h => h) (Or.inl ⟨by rfl, ?hy14⟩) (by assumption) (by rfl) ?rest14
        case hy14 => first | (intro w hSw; (try dsimp only at hSw); obtain ⟨q0, q1, q2⟩ := hSw; go_simp; done) | (intro w hSw; (try dsimp only at hSw); obtain ⟨q0, q1, q2⟩ := hSw; go_simp; with_reducible rfl)
        try simp only [Act.put, List.setIfInBounds_toArray, List.set_cons_zero, List.set_cons_succ]
        refine wpAnyH_done (by kernel_rfl) ?_ _
        go_wp2_with fail
        go_meet
        exact ⟨rfl, rfl, rfl⟩
      case rest =>
       obtain ⟨rfl, rfl, hwc⟩ := hcut
       have KB := hide (show Below wB.heap.size wB wc by rw [hwc]; exact KBa.out.drew)
       have KD := hide (show wc.heap[D9]? = some (.deferred (some [])) by rw [hwc]; exact KDa.out)
       generalize wc = Wb at *
       clear KBa KDa r1 r2 cb HP1 HP2 hwc k0 k0' k1 k2
       by_cases hlt : F2 < F1
       · have d1 : (F2 : Int) < (F1 : Int) := by omega
         have hAB : F2 ≤ F1 := by omega
         go_wp2_with fail
         have HAB := hide hAB
         clear hAB
         have hl1 := T1.out
         have hl2 := X1.out
         refine (dplace_calls Wb D 1 T [] (F2 : Int) (HDOCB.out.below KB.out) (HKB.out.below KB.out) (by omega)).mono ?_
         rintro e wp ⟨pa, ua, rfl, hpa, hb1⟩
         have K1 := hide (bafter KB.out hb1 (Nat.le_refl _))
         have E1 := hide ((hb1.block D9 (Array.getElem?_eq_some_iff.1 KD.out).1).trans KD.out)
         have HPA := hide hpa
         clear hpa hb1 KD KB
         go_wp2_with fail
         refine (dplace_calls wp D 1 T [] (F1 : Int) (HDOCB.out.below K1.out) (HKB.out.below K1.out) (by omega)).mono ?_
         rintro e wq ⟨pb, ub, rfl, hpb, hb1⟩
         have K2 := hide (bafter K1.out hb1 (Nat.le_refl _))
         have E2 := hide ((hb1.block D9 (Array.getElem?_eq_some_iff.1 E1.out).1).trans E1.out)
         have HPB := hide hpb
         clear hpb hb1 E1 K1
         have bx := BoxC.new wq 71 #[.bool true, .int .i64 pa, .int .i64 ua, .int .i64 pb, .int .i64 ub, .string sX]
         have kb := bel wq (.cells #[.bool true, .int .i64 pa, .int .i64 ua, .int .i64 pb, .int .i64 ub, .string sX] 71)
         have HBX := hide (And.intro bx kb)
         clear bx kb
         go_upto_region 24 with fail
         generalize wq.alloc (.cells #[.bool true, .int .i64 pa, .int .i64 ua, .int .i64 pb, .int .i64 ub, .string sX] 71) = wr at *
         obtain ⟨bx, kb⟩ := HBX.out
         have K3 := hide (bafter K2.out kb (Nat.le_refl _))
         have E3 := hide ((kb.block D9 (Array.getElem?_eq_some_iff.1 E2.out).1).trans E2.out)
         have x1 : wr.cell? ⟨wq.heap.size, 1, none⟩ = some (.int .i64 pa) := bx.cell 1
         have x2 : wr.cell? ⟨wq.heap.size, 2, none⟩ = some (.int .i64 ua) := bx.cell 2
         clear HBX kb E2 K2
         go_wp2_with fail
         refine (doffset_calls wr D 1 T [] pa ua (HDOCB.out.below K3.out) (HKB.out.below K3.out) (by omega)).mono ?_
         rintro e ws ⟨ra, rfl, hoa, hb1⟩
         obtain rfl : ra = (F2 : Int) := may_back HT.out HN1.out HN2.out HN3.out HM2.out HPA.out hoa
         have K4 := hide (bafter K3.out hb1 (Nat.le_refl _))
         have E4 := hide ((hb1.block D9 (Array.getElem?_eq_some_iff.1 E3.out).1).trans E3.out)
         have bx4 := bx.below hb1
         have y3 : ws.cell? ⟨wq.heap.size, 3, none⟩ = some (.int .i64 pb) := bx4.cell 3
         have y4 : ws.cell? ⟨wq.heap.size, 4, none⟩ = some (.int .i64 ub) := bx4.cell 4
         clear hoa hb1 bx x1 x2 E3 K3
         go_wp2_with fail
         refine (doffset_calls ws D 1 T [] pb ub (HDOCB.out.below K4.out) (HKB.out.below K4.out) (by omega)).mono ?_
         rintro e wt ⟨rb, rfl, hob, hb1⟩
         obtain rfl : rb = (F1 : Int) := may_back HT.out HN1.out HN2.out HN3.out HM1.out HPB.out hob
         have K5 := hide (bafter K4.out hb1 (Nat.le_refl _))
         have E5 := hide ((hb1.block D9 (Array.getElem?_eq_some_iff.1 E4.out).1).trans E4.out)
         have bx5 := bx4.below hb1
         have y0 : wt.cell? ⟨wq.heap.size, 0, none⟩ = some (.bool true) := bx5.cell 0
         have y1 : wt.cell? ⟨wq.heap.size, 1, none⟩ = some (.int .i64 pa) := bx5.cell 1
         have y2 : wt.cell? ⟨wq.heap.size, 2, none⟩ = some (.int .i64 ua) := bx5.cell 2
         have y3 : wt.cell? ⟨wq.heap.size, 3, none⟩ = some (.int .i64 pb) := bx5.cell 3
         have y4 : wt.cell? ⟨wq.heap.size, 4, none⟩ = some (.int .i64 ub) := bx5.cell 4
         have y5 : wt.cell? ⟨wq.heap.size, 5, none⟩ = some (.string sX) := bx5.cell 5
         have kt := bel wt (.cells #[.bool true, .int .i64 pa, .int .i64 ua, .int .i64 pb, .int .i64 ub, .string (strOf X)] 71)
         have hap := apply_doc2 _ D 1 2 T [] (some ⟨wt.heap.size, 0, none⟩) 1 [(true, pa, ua, pb, ub, X)] (HDOCB.out.below (bafter K5.out kt (Nat.le_refl _))) (HKB.out.below (bafter K5.out kt (Nat.le_refl _))) (by omega) (chs_lit2 wt (true, pa, ua, pb, ub, X) ⟨place_unit HT.out T1.out HPA.out, place_unit HT.out T1.out HPB.out, HX.out⟩) (fun j x hj => by
           have hk := (List.getElem?_eq_some_iff.1 hj).1
           obtain rfl : j = 0 := by simp at hk; omega
           cases hj
           show X.length ≤ 1000000
           omega) (by simp)
         rw [HSX.out] at hap kt
         have HAP := hide hap
         have K6 := hide (bafter K5.out kt (Nat.le_refl _))
         have E6 := hide ((kt.block D9 (Array.getElem?_eq_some_iff.1 E5.out).1).trans E5.out)
         clear hap kt hob hb1 bx4 bx5 E4 K4 E5 K5
         go_wp2_with fail
         refine HAP.out.mono ?_
         clear HAP
         rintro e wu ⟨r, NT, Dl, rfl, hA, hcase⟩
         obtain ⟨rfl, rfl, rfl⟩ := top_step HT.out HN1.out HN2.out HN3.out HM2.out HM1.out HAB.out T1.out X1.out HVX.out HPA.out HPB.out hA
         rcases hcase with ⟨hr, _⟩ | ⟨_, hdoc, hbut⟩
         · exact absurd rfl hr
         have HSU := hide ((HSB.out.below K6.out).but hbut HDL.out)
         have HDU := hide hdoc
         have EU := hide ((hbut.2.2.2.2 D9 (Array.getElem?_eq_some_iff.1 E6.out).1 HD9.out).trans E6.out)
         clear hA hdoc hbut y0 y1 y2 y3 y4 y5 E6 K6 HPA HPB
         have cs := HSU.out.cell
         have hBT : F1 ≤ T.length := HF1.out
         have hAT : F2 ≤ F1 := HAB.out
         have HTX := hide (show strOf (T.take F2 ++ X ++ T.drop F1) = strOf (T.take F2) ++ strOf X ++ strOf (T.drop F1) by rw [strOf_app, strOf_app])
         have q1 : ∀ W : World, (Instr.slice 9 (.string sT) none (some (.int .i64 (F2 : Int))) none).run Tryd.prog W = .ok (.string (strOf (T.take F2))) W := fun W => by
           have := run_slice_string_h (P := Tryd.prog) (w := W) 9 (strOf T) Tryd.underlying9 .i64 (F2 : Int) (by omega) (by rw [strOf_size]; omega)
           rw [HST.out] at this
           rw [this, ← HST.out, strOf_cut]
           try simp
         have q2 : ∀ W : World, (Instr.slice 9 (.string sT) (some (.int .i64 (F1 : Int))) none none).run Tryd.prog W = .ok (.string (strOf (T.drop F1))) W := fun W => by
           have := run_slice_string_l (P := Tryd.prog) (w := W) 9 (strOf T) Tryd.underlying9 .i64 (F1 : Int) (by omega) (by rw [strOf_size]; omega)
           rw [HST.out] at this
           rw [this, ← HST.out, strOf_size, strOf_cut]
           try simp
         have hcutw : strOf (((T.take F2 ++ X ++ T.drop F1).take (F2 + X.length + (T.length - F1))).drop (F2 + X.length)) = strOf (T.drop F1) := by
           congr 1
           rw [List.take_of_length_le (by simp; omega), List.drop_append, List.drop_of_length_le (by simp; omega), List.nil_append]
           have : F2 + X.length - (T.take F2 ++ X).length = 0 := by simp; omega
           rw [this, List.drop_zero]
         have q5 : ∀ W : World, (Instr.slice 9 (.string (strOf (T.take F2 ++ X ++ T.drop F1))) (some (.int .i64 ((F2 + X.length : Nat) : Int))) (some (.int .i64 ((F2 + X.length + (T.length - F1) : Nat) : Int))) none).run Tryd.prog W = .ok (.string (strOf (T.drop F1))) W := fun W => by
           have h1 := run_slice_string (P := Tryd.prog) W 9 (strOf (T.take F2 ++ X ++ T.drop F1)) .i64 .i64 ((F2 + X.length : Nat) : Int) ((F2 + X.length + (T.length - F1) : Nat) : Int) Tryd.underlying9 (by omega) (by omega) (by rw [strOf_size]; simp; omega)
           rw [h1, strOf_cut]
           simp only [Int.toNat_natCast]
           rw [hcutw]
         obtain ⟨P1, hP1⟩ : ∃ P1, F2 + X.length = P1 := ⟨_, rfl⟩
         obtain ⟨P2, hP2⟩ : ∃ P2, P1 + (T.length - F1) = P2 := ⟨_, rfl⟩
         simp only [hP1, hP2] at q5
         have HP1 := hide hP1
         have HP2 := hide hP2
         clear hP1 hP2
         have HQ5 := hide q5
         have HLN := hide (show (T.take F2 ++ X ++ T.drop F1).length ≤ 600 by simp; omega)
         have HBY := hide (fun n => bytes_any2 (wu.drewN n) D 2 _ _ (HDU.out.below (bdrewN2 (Below.refl _ _) n)) (by have := HLN.out; omega))
         have sz1 : (strOf (T.take F2)).size ≤ 1048576 := by rw [strOf_size]; simp; omega
         have sz2 : sX.size ≤ 1048576 := by rw [hszX]; omega
         have sz3 : (strOf (T.drop F1)).size ≤ 1048576 := by rw [strOf_size]; simp; omega
         rw [HSX.out] at HTX
         generalize strOf (T.take F2) = sA at *
         generalize strOf (T.drop F1) = sC at *
         have q3 : ∀ W : World, (Op.stringOp .add sA sX).run Tryd.prog W = .ok (.string (sA ++ sX)) W := fun W => run_string_add_sum W sA sX (by omega)
         have q4 : ∀ W : World, (Op.stringOp .add (sA ++ sX) sC).run Tryd.prog W = .ok (.string (sA ++ sX ++ sC)) W := fun W => run_string_add_sum W (sA ++ sX) sC (by rw [ByteArray.size_append]; omega)
         have HQ2 := hide q2
         clear sz1 sz2 sz3 hcutw q5
         go_upto_region 26 with fail
         generalize hNT : T.take F2 ++ X ++ T.drop F1 = NT at *
         clear hNT
         go_quiet (fail)
         generalize hsW : sA ++ sX ++ sC = sW at *
         clear hsW q1 q2 q3 q4 cs
         go_wp2_with fail
         refine (HBY.out nq).mono ?_
         clear HBY
         rintro e wv ⟨ao, kc, rfl, hy, hb1⟩
         have hcv := conv_byts hy.1
         rw [HTX.out] at hcv HQ5
         have hKV : Below wu.heap.size wu wv := bafter (bdrewN2 (Below.refl _ wu) nq) hb1 (Nat.le_refl _)
         have HSV := hide (HSU.out.below hKV)
         have HDV := hide (HDU.out.below hKV)
         have EV := hide ((hKV.block D9 (Array.getElem?_eq_some_iff.1 EU.out).1).trans EU.out)
         clear hy hb1 hKV HSU HDU EU HTX
         obtain ⟨mx, my, ok, hmv⟩ := mvV_form3 (mvL [((F2 : Int), (F1 : Int), (X.length : Int))] ((F1 : Int), (T.length : Int)))
         have HMV : Hid (F1 < T.length → ok = true ∧ mx = (P1 : Int) ∧ my = (P2 : Int)) := fun h => by
           rw [top_moved HAB.out h T1.out X1.out] at hmv
           rw [HP1.out, HP2.out] at hmv
           unfold mvV at hmv
           simp at hmv
           exact ⟨hmv.2, by omega, by omega⟩
         have HMV2 := hide hmv
         clear hmv
         go_upto_region 29 with fail
         clear hcv
         have cs := HSV.out.cell
         refine wp_region_held_drew (S := fun Y : World => Y.cell? ⟨w.heap.size + 1, 0, none⟩ = some (.string sT)) (by kernel_rfl) cs (fun hHeld => ?_)
         refine takeD (i := 0) (v := ?v15) (some 176) rfl (by kernel_rfl) (by kernel_rfl) (by kernel_rfl) (fun _ _ _ h => h) (Or.inl ⟨by rfl, ?hy15⟩) (by assumption) (by rfl) ?rest15
         case hy15 => first | (intro w hSw; (try dsimp only at hSw); go_simp; done) | (intro w hSw; (try dsimp only at hSw); go_simp; with_reducible rfl)
         try simp only [Act.put, List.setIfInBounds_toArray, List.set_cons_zero, List.set_cons_succ]
         refine takeD (i := 1) (v := ?v16) (some 177) rfl (by kernel_rfl) (by kernel_rfl) (by kernel_rfl) (fun _ _ _ h => h) (Or.inl ⟨by rfl, ?hy16⟩) (by assumption) (by rfl) ?rest16
         case hy16 => first | (intro w hSw; (try dsimp only at hSw); go_simp; done) | (intro w hSw; (try dsimp only at hSw); go_simp; with_reducible rfl)
         try simp only [Act.put, List.setIfInBounds_toArray, List.set_cons_zero, List.set_cons_succ]
         refine takeD (i := 2) (v := ?v17) (some 178) rfl (by kernel_rfl) (by kernel_rfl) (by kernel_rfl) (fun _ _ _ h => h) (Or.inl ⟨by rfl, ?hy17⟩) (by assumption) (by rfl) ?rest17
         case hy17 => first | (intro w hSw; (try dsimp only at hSw); go_simp; done) | (intro w hSw; (try dsimp only at hSw); go_simp; with_reducible rfl)
         try simp only [Act.put, List.setIfInBounds_toArray, List.set_cons_zero, List.set_cons_succ]
         refine takeD (i := 3) (v := ?v18) (some 179) rfl (by kernel_rfl) (by kernel_rfl) (by kernel_rfl) (fun _ _ _ h => h) (Or.inl ⟨by rfl, ?hy18⟩) (by assumption) (by rfl) ?rest18
         case hy18 => first | (intro w hSw; (try dsimp only at hSw); go_simp; done) | (intro w hSw; (try dsimp only at hSw); go_simp; with_reducible rfl)
         try simp only [Act.put, List.setIfInBounds_toArray, List.set_cons_zero, List.set_cons_succ]
         refine takeD (i := 4) (v := ?v19) (some 180) rfl (by kernel_rfl) (by kernel_rfl) (by kernel_rfl) (fun _ _ _ h => h) (Or.inl ⟨by rfl, ?hy19⟩) (by assumption) (by rfl) ?rest19
         case hy19 => first | (intro w hSw; (try dsimp only at hSw); go_simp; done) | (intro w hSw; (try dsimp only at hSw); go_simp; with_reducible rfl)
         try simp only [Act.put, List.setIfInBounds_toArray, List.set_cons_zero, List.set_cons_succ]
         have Bd : Below wv.heap.size wv wv.drew := (Below.refl _ _).drew
         refine wpAnyH_ready (rs := [5, 10]) (by kernel_rfl) (by simp) ?_
         refine AllReadyH.cons rfl (fun K hK => ?_) (AllReadyH.cons rfl (fun K hK => ?_) AllReadyH.nil)
         · go_simp
           refine (edits_one2 wv.drew D 2 NT _ (HDV.out.below Bd)).mono ?_
           rintro e xa ⟨ev, rfl, heds, hbe⟩
           have HEDS := hide heds
           obtain ⟨eo, ec, rfl, _⟩ := id heds
           have Bxa : Below wv.heap.size wv xa := bafter Bd hbe (Nat.le_refl _)
           have qxa := (HSV.out.below Bxa).cell
           clear heds hbe
           go_wp2_with fail
           refine hK.out _ _ qxa (fun _ => ?_)
           clear hK K
           try simp only [Act.put, List.setIfInBounds_toArray, List.set_cons_zero, List.set_cons_succ]
           refine wpAnyH_ready (rs := [6, 10]) (by kernel_rfl) (by simp) ?_
           refine AllReadyH.cons rfl (fun K hK => ?_) (AllReadyH.cons rfl (fun K hK => ?_) AllReadyH.nil)
           · go_simp
             have hmc := moved_calls xa (F1 : Int) (T.length : Int) _ [((F2 : Int), (F1 : Int), (X.length : Int))] HEDS.out (by simp)
             rw [HMV2.out] at hmc
             refine hmc.mono ?_
             rintro e xb ⟨rfl, hbm⟩
             have Bxb : Below wv.heap.size wv xb := bafter Bxa hbm (Nat.le_refl _)
             have qxb := (HSV.out.below Bxb).cell
             clear hmc hbm
             go_wp2_with fail
             refine hK.out _ _ qxb (fun _ => ?_)
             clear hK K
             try simp only [Act.put, List.setIfInBounds_toArray, List.set_cons_zero, List.set_cons_succ]
             refine takeD (i := 7) (v := ?v20) (some 175) rfl (by kernel_rfl) (by kernel_rfl) (by kernel_rfl) (fun _ _ _ h => h) (Or.inl ⟨by rfl, ?hy20⟩) (by assumption) (by rfl) ?rest20
             case hy20 => first | (intro w hSw; (try dsimp only at hSw); go_simp; done) | (intro w hSw; (try dsimp only at hSw); go_simp; with_reducible rfl)
             try simp only [Act.put, List.setIfInBounds_toArray, List.set_cons_zero, List.set_cons_succ]
             refine takeD (i := 8) (v := ?v21) (some 183) rfl (by kernel_rfl) (by kernel_rfl) (by kernel_rfl) (fun _ _ _ h => h) (Or.inl ⟨by rfl, ?hy21⟩) (by assumption) (by rfl) ?rest21
             case hy21 => first | (intro w hSw; (try dsimp only at hSw); go_simp; done) | (intro w hSw; (try dsimp only at hSw); go_simp; with_reducible rfl)
             try simp only [Act.put, List.setIfInBounds_toArray, List.set_cons_zero, List.set_cons_succ]
             refine takeD (i := 9) (v := ?v22) (some 184) rfl (by kernel_rfl) (by kernel_rfl) (by kernel_rfl) (fun _ _ _ h => h) (Or.inl ⟨by rfl, ?hy22⟩) (by assumption) (by rfl) ?rest22
             case hy22 => first | (intro w hSw; (try dsimp only at hSw); go_simp; done) | (intro w hSw; (try dsimp only at hSw); go_simp; with_reducible rfl)
             try simp only [Act.put, List.setIfInBounds_toArray, List.set_cons_zero, List.set_cons_succ]
             refine wpAnyH_ready (rs := [10]) (by kernel_rfl) (by simp) ?_
             refine AllReadyH.cons rfl (fun K hK => ?_) AllReadyH.nil
             go_simp
             have bxc := BoxC.new xb 56 #[.int .i64 0, .int .i64 0]
             have kxc := bel xb (.cells #[.int .i64 0, .int .i64 0] 56)
             have Bxc : Below wv.heap.size wv (xb.alloc (.cells #[.int .i64 0, .int .i64 0] 56)) := bafter Bxb kxc (Nat.le_refl _)
             have lxc : wv.heap.size ≤ xb.heap.size := Below.size Bxb
             have qxc := (HSV.out.below Bxc).cell
             generalize hBxc : xb.heap.size = B18 at *
             generalize xb.alloc (.cells #[.int .i64 0, .int .i64 0] 56) = xc at *
             refine hK.out _ _ qxc (fun _ => ?_)
             clear hK K
             try simp only [Act.put, List.setIfInBounds_toArray, List.set_cons_zero, List.set_cons_succ]
             refine wpAnyH_ready (rs := [11]) (by kernel_rfl) (by simp) ?_
             refine AllReadyH.cons rfl (fun K hK => ?_) AllReadyH.nil
             have z0 : xc.cell? ⟨B18, 0, none⟩ = some (.int .i64 0) := BoxC.cell bxc 0
             have z1 : xc.cell? ⟨B18, 1, none⟩ = some (.int .i64 0) := BoxC.cell bxc 1
             have z2 := BoxC.frozen bxc 0
             have z3 := BoxC.frozen bxc 1
             have z4 := BoxC.lt bxc
             go_simp
             have bz := BoxC.set (BoxC.set bxc 0 (.int .i64 mx)) 1 (.int .i64 my)
             have KZ : Below wv.heap.size wv ((xc.setCell ⟨B18, 0, none⟩ (.int .i64 mx)).setCell ⟨B18, 1, none⟩ (.int .i64 my)) := (Bxc.setCell (p := ⟨B18, 0, none⟩) lxc _).setCell (p := ⟨B18, 1, none⟩) lxc _
             have qz := (HSV.out.below KZ).cell
             refine hK.out _ _ qz (fun _ => ?_)
             clear hK K
             try simp only [Act.put, List.setIfInBounds_toArray, List.set_cons_zero, List.set_cons_succ]
             refine takeD (i := 12) (v := ?v23) (some 19) rfl (by kernel_rfl) (by kernel_rfl) (by kernel_rfl) (fun _ _ _ h => h) (Or.inl ⟨by rfl, ?hy23⟩) (by assumption) (by rfl) ?rest23
             case hy23 => first | (intro w hSw; (try dsimp only at hSw); go_simp; done) | (intro w hSw; (try dsimp only at hSw); go_simp; with_reducible rfl)
             try simp only [Act.put, List.setIfInBounds_toArray, List.set_cons_zero, List.set_cons_succ]
             refine wpAnyH_done (by kernel_rfl) ?_ _
             generalize (xc.setCell ⟨B18, 0, none⟩ (.int .i64 mx)).setCell ⟨B18, 1, none⟩ (.int .i64 my) = wz at *
             have HBZ := hide bz
             have HKZ := hide KZ
             clear z0 z1 z2 z3 z4 bz KZ qz hHeld cs
             have c0 : wz.cell? ⟨B18, 0, none⟩ = some (.int .i64 mx) := by simpa using HBZ.out.cell 0
             have c1 : wz.cell? ⟨B18, 1, none⟩ = some (.int .i64 my) := by simpa using HBZ.out.cell 1
             have cz := (HSV.out.below HKZ.out).cell
             have EZ := hide ((HKZ.out.block D9 (Array.getElem?_eq_some_iff.1 EV.out).1).trans EV.out)
             have q2 : ∀ W : World, (Instr.slice 9 (.string sT) (some (.int .i64 (F1 : Int))) none none).run Tryd.prog W = .ok (.string sC) W := HQ2.out
             have q5 := HQ5.out
             by_cases hBn : F1 = T.length
             · have e1 : ((F1 : Int) == (T.length : Int)) = true := by simp [hBn]
               clear hBn q2 q5 HQ5 HMV HMV2
               go_upto_region 30 with fail
               go_quiet (fail)
               go_wp2
               have hK' := ((bdrewN2 (Below.refl _ wz) nq).block D9 (Array.getElem?_eq_some_iff.1 EZ.out).1).trans EZ.out
               refine ⟨by simp, .inl ⟨_, _, rfl, run_takeDeferred hK', ?_⟩⟩
               have hlast := belowK_b (w := w) (Nat.le_refl _) _ D9 _ (.deferred none) HD9w.out hK' rfl rfl
               refine ⟨.bool true, by simp [results, Tryd.f7, go_sem], ⟨rfl, (bdrewN2 (HSV.out.below HKZ.out).2 nq).trans hlast⟩⟩
             · have e1 : ((F1 : Int) == (T.length : Int)) = false := by simp; omega
               obtain ⟨rfl, rfl, rfl⟩ := HMV.out (by omega)
               clear hBn HMV HMV2
               go_upto_region 30 with fail
               go_quiet (fail)
               go_wp2
               have hK' := ((bdrewN2 (Below.refl _ wz) nq).block D9 (Array.getElem?_eq_some_iff.1 EZ.out).1).trans EZ.out
               refine ⟨by simp, .inl ⟨_, _, rfl, run_takeDeferred hK', ?_⟩⟩
               have hlast := belowK_b (w := w) (Nat.le_refl _) _ D9 _ (.deferred none) HD9w.out hK' rfl rfl
               refine ⟨.bool true, by simp [results, Tryd.f7, go_sem], ⟨rfl, (bdrewN2 (HSV.out.below HKZ.out).2 nq).trans hlast⟩⟩
           · have HEDS2 := hide (HEDS.out.below (bel xa (.cells #[.int .i64 0, .int .i64 0] 56)))
             go_simp
             have bxb := BoxC.new xa 56 #[.int .i64 0, .int .i64 0]
             have kxb := bel xa (.cells #[.int .i64 0, .int .i64 0] 56)
             have Bxb : Below wv.heap.size wv (xa.alloc (.cells #[.int .i64 0, .int .i64 0] 56)) := bafter Bxa kxb (Nat.le_refl _)
             have lxb : wv.heap.size ≤ xa.heap.size := Below.size Bxa
             have qxb := (HSV.out.below Bxb).cell
             generalize hBxb : xa.heap.size = B18 at *
             generalize xa.alloc (.cells #[.int .i64 0, .int .i64 0] 56) = xb at *
             refine hK.out _ _ qxb (fun _ => ?_)
             clear hK K
             try simp only [Act.put, List.setIfInBounds_toArray, List.set_cons_zero, List.set_cons_succ]
             refine wpAnyH_ready (rs := [6]) (by kernel_rfl) (by simp) ?_
             refine AllReadyH.cons rfl (fun K hK => ?_) AllReadyH.nil
             go_simp
             have hmc := moved_calls xb (F1 : Int) (T.length : Int) _ [((F2 : Int), (F1 : Int), (X.length : Int))] HEDS2.out (by simp)
             rw [HMV2.out] at hmc
             refine hmc.mono ?_
             rintro e xc ⟨rfl, hbm⟩
             have Bxc : Below wv.heap.size wv xc := bafter Bxb hbm (Nat.le_refl _)
             have qxc := (HSV.out.below Bxc).cell
             have bxc := BoxC.below bxb hbm
             clear hmc hbm
             go_wp2_with fail
             refine hK.out _ _ qxc (fun _ => ?_)
             clear hK K
             try simp only [Act.put, List.setIfInBounds_toArray, List.set_cons_zero, List.set_cons_succ]
             refine takeD (i := 7) (v := ?v24) (some 175) rfl (by kernel_rfl) (by kernel_rfl) (by kernel_rfl) (fun _ _ _ h => h) (Or.inl ⟨by rfl, ?hy24⟩) (by assumption) (by rfl) ?rest24
             case hy24 => first | (intro w hSw; (try dsimp only at hSw); go_simp; done) | (intro w hSw; (try dsimp only at hSw); go_simp; with_reducible rfl)
             try simp only [Act.put, List.setIfInBounds_toArray, List.set_cons_zero, List.set_cons_succ]
             refine takeD (i := 8) (v := ?v25) (some 183) rfl (by kernel_rfl) (by kernel_rfl) (by kernel_rfl) (fun _ _ _ h => h) (Or.inl ⟨by rfl, ?hy25⟩) (by assumption) (by rfl) ?rest25
             case hy25 => first | (intro w hSw; (try dsimp only at hSw); go_simp; done) | (intro w hSw; (try dsimp only at hSw); go_simp; with_reducible rfl)
             try simp only [Act.put, List.setIfInBounds_toArray, List.set_cons_zero, List.set_cons_succ]
             refine takeD (i := 9) (v := ?v26) (some 184) rfl (by kernel_rfl) (by kernel_rfl) (by kernel_rfl) (fun _ _ _ h => h) (Or.inl ⟨by rfl, ?hy26⟩) (by assumption) (by rfl) ?rest26
             case hy26 => first | (intro w hSw; (try dsimp only at hSw); go_simp; done) | (intro w hSw; (try dsimp only at hSw); go_simp; with_reducible rfl)
             try simp only [Act.put, List.setIfInBounds_toArray, List.set_cons_zero, List.set_cons_succ]
             refine wpAnyH_ready (rs := [11]) (by kernel_rfl) (by simp) ?_
             refine AllReadyH.cons rfl (fun K hK => ?_) AllReadyH.nil
             have z0 : xc.cell? ⟨B18, 0, none⟩ = some (.int .i64 0) := BoxC.cell bxc 0
             have z1 : xc.cell? ⟨B18, 1, none⟩ = some (.int .i64 0) := BoxC.cell bxc 1
             have z2 := BoxC.frozen bxc 0
             have z3 := BoxC.frozen bxc 1
             have z4 := BoxC.lt bxc
             go_simp
             have bz := BoxC.set (BoxC.set bxc 0 (.int .i64 mx)) 1 (.int .i64 my)
             have KZ : Below wv.heap.size wv ((xc.setCell ⟨B18, 0, none⟩ (.int .i64 mx)).setCell ⟨B18, 1, none⟩ (.int .i64 my)) := (Bxc.setCell (p := ⟨B18, 0, none⟩) lxb _).setCell (p := ⟨B18, 1, none⟩) lxb _
             have qz := (HSV.out.below KZ).cell
             refine hK.out _ _ qz (fun _ => ?_)
             clear hK K
             try simp only [Act.put, List.setIfInBounds_toArray, List.set_cons_zero, List.set_cons_succ]
             refine takeD (i := 12) (v := ?v27) (some 19) rfl (by kernel_rfl) (by kernel_rfl) (by kernel_rfl) (fun _ _ _ h => h) (Or.inl ⟨by rfl, ?hy27⟩) (by assumption) (by rfl) ?rest27
             case hy27 => first | (intro w hSw; (try dsimp only at hSw); go_simp; done) | (intro w hSw; (try dsimp only at hSw); go_simp; with_reducible rfl)
             try simp only [Act.put, List.setIfInBounds_toArray, List.set_cons_zero, List.set_cons_succ]
             refine wpAnyH_done (by kernel_rfl) ?_ _
             generalize (xc.setCell ⟨B18, 0, none⟩ (.int .i64 mx)).setCell ⟨B18, 1, none⟩ (.int .i64 my) = wz at *
             have HBZ := hide bz
             have HKZ := hide KZ
             clear z0 z1 z2 z3 z4 bz KZ qz hHeld cs
             have c0 : wz.cell? ⟨B18, 0, none⟩ = some (.int .i64 mx) := by simpa using HBZ.out.cell 0
             have c1 : wz.cell? ⟨B18, 1, none⟩ = some (.int .i64 my) := by simpa using HBZ.out.cell 1
             have cz := (HSV.out.below HKZ.out).cell
             have EZ := hide ((HKZ.out.block D9 (Array.getElem?_eq_some_iff.1 EV.out).1).trans EV.out)
             have q2 : ∀ W : World, (Instr.slice 9 (.string sT) (some (.int .i64 (F1 : Int))) none none).run Tryd.prog W = .ok (.string sC) W := HQ2.out
             have q5 := HQ5.out
             by_cases hBn : F1 = T.length
             · have e1 : ((F1 : Int) == (T.length : Int)) = true := by simp [hBn]
               clear hBn q2 q5 HQ5 HMV HMV2
               go_upto_region 30 with fail
               go_quiet (fail)
               go_wp2
               have hK' := ((bdrewN2 (Below.refl _ wz) nq).block D9 (Array.getElem?_eq_some_iff.1 EZ.out).1).trans EZ.out
               refine ⟨by simp, .inl ⟨_, _, rfl, run_takeDeferred hK', ?_⟩⟩
               have hlast := belowK_b (w := w) (Nat.le_refl _) _ D9 _ (.deferred none) HD9w.out hK' rfl rfl
               refine ⟨.bool true, by simp [results, Tryd.f7, go_sem], ⟨rfl, (bdrewN2 (HSV.out.below HKZ.out).2 nq).trans hlast⟩⟩
             · have e1 : ((F1 : Int) == (T.length : Int)) = false := by simp; omega
               obtain ⟨rfl, rfl, rfl⟩ := HMV.out (by omega)
               clear hBn HMV HMV2
               go_upto_region 30 with fail
               go_quiet (fail)
               go_wp2
               have hK' := ((bdrewN2 (Below.refl _ wz) nq).block D9 (Array.getElem?_eq_some_iff.1 EZ.out).1).trans EZ.out
               refine ⟨by simp, .inl ⟨_, _, rfl, run_takeDeferred hK', ?_⟩⟩
               have hlast := belowK_b (w := w) (Nat.le_refl _) _ D9 _ (.deferred none) HD9w.out hK' rfl rfl
               refine ⟨.bool true, by simp [results, Tryd.f7, go_sem], ⟨rfl, (bdrewN2 (HSV.out.below HKZ.out).2 nq).trans hlast⟩⟩
         · go_simp
           have bxa : BoxC (wv.alloc (.cells #[.int .i64 0, .int .i64 0] 56)).drew wv.heap.size 56 #[.int .i64 0, .int .i64 0] := BoxC.below (BoxC.new wv 56 #[.int .i64 0, .int .i64 0]) ((Below.refl _ _).drew)
           have Bxa : Below wv.heap.size wv (wv.alloc (.cells #[.int .i64 0, .int .i64 0] 56)).drew := (bel wv (.cells #[.int .i64 0, .int .i64 0] 56)).drew
           have lxa : wv.heap.size ≤ wv.heap.size := Nat.le_refl _
           have qxa := (HSV.out.below Bxa).cell
           generalize (wv.alloc (.cells #[.int .i64 0, .int .i64 0] 56)).drew = xa at *
           refine hK.out _ _ qxa (fun _ => ?_)
           clear hK K
           try simp only [Act.put, List.setIfInBounds_toArray, List.set_cons_zero, List.set_cons_succ]
           refine wpAnyH_ready (rs := [5]) (by kernel_rfl) (by simp) ?_
           refine AllReadyH.cons rfl (fun K hK => ?_) AllReadyH.nil
           go_simp
           refine (edits_one2 xa D 2 NT _ (HDV.out.below Bxa)).mono ?_
           rintro e xb ⟨ev, rfl, heds, hbe⟩
           have HEDS := hide heds
           obtain ⟨eo, ec, rfl, _⟩ := id heds
           have bxb := BoxC.below bxa hbe
           have Bxb : Below wv.heap.size wv xb := bafter Bxa hbe (Nat.le_refl _)
           have qxb := (HSV.out.below Bxb).cell
           clear heds hbe
           go_wp2_with fail
           refine hK.out _ _ qxb (fun _ => ?_)
           clear hK K
           try simp only [Act.put, List.setIfInBounds_toArray, List.set_cons_zero, List.set_cons_succ]
           refine wpAnyH_ready (rs := [6]) (by kernel_rfl) (by simp) ?_
           refine AllReadyH.cons rfl (fun K hK => ?_) AllReadyH.nil
           go_simp
           have hmc := moved_calls xb (F1 : Int) (T.length : Int) _ [((F2 : Int), (F1 : Int), (X.length : Int))] HEDS.out (by simp)
           rw [HMV2.out] at hmc
           refine hmc.mono ?_
           rintro e xc ⟨rfl, hbm⟩
           have Bxc : Below wv.heap.size wv xc := bafter Bxb hbm (Nat.le_refl _)
           have qxc := (HSV.out.below Bxc).cell
           have bxc := BoxC.below bxb hbm
           clear hmc hbm
           go_wp2_with fail
           refine hK.out _ _ qxc (fun _ => ?_)
           clear hK K
           try simp only [Act.put, List.setIfInBounds_toArray, List.set_cons_zero, List.set_cons_succ]
           refine takeD (i := 7) (v := ?v28) (some 175) rfl (by kernel_rfl) (by kernel_rfl) (by kernel_rfl) (fun _ _ _ h => h) (Or.inl ⟨by rfl, ?hy28⟩) (by assumption) (by rfl) ?rest28
           case hy28 => first | (intro w hSw; (try dsimp only at hSw); go_simp; done) | (intro w hSw; (try dsimp only at hSw); go_simp; with_reducible rfl)
           try simp only [Act.put, List.setIfInBounds_toArray, List.set_cons_zero, List.set_cons_succ]
           refine takeD (i := 8) (v := ?v29) (some 183) rfl (by kernel_rfl) (by kernel_rfl) (by kernel_rfl) (fun _ _ _ h => h) (Or.inl ⟨by rfl, ?hy29⟩) (by assumption) (by rfl) ?rest29
           case hy29 => first | (intro w hSw; (try dsimp only at hSw); go_simp; done) | (intro w hSw; (try dsimp only at hSw); go_simp; with_reducible rfl)
           try simp only [Act.put, List.setIfInBounds_toArray, List.set_cons_zero, List.set_cons_succ]
           refine takeD (i := 9) (v := ?v30) (some 184) rfl (by kernel_rfl) (by kernel_rfl) (by kernel_rfl) (fun _ _ _ h => h) (Or.inl ⟨by rfl, ?hy30⟩) (by assumption) (by rfl) ?rest30
           case hy30 => first | (intro w hSw; (try dsimp only at hSw); go_simp; done) | (intro w hSw; (try dsimp only at hSw); go_simp; with_reducible rfl)
           try simp only [Act.put, List.setIfInBounds_toArray, List.set_cons_zero, List.set_cons_succ]
           refine wpAnyH_ready (rs := [11]) (by kernel_rfl) (by simp) ?_
           refine AllReadyH.cons rfl (fun K hK => ?_) AllReadyH.nil
           have z0 : xc.cell? ⟨wv.heap.size, 0, none⟩ = some (.int .i64 0) := BoxC.cell bxc 0
           have z1 : xc.cell? ⟨wv.heap.size, 1, none⟩ = some (.int .i64 0) := BoxC.cell bxc 1
           have z2 := BoxC.frozen bxc 0
           have z3 := BoxC.frozen bxc 1
           have z4 := BoxC.lt bxc
           go_simp
           have bz := BoxC.set (BoxC.set bxc 0 (.int .i64 mx)) 1 (.int .i64 my)
           have KZ : Below wv.heap.size wv ((xc.setCell ⟨wv.heap.size, 0, none⟩ (.int .i64 mx)).setCell ⟨wv.heap.size, 1, none⟩ (.int .i64 my)) := (Bxc.setCell (p := ⟨wv.heap.size, 0, none⟩) lxa _).setCell (p := ⟨wv.heap.size, 1, none⟩) lxa _
           have qz := (HSV.out.below KZ).cell
           refine hK.out _ _ qz (fun _ => ?_)
           clear hK K
           try simp only [Act.put, List.setIfInBounds_toArray, List.set_cons_zero, List.set_cons_succ]
           refine takeD (i := 12) (v := ?v31) (some 19) rfl (by kernel_rfl) (by kernel_rfl) (by kernel_rfl) (fun _ _ _ h => h) (Or.inl ⟨by rfl, ?hy31⟩) (by assumption) (by rfl) ?rest31
           case hy31 => first | (intro w hSw; (try dsimp only at hSw); go_simp; done) | (intro w hSw; (try dsimp only at hSw); go_simp; with_reducible rfl)
           try simp only [Act.put, List.setIfInBounds_toArray, List.set_cons_zero, List.set_cons_succ]
           refine wpAnyH_done (by kernel_rfl) ?_ _
           generalize (xc.setCell ⟨wv.heap.size, 0, none⟩ (.int .i64 mx)).setCell ⟨wv.heap.size, 1, none⟩ (.int .i64 my) = wz at *
           have HBZ := hide bz
           have HKZ := hide KZ
           clear z0 z1 z2 z3 z4 bz KZ qz hHeld cs
           have c0 : wz.cell? ⟨wv.heap.size, 0, none⟩ = some (.int .i64 mx) := by simpa using HBZ.out.cell 0
           have c1 : wz.cell? ⟨wv.heap.size, 1, none⟩ = some (.int .i64 my) := by simpa using HBZ.out.cell 1
           have cz := (HSV.out.below HKZ.out).cell
           have EZ := hide ((HKZ.out.block D9 (Array.getElem?_eq_some_iff.1 EV.out).1).trans EV.out)
           have q2 : ∀ W : World, (Instr.slice 9 (.string sT) (some (.int .i64 (F1 : Int))) none none).run Tryd.prog W = .ok (.string sC) W := HQ2.out
           have q5 := HQ5.out
           by_cases hBn : F1 = T.length
           · have e1 : ((F1 : Int) == (T.length : Int)) = true := by simp [hBn]
             clear hBn q2 q5 HQ5 HMV HMV2
             go_upto_region 30 with fail
             go_quiet (fail)
             go_wp2
             have hK' := ((bdrewN2 (Below.refl _ wz) nq).block D9 (Array.getElem?_eq_some_iff.1 EZ.out).1).trans EZ.out
             refine ⟨by simp, .inl ⟨_, _, rfl, run_takeDeferred hK', ?_⟩⟩
             have hlast := belowK_b (w := w) (Nat.le_refl _) _ D9 _ (.deferred none) HD9w.out hK' rfl rfl
             refine ⟨.bool true, by simp [results, Tryd.f7, go_sem], ⟨rfl, (bdrewN2 (HSV.out.below HKZ.out).2 nq).trans hlast⟩⟩
           · have e1 : ((F1 : Int) == (T.length : Int)) = false := by simp; omega
             obtain ⟨rfl, rfl, rfl⟩ := HMV.out (by omega)
             clear hBn HMV HMV2
             go_upto_region 30 with fail
             go_quiet (fail)
             go_wp2
             have hK' := ((bdrewN2 (Below.refl _ wz) nq).block D9 (Array.getElem?_eq_some_iff.1 EZ.out).1).trans EZ.out
             refine ⟨by simp, .inl ⟨_, _, rfl, run_takeDeferred hK', ?_⟩⟩
             have hlast := belowK_b (w := w) (Nat.le_refl _) _ D9 _ (.deferred none) HD9w.out hK' rfl rfl
             refine ⟨.bool true, by simp [results, Tryd.f7, go_sem], ⟨rfl, (bdrewN2 (HSV.out.below HKZ.out).2 nq).trans hlast⟩⟩
       · have d1 : ¬ (F2 : Int) < (F1 : Int) := by omega
         have hAB : F1 ≤ F2 := by omega
         go_wp2_with fail
         have HAB := hide hAB
         clear hAB
         have hl1 := T1.out
         have hl2 := X1.out
         refine (dplace_calls Wb D 1 T [] (F1 : Int) (HDOCB.out.below KB.out) (HKB.out.below KB.out) (by omega)).mono ?_
         rintro e wp ⟨pa, ua, rfl, hpa, hb1⟩
         have K1 := hide (bafter KB.out hb1 (Nat.le_refl _))
         have E1 := hide ((hb1.block D9 (Array.getElem?_eq_some_iff.1 KD.out).1).trans KD.out)
         have HPA := hide hpa
         clear hpa hb1 KD KB
         go_wp2_with fail
         refine (dplace_calls wp D 1 T [] (F2 : Int) (HDOCB.out.below K1.out) (HKB.out.below K1.out) (by omega)).mono ?_
         rintro e wq ⟨pb, ub, rfl, hpb, hb1⟩
         have K2 := hide (bafter K1.out hb1 (Nat.le_refl _))
         have E2 := hide ((hb1.block D9 (Array.getElem?_eq_some_iff.1 E1.out).1).trans E1.out)
         have HPB := hide hpb
         clear hpb hb1 E1 K1
         have bx := BoxC.new wq 71 #[.bool true, .int .i64 pa, .int .i64 ua, .int .i64 pb, .int .i64 ub, .string sX]
         have kb := bel wq (.cells #[.bool true, .int .i64 pa, .int .i64 ua, .int .i64 pb, .int .i64 ub, .string sX] 71)
         have HBX := hide (And.intro bx kb)
         clear bx kb
         go_upto_region 24 with fail
         generalize wq.alloc (.cells #[.bool true, .int .i64 pa, .int .i64 ua, .int .i64 pb, .int .i64 ub, .string sX] 71) = wr at *
         obtain ⟨bx, kb⟩ := HBX.out
         have K3 := hide (bafter K2.out kb (Nat.le_refl _))
         have E3 := hide ((kb.block D9 (Array.getElem?_eq_some_iff.1 E2.out).1).trans E2.out)
         have x1 : wr.cell? ⟨wq.heap.size, 1, none⟩ = some (.int .i64 pa) := bx.cell 1
         have x2 : wr.cell? ⟨wq.heap.size, 2, none⟩ = some (.int .i64 ua) := bx.cell 2
         clear HBX kb E2 K2
         go_wp2_with fail
         refine (doffset_calls wr D 1 T [] pa ua (HDOCB.out.below K3.out) (HKB.out.below K3.out) (by omega)).mono ?_
         rintro e ws ⟨ra, rfl, hoa, hb1⟩
         obtain rfl : ra = (F1 : Int) := may_back HT.out HN1.out HN2.out HN3.out HM1.out HPA.out hoa
         have K4 := hide (bafter K3.out hb1 (Nat.le_refl _))
         have E4 := hide ((hb1.block D9 (Array.getElem?_eq_some_iff.1 E3.out).1).trans E3.out)
         have bx4 := bx.below hb1
         have y3 : ws.cell? ⟨wq.heap.size, 3, none⟩ = some (.int .i64 pb) := bx4.cell 3
         have y4 : ws.cell? ⟨wq.heap.size, 4, none⟩ = some (.int .i64 ub) := bx4.cell 4
         clear hoa hb1 bx x1 x2 E3 K3
         go_wp2_with fail
         refine (doffset_calls ws D 1 T [] pb ub (HDOCB.out.below K4.out) (HKB.out.below K4.out) (by omega)).mono ?_
         rintro e wt ⟨rb, rfl, hob, hb1⟩
         obtain rfl : rb = (F2 : Int) := may_back HT.out HN1.out HN2.out HN3.out HM2.out HPB.out hob
         have K5 := hide (bafter K4.out hb1 (Nat.le_refl _))
         have E5 := hide ((hb1.block D9 (Array.getElem?_eq_some_iff.1 E4.out).1).trans E4.out)
         have bx5 := bx4.below hb1
         have y0 : wt.cell? ⟨wq.heap.size, 0, none⟩ = some (.bool true) := bx5.cell 0
         have y1 : wt.cell? ⟨wq.heap.size, 1, none⟩ = some (.int .i64 pa) := bx5.cell 1
         have y2 : wt.cell? ⟨wq.heap.size, 2, none⟩ = some (.int .i64 ua) := bx5.cell 2
         have y3 : wt.cell? ⟨wq.heap.size, 3, none⟩ = some (.int .i64 pb) := bx5.cell 3
         have y4 : wt.cell? ⟨wq.heap.size, 4, none⟩ = some (.int .i64 ub) := bx5.cell 4
         have y5 : wt.cell? ⟨wq.heap.size, 5, none⟩ = some (.string sX) := bx5.cell 5
         have kt := bel wt (.cells #[.bool true, .int .i64 pa, .int .i64 ua, .int .i64 pb, .int .i64 ub, .string (strOf X)] 71)
         have hap := apply_doc2 _ D 1 2 T [] (some ⟨wt.heap.size, 0, none⟩) 1 [(true, pa, ua, pb, ub, X)] (HDOCB.out.below (bafter K5.out kt (Nat.le_refl _))) (HKB.out.below (bafter K5.out kt (Nat.le_refl _))) (by omega) (chs_lit2 wt (true, pa, ua, pb, ub, X) ⟨place_unit HT.out T1.out HPA.out, place_unit HT.out T1.out HPB.out, HX.out⟩) (fun j x hj => by
           have hk := (List.getElem?_eq_some_iff.1 hj).1
           obtain rfl : j = 0 := by simp at hk; omega
           cases hj
           show X.length ≤ 1000000
           omega) (by simp)
         rw [HSX.out] at hap kt
         have HAP := hide hap
         have K6 := hide (bafter K5.out kt (Nat.le_refl _))
         have E6 := hide ((kt.block D9 (Array.getElem?_eq_some_iff.1 E5.out).1).trans E5.out)
         clear hap kt hob hb1 bx4 bx5 E4 K4 E5 K5
         go_wp2_with fail
         refine HAP.out.mono ?_
         clear HAP
         rintro e wu ⟨r, NT, Dl, rfl, hA, hcase⟩
         obtain ⟨rfl, rfl, rfl⟩ := top_step HT.out HN1.out HN2.out HN3.out HM1.out HM2.out HAB.out T1.out X1.out HVX.out HPA.out HPB.out hA
         rcases hcase with ⟨hr, _⟩ | ⟨_, hdoc, hbut⟩
         · exact absurd rfl hr
         have HSU := hide ((HSB.out.below K6.out).but hbut HDL.out)
         have HDU := hide hdoc
         have EU := hide ((hbut.2.2.2.2 D9 (Array.getElem?_eq_some_iff.1 E6.out).1 HD9.out).trans E6.out)
         clear hA hdoc hbut y0 y1 y2 y3 y4 y5 E6 K6 HPA HPB
         have cs := HSU.out.cell
         have hBT : F2 ≤ T.length := HF2.out
         have hAT : F1 ≤ F2 := HAB.out
         have HTX := hide (show strOf (T.take F1 ++ X ++ T.drop F2) = strOf (T.take F1) ++ strOf X ++ strOf (T.drop F2) by rw [strOf_app, strOf_app])
         have q1 : ∀ W : World, (Instr.slice 9 (.string sT) none (some (.int .i64 (F1 : Int))) none).run Tryd.prog W = .ok (.string (strOf (T.take F1))) W := fun W => by
           have := run_slice_string_h (P := Tryd.prog) (w := W) 9 (strOf T) Tryd.underlying9 .i64 (F1 : Int) (by omega) (by rw [strOf_size]; omega)
           rw [HST.out] at this
           rw [this, ← HST.out, strOf_cut]
           try simp
         have q2 : ∀ W : World, (Instr.slice 9 (.string sT) (some (.int .i64 (F2 : Int))) none none).run Tryd.prog W = .ok (.string (strOf (T.drop F2))) W := fun W => by
           have := run_slice_string_l (P := Tryd.prog) (w := W) 9 (strOf T) Tryd.underlying9 .i64 (F2 : Int) (by omega) (by rw [strOf_size]; omega)
           rw [HST.out] at this
           rw [this, ← HST.out, strOf_size, strOf_cut]
           try simp
         have hcutw : strOf (((T.take F1 ++ X ++ T.drop F2).take (F1 + X.length + (T.length - F2))).drop (F1 + X.length)) = strOf (T.drop F2) := by
           congr 1
           rw [List.take_of_length_le (by simp; omega), List.drop_append, List.drop_of_length_le (by simp; omega), List.nil_append]
           have : F1 + X.length - (T.take F1 ++ X).length = 0 := by simp; omega
           rw [this, List.drop_zero]
         have q5 : ∀ W : World, (Instr.slice 9 (.string (strOf (T.take F1 ++ X ++ T.drop F2))) (some (.int .i64 ((F1 + X.length : Nat) : Int))) (some (.int .i64 ((F1 + X.length + (T.length - F2) : Nat) : Int))) none).run Tryd.prog W = .ok (.string (strOf (T.drop F2))) W := fun W => by
           have h1 := run_slice_string (P := Tryd.prog) W 9 (strOf (T.take F1 ++ X ++ T.drop F2)) .i64 .i64 ((F1 + X.length : Nat) : Int) ((F1 + X.length + (T.length - F2) : Nat) : Int) Tryd.underlying9 (by omega) (by omega) (by rw [strOf_size]; simp; omega)
           rw [h1, strOf_cut]
           simp only [Int.toNat_natCast]
           rw [hcutw]
         obtain ⟨P1, hP1⟩ : ∃ P1, F1 + X.length = P1 := ⟨_, rfl⟩
         obtain ⟨P2, hP2⟩ : ∃ P2, P1 + (T.length - F2) = P2 := ⟨_, rfl⟩
         simp only [hP1, hP2] at q5
         have HP1 := hide hP1
         have HP2 := hide hP2
         clear hP1 hP2
         have HQ5 := hide q5
         have HLN := hide (show (T.take F1 ++ X ++ T.drop F2).length ≤ 600 by simp; omega)
         have HBY := hide (fun n => bytes_any2 (wu.drewN n) D 2 _ _ (HDU.out.below (bdrewN2 (Below.refl _ _) n)) (by have := HLN.out; omega))
         have sz1 : (strOf (T.take F1)).size ≤ 1048576 := by rw [strOf_size]; simp; omega
         have sz2 : sX.size ≤ 1048576 := by rw [hszX]; omega
         have sz3 : (strOf (T.drop F2)).size ≤ 1048576 := by rw [strOf_size]; simp; omega
         rw [HSX.out] at HTX
         generalize strOf (T.take F1) = sA at *
         generalize strOf (T.drop F2) = sC at *
         have q3 : ∀ W : World, (Op.stringOp .add sA sX).run Tryd.prog W = .ok (.string (sA ++ sX)) W := fun W => run_string_add_sum W sA sX (by omega)
         have q4 : ∀ W : World, (Op.stringOp .add (sA ++ sX) sC).run Tryd.prog W = .ok (.string (sA ++ sX ++ sC)) W := fun W => run_string_add_sum W (sA ++ sX) sC (by rw [ByteArray.size_append]; omega)
         have HQ2 := hide q2
         clear sz1 sz2 sz3 hcutw q5
         go_upto_region 26 with fail
         generalize hNT : T.take F1 ++ X ++ T.drop F2 = NT at *
         clear hNT
         go_quiet (fail)
         generalize hsW : sA ++ sX ++ sC = sW at *
         clear hsW q1 q2 q3 q4 cs
         go_wp2_with fail
         refine (HBY.out nq).mono ?_
         clear HBY
         rintro e wv ⟨ao, kc, rfl, hy, hb1⟩
         have hcv := conv_byts hy.1
         rw [HTX.out] at hcv HQ5
         have hKV : Below wu.heap.size wu wv := bafter (bdrewN2 (Below.refl _ wu) nq) hb1 (Nat.le_refl _)
         have HSV := hide (HSU.out.below hKV)
         have HDV := hide (HDU.out.below hKV)
         have EV := hide ((hKV.block D9 (Array.getElem?_eq_some_iff.1 EU.out).1).trans EU.out)
         clear hy hb1 hKV HSU HDU EU HTX
         obtain ⟨mx, my, ok, hmv⟩ := mvV_form3 (mvL [((F1 : Int), (F2 : Int), (X.length : Int))] ((F2 : Int), (T.length : Int)))
         have HMV : Hid (F2 < T.length → ok = true ∧ mx = (P1 : Int) ∧ my = (P2 : Int)) := fun h => by
           rw [top_moved HAB.out h T1.out X1.out] at hmv
           rw [HP1.out, HP2.out] at hmv
           unfold mvV at hmv
           simp at hmv
           exact ⟨hmv.2, by omega, by omega⟩
         have HMV2 := hide hmv
         clear hmv
         go_upto_region 29 with fail
         clear hcv
         have cs := HSV.out.cell
         refine wp_region_held_drew (S := fun Y : World => Y.cell? ⟨w.heap.size + 1, 0, none⟩ = some (.string sT)) (by kernel_rfl) cs (fun hHeld => ?_)
         refine takeD (i := 0) (v := ?v32) (some 176) rfl (by kernel_rfl) (by kernel_rfl) (by kernel_rfl) (fun _ _ _ h => h) (Or.inl ⟨by rfl, ?hy32⟩) (by assumption) (by rfl) ?rest32
         case hy32 => first | (intro w hSw; (try dsimp only at hSw); go_simp; done) | (intro w hSw; (try dsimp only at hSw); go_simp; with_reducible rfl)
         try simp only [Act.put, List.setIfInBounds_toArray, List.set_cons_zero, List.set_cons_succ]
         refine takeD (i := 1) (v := ?v33) (some 177) rfl (by kernel_rfl) (by kernel_rfl) (by kernel_rfl) (fun _ _ _ h => h) (Or.inl ⟨by rfl, ?hy33⟩) (by assumption) (by rfl) ?rest33
         case hy33 => first | (intro w hSw; (try dsimp only at hSw); go_simp; done) | (intro w hSw; (try dsimp only at hSw); go_simp; with_reducible rfl)
         try simp only [Act.put, List.setIfInBounds_toArray, List.set_cons_zero, List.set_cons_succ]
         refine takeD (i := 2) (v := ?v34) (some 178) rfl (by kernel_rfl) (by kernel_rfl) (by kernel_rfl) (fun _ _ _ h => h) (Or.inl ⟨by rfl, ?hy34⟩) (by assumption) (by rfl) ?rest34
         case hy34 => first | (intro w hSw; (try dsimp only at hSw); go_simp; done) | (intro w hSw; (try dsimp only at hSw); go_simp; with_reducible rfl)
         try simp only [Act.put, List.setIfInBounds_toArray, List.set_cons_zero, List.set_cons_succ]
         refine takeD (i := 3) (v := ?v35) (some 179) rfl (by kernel_rfl) (by kernel_rfl) (by kernel_rfl) (fun _ _ _ h => h) (Or.inl ⟨by rfl, ?hy35⟩) (by assumption) (by rfl) ?rest35
         case hy35 => first | (intro w hSw; (try dsimp only at hSw); go_simp; done) | (intro w hSw; (try dsimp only at hSw); go_simp; with_reducible rfl)
         try simp only [Act.put, List.setIfInBounds_toArray, List.set_cons_zero, List.set_cons_succ]
         refine takeD (i := 4) (v := ?v36) (some 180) rfl (by kernel_rfl) (by kernel_rfl) (by kernel_rfl) (fun _ _ _ h => h) (Or.inl ⟨by rfl, ?hy36⟩) (by assumption) (by rfl) ?rest36
         case hy36 => first | (intro w hSw; (try dsimp only at hSw); go_simp; done) | (intro w hSw; (try dsimp only at hSw); go_simp; with_reducible rfl)
         try simp only [Act.put, List.setIfInBounds_toArray, List.set_cons_zero, List.set_cons_succ]
         have Bd : Below wv.heap.size wv wv.drew := (Below.refl _ _).drew
         refine wpAnyH_ready (rs := [5, 10]) (by kernel_rfl) (by simp) ?_
         refine AllReadyH.cons rfl (fun K hK => ?_) (AllReadyH.cons rfl (fun K hK => ?_) AllReadyH.nil)
         · go_simp
           refine (edits_one2 wv.drew D 2 NT _ (HDV.out.below Bd)).mono ?_
           rintro e xa ⟨ev, rfl, heds, hbe⟩
           have HEDS := hide heds
           obtain ⟨eo, ec, rfl, _⟩ := id heds
           have Bxa : Below wv.heap.size wv xa := bafter Bd hbe (Nat.le_refl _)
           have qxa := (HSV.out.below Bxa).cell
           clear heds hbe
           go_wp2_with fail
           refine hK.out _ _ qxa (fun _ => ?_)
           clear hK K
           try simp only [Act.put, List.setIfInBounds_toArray, List.set_cons_zero, List.set_cons_succ]
           refine wpAnyH_ready (rs := [6, 10]) (by kernel_rfl) (by simp) ?_
           refine AllReadyH.cons rfl (fun K hK => ?_) (AllReadyH.cons rfl (fun K hK => ?_) AllReadyH.nil)
           · go_simp
             have hmc := moved_calls xa (F2 : Int) (T.length : Int) _ [((F1 : Int), (F2 : Int), (X.length : Int))] HEDS.out (by simp)
             rw [HMV2.out] at hmc
             refine hmc.mono ?_
             rintro e xb ⟨rfl, hbm⟩
             have Bxb : Below wv.heap.size wv xb := bafter Bxa hbm (Nat.le_refl _)
             have qxb := (HSV.out.below Bxb).cell
             clear hmc hbm
             go_wp2_with fail
             refine hK.out _ _ qxb (fun _ => ?_)
             clear hK K
             try simp only [Act.put, List.setIfInBounds_toArray, List.set_cons_zero, List.set_cons_succ]
             refine takeD (i := 7) (v := ?v37) (some 175) rfl (by kernel_rfl) (by kernel_rfl) (by kernel_rfl) (fun _ _ _ h => h) (Or.inl ⟨by rfl, ?hy37⟩) (by assumption) (by rfl) ?rest37
             case hy37 => first | (intro w hSw; (try dsimp only at hSw); go_simp; done) | (intro w hSw; (try dsimp only at hSw); go_simp; with_reducible rfl)
             try simp only [Act.put, List.setIfInBounds_toArray, List.set_cons_zero, List.set_cons_succ]
             refine takeD (i := 8) (v := ?v38) (some 183) rfl (by kernel_rfl) (by kernel_rfl) (by kernel_rfl) (fun _ _ _ h => h) (Or.inl ⟨by rfl, ?hy38⟩) (by assumption) (by rfl) ?rest38
             case hy38 => first | (intro w hSw; (try dsimp only at hSw); go_simp; done) | (intro w hSw; (try dsimp only at hSw); go_simp; with_reducible rfl)
             try simp only [Act.put, List.setIfInBounds_toArray, List.set_cons_zero, List.set_cons_succ]
             refine takeD (i := 9) (v := ?v39) (some 184) rfl (by kernel_rfl) (by kernel_rfl) (by kernel_rfl) (fun _ _ _ h => h) (Or.inl ⟨by rfl, ?hy39⟩) (by assumption) (by rfl) ?rest39
             case hy39 => first | (intro w hSw; (try dsimp only at hSw); go_simp; done) | (intro w hSw; (try dsimp only at hSw); go_simp; with_reducible rfl)
             try simp only [Act.put, List.setIfInBounds_toArray, List.set_cons_zero, List.set_cons_succ]
             refine wpAnyH_ready (rs := [10]) (by kernel_rfl) (by simp) ?_
             refine AllReadyH.cons rfl (fun K hK => ?_) AllReadyH.nil
             go_simp
             have bxc := BoxC.new xb 56 #[.int .i64 0, .int .i64 0]
             have kxc := bel xb (.cells #[.int .i64 0, .int .i64 0] 56)
             have Bxc : Below wv.heap.size wv (xb.alloc (.cells #[.int .i64 0, .int .i64 0] 56)) := bafter Bxb kxc (Nat.le_refl _)
             have lxc : wv.heap.size ≤ xb.heap.size := Below.size Bxb
             have qxc := (HSV.out.below Bxc).cell
             generalize hBxc : xb.heap.size = B18 at *
             generalize xb.alloc (.cells #[.int .i64 0, .int .i64 0] 56) = xc at *
             refine hK.out _ _ qxc (fun _ => ?_)
             clear hK K
             try simp only [Act.put, List.setIfInBounds_toArray, List.set_cons_zero, List.set_cons_succ]
             refine wpAnyH_ready (rs := [11]) (by kernel_rfl) (by simp) ?_
             refine AllReadyH.cons rfl (fun K hK => ?_) AllReadyH.nil
             have z0 : xc.cell? ⟨B18, 0, none⟩ = some (.int .i64 0) := BoxC.cell bxc 0
             have z1 : xc.cell? ⟨B18, 1, none⟩ = some (.int .i64 0) := BoxC.cell bxc 1
             have z2 := BoxC.frozen bxc 0
             have z3 := BoxC.frozen bxc 1
             have z4 := BoxC.lt bxc
             go_simp
             have bz := BoxC.set (BoxC.set bxc 0 (.int .i64 mx)) 1 (.int .i64 my)
             have KZ : Below wv.heap.size wv ((xc.setCell ⟨B18, 0, none⟩ (.int .i64 mx)).setCell ⟨B18, 1, none⟩ (.int .i64 my)) := (Bxc.setCell (p := ⟨B18, 0, none⟩) lxc _).setCell (p := ⟨B18, 1, none⟩) lxc _
             have qz := (HSV.out.below KZ).cell
             refine hK.out _ _ qz (fun _ => ?_)
             clear hK K
             try simp only [Act.put, List.setIfInBounds_toArray, List.set_cons_zero, List.set_cons_succ]
             refine takeD (i := 12) (v := ?v40) (some 19) rfl (by kernel_rfl) (by kernel_rfl) (by kernel_rfl) (fun _ _ _ h => h) (Or.inl ⟨by rfl, ?hy40⟩) (by assumption) (by rfl) ?rest40
             case hy40 => first | (intro w hSw; (try dsimp only at hSw); go_simp; done) | (intro w hSw; (try dsimp only at hSw); go_simp; with_reducible rfl)
             try simp only [Act.put, List.setIfInBounds_toArray, List.set_cons_zero, List.set_cons_succ]
             refine wpAnyH_done (by kernel_rfl) ?_ _
             generalize (xc.setCell ⟨B18, 0, none⟩ (.int .i64 mx)).setCell ⟨B18, 1, none⟩ (.int .i64 my) = wz at *
             have HBZ := hide bz
             have HKZ := hide KZ
             clear z0 z1 z2 z3 z4 bz KZ qz hHeld cs
             have c0 : wz.cell? ⟨B18, 0, none⟩ = some (.int .i64 mx) := by simpa using HBZ.out.cell 0
             have c1 : wz.cell? ⟨B18, 1, none⟩ = some (.int .i64 my) := by simpa using HBZ.out.cell 1
             have cz := (HSV.out.below HKZ.out).cell
             have EZ := hide ((HKZ.out.block D9 (Array.getElem?_eq_some_iff.1 EV.out).1).trans EV.out)
             have q2 : ∀ W : World, (Instr.slice 9 (.string sT) (some (.int .i64 (F2 : Int))) none none).run Tryd.prog W = .ok (.string sC) W := HQ2.out
             have q5 := HQ5.out
             by_cases hBn : F2 = T.length
             · have e1 : ((F2 : Int) == (T.length : Int)) = true := by simp [hBn]
               clear hBn q2 q5 HQ5 HMV HMV2
               go_upto_region 30 with fail
               go_quiet (fail)
               go_wp2
               have hK' := ((bdrewN2 (Below.refl _ wz) nq).block D9 (Array.getElem?_eq_some_iff.1 EZ.out).1).trans EZ.out
               refine ⟨by simp, .inl ⟨_, _, rfl, run_takeDeferred hK', ?_⟩⟩
               have hlast := belowK_b (w := w) (Nat.le_refl _) _ D9 _ (.deferred none) HD9w.out hK' rfl rfl
               refine ⟨.bool true, by simp [results, Tryd.f7, go_sem], ⟨rfl, (bdrewN2 (HSV.out.below HKZ.out).2 nq).trans hlast⟩⟩
             · have e1 : ((F2 : Int) == (T.length : Int)) = false := by simp; omega
               obtain ⟨rfl, rfl, rfl⟩ := HMV.out (by omega)
               clear hBn HMV HMV2
               go_upto_region 30 with fail
               go_quiet (fail)
               go_wp2
               have hK' := ((bdrewN2 (Below.refl _ wz) nq).block D9 (Array.getElem?_eq_some_iff.1 EZ.out).1).trans EZ.out
               refine ⟨by simp, .inl ⟨_, _, rfl, run_takeDeferred hK', ?_⟩⟩
               have hlast := belowK_b (w := w) (Nat.le_refl _) _ D9 _ (.deferred none) HD9w.out hK' rfl rfl
               refine ⟨.bool true, by simp [results, Tryd.f7, go_sem], ⟨rfl, (bdrewN2 (HSV.out.below HKZ.out).2 nq).trans hlast⟩⟩
           · have HEDS2 := hide (HEDS.out.below (bel xa (.cells #[.int .i64 0, .int .i64 0] 56)))
             go_simp
             have bxb := BoxC.new xa 56 #[.int .i64 0, .int .i64 0]
             have kxb := bel xa (.cells #[.int .i64 0, .int .i64 0] 56)
             have Bxb : Below wv.heap.size wv (xa.alloc (.cells #[.int .i64 0, .int .i64 0] 56)) := bafter Bxa kxb (Nat.le_refl _)
             have lxb : wv.heap.size ≤ xa.heap.size := Below.size Bxa
             have qxb := (HSV.out.below Bxb).cell
             generalize hBxb : xa.heap.size = B18 at *
             generalize xa.alloc (.cells #[.int .i64 0, .int .i64 0] 56) = xb at *
             refine hK.out _ _ qxb (fun _ => ?_)
             clear hK K
             try simp only [Act.put, List.setIfInBounds_toArray, List.set_cons_zero, List.set_cons_succ]
             refine wpAnyH_ready (rs := [6]) (by kernel_rfl) (by simp) ?_
             refine AllReadyH.cons rfl (fun K hK => ?_) AllReadyH.nil
             go_simp
             have hmc := moved_calls xb (F2 : Int) (T.length : Int) _ [((F1 : Int), (F2 : Int), (X.length : Int))] HEDS2.out (by simp)
             rw [HMV2.out] at hmc
             refine hmc.mono ?_
             rintro e xc ⟨rfl, hbm⟩
             have Bxc : Below wv.heap.size wv xc := bafter Bxb hbm (Nat.le_refl _)
             have qxc := (HSV.out.below Bxc).cell
             have bxc := BoxC.below bxb hbm
             clear hmc hbm
             go_wp2_with fail
             refine hK.out _ _ qxc (fun _ => ?_)
             clear hK K
             try simp only [Act.put, List.setIfInBounds_toArray, List.set_cons_zero, List.set_cons_succ]
             refine takeD (i := 7) (v := ?v41) (some 175) rfl (by kernel_rfl) (by kernel_rfl) (by kernel_rfl) (fun _ _ _ h => h) (Or.inl ⟨by rfl, ?hy41⟩) (by assumption) (by rfl) ?rest41
             case hy41 => first | (intro w hSw; (try dsimp only at hSw); go_simp; done) | (intro w hSw; (try dsimp only at hSw); go_simp; with_reducible rfl)
             try simp only [Act.put, List.setIfInBounds_toArray, List.set_cons_zero, List.set_cons_succ]
             refine takeD (i := 8) (v := ?v42) (some 183) rfl (by kernel_rfl) (by kernel_rfl) (by kernel_rfl) (fun _ _ _ h => h) (Or.inl ⟨by rfl, ?hy42⟩) (by assumption) (by rfl) ?rest42
             case hy42 => first | (intro w hSw; (try dsimp only at hSw); go_simp; done) | (intro w hSw; (try dsimp only at hSw); go_simp; with_reducible rfl)
             try simp only [Act.put, List.setIfInBounds_toArray, List.set_cons_zero, List.set_cons_succ]
             refine takeD (i := 9) (v := ?v43) (some 184) rfl (by kernel_rfl) (by kernel_rfl) (by kernel_rfl) (fun _ _ _ h => h) (Or.inl ⟨by rfl, ?hy43⟩) (by assumption) (by rfl) ?rest43
             case hy43 => first | (intro w hSw; (try dsimp only at hSw); go_simp; done) | (intro w hSw; (try dsimp only at hSw); go_simp; with_reducible rfl)
             try simp only [Act.put, List.setIfInBounds_toArray, List.set_cons_zero, List.set_cons_succ]
             refine wpAnyH_ready (rs := [11]) (by kernel_rfl) (by simp) ?_
             refine AllReadyH.cons rfl (fun K hK => ?_) AllReadyH.nil
             have z0 : xc.cell? ⟨B18, 0, none⟩ = some (.int .i64 0) := BoxC.cell bxc 0
             have z1 : xc.cell? ⟨B18, 1, none⟩ = some (.int .i64 0) := BoxC.cell bxc 1
             have z2 := BoxC.frozen bxc 0
             have z3 := BoxC.frozen bxc 1
             have z4 := BoxC.lt bxc
             go_simp
             have bz := BoxC.set (BoxC.set bxc 0 (.int .i64 mx)) 1 (.int .i64 my)
             have KZ : Below wv.heap.size wv ((xc.setCell ⟨B18, 0, none⟩ (.int .i64 mx)).setCell ⟨B18, 1, none⟩ (.int .i64 my)) := (Bxc.setCell (p := ⟨B18, 0, none⟩) lxb _).setCell (p := ⟨B18, 1, none⟩) lxb _
             have qz := (HSV.out.below KZ).cell
             refine hK.out _ _ qz (fun _ => ?_)
             clear hK K
             try simp only [Act.put, List.setIfInBounds_toArray, List.set_cons_zero, List.set_cons_succ]
             refine takeD (i := 12) (v := ?v44) (some 19) rfl (by kernel_rfl) (by kernel_rfl) (by kernel_rfl) (fun _ _ _ h => h) (Or.inl ⟨by rfl, ?hy44⟩) (by assumption) (by rfl) ?rest44
             case hy44 => first | (intro w hSw; (try dsimp only at hSw); go_simp; done) | (intro w hSw; (try dsimp only at hSw); go_simp; with_reducible rfl)
             try simp only [Act.put, List.setIfInBounds_toArray, List.set_cons_zero, List.set_cons_succ]
             refine wpAnyH_done (by kernel_rfl) ?_ _
             generalize (xc.setCell ⟨B18, 0, none⟩ (.int .i64 mx)).setCell ⟨B18, 1, none⟩ (.int .i64 my) = wz at *
             have HBZ := hide bz
             have HKZ := hide KZ
             clear z0 z1 z2 z3 z4 bz KZ qz hHeld cs
             have c0 : wz.cell? ⟨B18, 0, none⟩ = some (.int .i64 mx) := by simpa using HBZ.out.cell 0
             have c1 : wz.cell? ⟨B18, 1, none⟩ = some (.int .i64 my) := by simpa using HBZ.out.cell 1
             have cz := (HSV.out.below HKZ.out).cell
             have EZ := hide ((HKZ.out.block D9 (Array.getElem?_eq_some_iff.1 EV.out).1).trans EV.out)
             have q2 : ∀ W : World, (Instr.slice 9 (.string sT) (some (.int .i64 (F2 : Int))) none none).run Tryd.prog W = .ok (.string sC) W := HQ2.out
             have q5 := HQ5.out
             by_cases hBn : F2 = T.length
             · have e1 : ((F2 : Int) == (T.length : Int)) = true := by simp [hBn]
               clear hBn q2 q5 HQ5 HMV HMV2
               go_upto_region 30 with fail
               go_quiet (fail)
               go_wp2
               have hK' := ((bdrewN2 (Below.refl _ wz) nq).block D9 (Array.getElem?_eq_some_iff.1 EZ.out).1).trans EZ.out
               refine ⟨by simp, .inl ⟨_, _, rfl, run_takeDeferred hK', ?_⟩⟩
               have hlast := belowK_b (w := w) (Nat.le_refl _) _ D9 _ (.deferred none) HD9w.out hK' rfl rfl
               refine ⟨.bool true, by simp [results, Tryd.f7, go_sem], ⟨rfl, (bdrewN2 (HSV.out.below HKZ.out).2 nq).trans hlast⟩⟩
             · have e1 : ((F2 : Int) == (T.length : Int)) = false := by simp; omega
               obtain ⟨rfl, rfl, rfl⟩ := HMV.out (by omega)
               clear hBn HMV HMV2
               go_upto_region 30 with fail
               go_quiet (fail)
               go_wp2
               have hK' := ((bdrewN2 (Below.refl _ wz) nq).block D9 (Array.getElem?_eq_some_iff.1 EZ.out).1).trans EZ.out
               refine ⟨by simp, .inl ⟨_, _, rfl, run_takeDeferred hK', ?_⟩⟩
               have hlast := belowK_b (w := w) (Nat.le_refl _) _ D9 _ (.deferred none) HD9w.out hK' rfl rfl
               refine ⟨.bool true, by simp [results, Tryd.f7, go_sem], ⟨rfl, (bdrewN2 (HSV.out.below HKZ.out).2 nq).trans hlast⟩⟩
         · go_simp
           have bxa : BoxC (wv.alloc (.cells #[.int .i64 0, .int .i64 0] 56)).drew wv.heap.size 56 #[.int .i64 0, .int .i64 0] := BoxC.below (BoxC.new wv 56 #[.int .i64 0, .int .i64 0]) ((Below.refl _ _).drew)
           have Bxa : Below wv.heap.size wv (wv.alloc (.cells #[.int .i64 0, .int .i64 0] 56)).drew := (bel wv (.cells #[.int .i64 0, .int .i64 0] 56)).drew
           have lxa : wv.heap.size ≤ wv.heap.size := Nat.le_refl _
           have qxa := (HSV.out.below Bxa).cell
           generalize (wv.alloc (.cells #[.int .i64 0, .int .i64 0] 56)).drew = xa at *
           refine hK.out _ _ qxa (fun _ => ?_)
           clear hK K
           try simp only [Act.put, List.setIfInBounds_toArray, List.set_cons_zero, List.set_cons_succ]
           refine wpAnyH_ready (rs := [5]) (by kernel_rfl) (by simp) ?_
           refine AllReadyH.cons rfl (fun K hK => ?_) AllReadyH.nil
           go_simp
           refine (edits_one2 xa D 2 NT _ (HDV.out.below Bxa)).mono ?_
           rintro e xb ⟨ev, rfl, heds, hbe⟩
           have HEDS := hide heds
           obtain ⟨eo, ec, rfl, _⟩ := id heds
           have bxb := BoxC.below bxa hbe
           have Bxb : Below wv.heap.size wv xb := bafter Bxa hbe (Nat.le_refl _)
           have qxb := (HSV.out.below Bxb).cell
           clear heds hbe
           go_wp2_with fail
           refine hK.out _ _ qxb (fun _ => ?_)
           clear hK K
           try simp only [Act.put, List.setIfInBounds_toArray, List.set_cons_zero, List.set_cons_succ]
           refine wpAnyH_ready (rs := [6]) (by kernel_rfl) (by simp) ?_
           refine AllReadyH.cons rfl (fun K hK => ?_) AllReadyH.nil
           go_simp
           have hmc := moved_calls xb (F2 : Int) (T.length : Int) _ [((F1 : Int), (F2 : Int), (X.length : Int))] HEDS.out (by simp)
           rw [HMV2.out] at hmc
           refine hmc.mono ?_
           rintro e xc ⟨rfl, hbm⟩
           have Bxc : Below wv.heap.size wv xc := bafter Bxb hbm (Nat.le_refl _)
           have qxc := (HSV.out.below Bxc).cell
           have bxc := BoxC.below bxb hbm
           clear hmc hbm
           go_wp2_with fail
           refine hK.out _ _ qxc (fun _ => ?_)
           clear hK K
           try simp only [Act.put, List.setIfInBounds_toArray, List.set_cons_zero, List.set_cons_succ]
           refine takeD (i := 7) (v := ?v45) (some 175) rfl (by kernel_rfl) (by kernel_rfl) (by kernel_rfl) (fun _ _ _ h => h) (Or.inl ⟨by rfl, ?hy45⟩) (by assumption) (by rfl) ?rest45
           case hy45 => first | (intro w hSw; (try dsimp only at hSw); go_simp; done) | (intro w hSw; (try dsimp only at hSw); go_simp; with_reducible rfl)
           try simp only [Act.put, List.setIfInBounds_toArray, List.set_cons_zero, List.set_cons_succ]
           refine takeD (i := 8) (v := ?v46) (some 183) rfl (by kernel_rfl) (by kernel_rfl) (by kernel_rfl) (fun _ _ _ h => h) (Or.inl ⟨by rfl, ?hy46⟩) (by assumption) (by rfl) ?rest46
           case hy46 => first | (intro w hSw; (try dsimp only at hSw); go_simp; done) | (intro w hSw; (try dsimp only at hSw); go_simp; with_reducible rfl)
           try simp only [Act.put, List.setIfInBounds_toArray, List.set_cons_zero, List.set_cons_succ]
           refine takeD (i := 9) (v := ?v47) (some 184) rfl (by kernel_rfl) (by kernel_rfl) (by kernel_rfl) (fun _ _ _ h => h) (Or.inl ⟨by rfl, ?hy47⟩) (by assumption) (by rfl) ?rest47
           case hy47 => first | (intro w hSw; (try dsimp only at hSw); go_simp; done) | (intro w hSw; (try dsimp only at hSw); go_simp; with_reducible rfl)
           try simp only [Act.put, List.setIfInBounds_toArray, List.set_cons_zero, List.set_cons_succ]
           refine wpAnyH_ready (rs := [11]) (by kernel_rfl) (by simp) ?_
           refine AllReadyH.cons rfl (fun K hK => ?_) AllReadyH.nil
           have z0 : xc.cell? ⟨wv.heap.size, 0, none⟩ = some (.int .i64 0) := BoxC.cell bxc 0
           have z1 : xc.cell? ⟨wv.heap.size, 1, none⟩ = some (.int .i64 0) := BoxC.cell bxc 1
           have z2 := BoxC.frozen bxc 0
           have z3 := BoxC.frozen bxc 1
           have z4 := BoxC.lt bxc
           go_simp
           have bz := BoxC.set (BoxC.set bxc 0 (.int .i64 mx)) 1 (.int .i64 my)
           have KZ : Below wv.heap.size wv ((xc.setCell ⟨wv.heap.size, 0, none⟩ (.int .i64 mx)).setCell ⟨wv.heap.size, 1, none⟩ (.int .i64 my)) := (Bxc.setCell (p := ⟨wv.heap.size, 0, none⟩) lxa _).setCell (p := ⟨wv.heap.size, 1, none⟩) lxa _
           have qz := (HSV.out.below KZ).cell
           refine hK.out _ _ qz (fun _ => ?_)
           clear hK K
           try simp only [Act.put, List.setIfInBounds_toArray, List.set_cons_zero, List.set_cons_succ]
           refine takeD (i := 12) (v := ?v48) (some 19) rfl (by kernel_rfl) (by kernel_rfl) (by kernel_rfl) (fun _ _ _ h => h) (Or.inl ⟨by rfl, ?hy48⟩) (by assumption) (by rfl) ?rest48
           case hy48 => first | (intro w hSw; (try dsimp only at hSw); go_simp; done) | (intro w hSw; (try dsimp only at hSw); go_simp; with_reducible rfl)
           try simp only [Act.put, List.setIfInBounds_toArray, List.set_cons_zero, List.set_cons_succ]
           refine wpAnyH_done (by kernel_rfl) ?_ _
           generalize (xc.setCell ⟨wv.heap.size, 0, none⟩ (.int .i64 mx)).setCell ⟨wv.heap.size, 1, none⟩ (.int .i64 my) = wz at *
           have HBZ := hide bz
           have HKZ := hide KZ
           clear z0 z1 z2 z3 z4 bz KZ qz hHeld cs
           have c0 : wz.cell? ⟨wv.heap.size, 0, none⟩ = some (.int .i64 mx) := by simpa using HBZ.out.cell 0
           have c1 : wz.cell? ⟨wv.heap.size, 1, none⟩ = some (.int .i64 my) := by simpa using HBZ.out.cell 1
           have cz := (HSV.out.below HKZ.out).cell
           have EZ := hide ((HKZ.out.block D9 (Array.getElem?_eq_some_iff.1 EV.out).1).trans EV.out)
           have q2 : ∀ W : World, (Instr.slice 9 (.string sT) (some (.int .i64 (F2 : Int))) none none).run Tryd.prog W = .ok (.string sC) W := HQ2.out
           have q5 := HQ5.out
           by_cases hBn : F2 = T.length
           · have e1 : ((F2 : Int) == (T.length : Int)) = true := by simp [hBn]
             clear hBn q2 q5 HQ5 HMV HMV2
             go_upto_region 30 with fail
             go_quiet (fail)
             go_wp2
             have hK' := ((bdrewN2 (Below.refl _ wz) nq).block D9 (Array.getElem?_eq_some_iff.1 EZ.out).1).trans EZ.out
             refine ⟨by simp, .inl ⟨_, _, rfl, run_takeDeferred hK', ?_⟩⟩
             have hlast := belowK_b (w := w) (Nat.le_refl _) _ D9 _ (.deferred none) HD9w.out hK' rfl rfl
             refine ⟨.bool true, by simp [results, Tryd.f7, go_sem], ⟨rfl, (bdrewN2 (HSV.out.below HKZ.out).2 nq).trans hlast⟩⟩
           · have e1 : ((F2 : Int) == (T.length : Int)) = false := by simp; omega
             obtain ⟨rfl, rfl, rfl⟩ := HMV.out (by omega)
             clear hBn HMV HMV2
             go_upto_region 30 with fail
             go_quiet (fail)
             go_wp2
             have hK' := ((bdrewN2 (Below.refl _ wz) nq).block D9 (Array.getElem?_eq_some_iff.1 EZ.out).1).trans EZ.out
             refine ⟨by simp, .inl ⟨_, _, rfl, run_takeDeferred hK', ?_⟩⟩
             have hlast := belowK_b (w := w) (Nat.le_refl _) _ D9 _ (.deferred none) HD9w.out hK' rfl rfl
             refine ⟨.bool true, by simp [results, Tryd.f7, go_sem], ⟨rfl, (bdrewN2 (HSV.out.below HKZ.out).2 nq).trans hlast⟩⟩

    case stop => exact fun D c k W hD hk h hK => h.elim

end Go.Proofs.YthhpfdjcggfhaaaDoor
