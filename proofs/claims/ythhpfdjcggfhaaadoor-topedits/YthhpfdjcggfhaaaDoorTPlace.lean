/- The reference's Place. -/
import Derived.Test.YthhpfdjcggfhaaaDoorUBack
import Derived.Test.YthhpfdjcggfhaaaDoorUROff
import Derived.Test.YthhpfdjcggfhaaaDoorTMov
import Derived.Deep.QuietTactic
import Derived.Deep.CutRange
import Derived.Deep.DeepMust
import Derived.BigQuiet
import Derived.Test.YthhpfdjcggfhaaaDoorTOpen
namespace Go.Proofs.YthhpfdjcggfhaaaDoor
set_option linter.unusedVariables false
set_option linter.unusedSimpArgs false
set_option maxRecDepth 100000
open Go Go.RowKit Go.Shelf Go.Lib

theorem bdrew2 {n : Nat} {w W : World} (h : Below n w W) (k : Nat) : Below n w (W.drewN k) := by
  induction k with
  | zero => exact h
  | succ k ih => exact ih.drew
theorem add_pl (b off j : Nat) : (⟨b, off, none⟩ : Addr).add j = ⟨b, off + j, none⟩ := by
  unfold Addr.add
  split
  · rename_i h0; simp [h0]
  · rfl
theorem cut_rest (W : World) (co : Option Addr) (n cc f : Nat) (h : f ≤ n) (h2 : n ≤ cc) : (Instr.slice 36 (.slice co n cc) (some (.int .i64 (f : Int))) none none).run Tryd.prog W = .ok (.slice (if cc = f then co else co.map (·.add f)) (n - f) (cc - f)) W := by
  have h1 := run_slice_l (P := Tryd.prog) (w := W) 36 co n cc (by kernel_rfl) .i64 (f : Int) (by omega) (by omega)
  rw [h1]
  go_simp
theorem Byt.rest {W : World} {co : Option Addr} {cc : Nat} {T : List Nat} (h : Byt W co cc T) {f : Nat} (hf : f ≤ T.length) : Byts W (.slice (if cc = f then co else co.map (·.add f)) (T.length - f) (cc - f)) (T.drop f) := by
  obtain ⟨⟨ao, c', e, h1, h2⟩, h3, h4⟩ := h
  cases e
  have hl : (T.drop f).length = T.length - f := by simp
  refine ⟨_, _, by rw [hl], fun x hx => h1 x (List.mem_of_mem_drop hx), fun j hj => ?_⟩
  rw [hl] at hj
  obtain ⟨b, off, e, hc⟩ := h2 (f + j) (by omega)
  cases e
  rw [if_neg (by omega)]
  refine ⟨b, off + f, by simp [add_pl], ?_⟩
  rw [show off + f + j = off + (f + j) by omega, hc, nth_drop]

/-- The line of a byte, as the reference looks for it. -/
def RLine (L : List Int) (a : Int) (i : Nat) : Prop := i < L.length ∧ (0 < i → nthI L i ≤ a) ∧ (i + 1 < L.length → a < nthI L (i + 1))
/-- The position of a byte, as the reference tells it. -/
def RPlaceR (T : List Nat) (L : List Int) (at' : Int) (ln un : Int) : Prop :=
  ∃ a i f en N k : Nat, clamp at' (T.length : Int) = (a : Int) ∧ RLine L (a : Int) i ∧ ln = (i : Int) ∧ clamp (nthI L i) (T.length : Int) = (f : Int) ∧ f ≤ T.length ∧ IsEnd T f en ∧
    (∀ j, j < N → posL (T.drop f) j < (T.drop f).length) ∧ posL (T.drop f) N = (T.drop f).length ∧ k ≤ N ∧ (∀ j, j < k → f + posL (T.drop f) (j + 1) ≤ min a en) ∧ (k < N → min a en < f + posL (T.drop f) (k + 1)) ∧ un = ((unitsL (T.drop f) k : Nat) : Int)

theorem results_pos2 {fn : Func} {i : Tmp} (h : fn.results = #[.cell i 48]) {tmps : Array Value} {W : World} {b : Nat} {x y : Value} {t : TypeId} (hp : tmps.getD i undef = .pointer (some ⟨b, 0, none⟩)) (T : BoxC W b t #[x, y]) :
    (results fn tmps).run Tryd.prog W = .ok (.agg #[x, y]) W := by
  have c0 : W.cell? ⟨b, 0, none⟩ = some x := T.cell 0
  have c1 : W.cell? ⟨b, 1, none⟩ = some y := T.cell 1
  have hp' : tmps[i]?.getD undef = .pointer (some ⟨b, 0, none⟩) := by simpa using hp
  simp [results, h, hp', go_sem, c0, c1]

set_option maxHeartbeats 8000000 in
theorem rplace_calls (w : World) (ao : Option Addr) (cap : Nat) (T : List Nat) (v : Value) (L : List Int) (at' : Int) (h : Byt w ao cap T) (hL : IntsIn w v L) (hlen : T.length ≤ 1000000) (hL1 : 1 ≤ L.length) (hll : L.length ≤ 1000001) :
    Calls Tryd.prog 22 #[.slice ao T.length cap, v, .int .i64 at'] w fun e w' => ∃ ln un : Int, e = .returned (.agg #[.int .i64 ln, .int .i64 un]) ∧ RPlaceR T L at' ln un ∧ Below w.heap.size w w' := by
  obtain ⟨lo, lc, rfl, hc⟩ := id hL
  have HC := hide hc
  have H := hide h
  have HB1 := hide (bel w (.cells #[.int .i64 0, .int .i64 0] 48))
  have BX := hide (BoxC.new w 48 #[.int .i64 0, .int .i64 0])
  clear hL hc h
  obtain ⟨W1, hW1⟩ : ∃ W1, w.alloc (.cells #[.int .i64 0, .int .i64 0] 48) = W1 := ⟨_, rfl⟩
  rw [hW1] at HB1 BX
  obtain ⟨a, hca, hal⟩ := clamp_nat at' T.length
  have HWA := hide (fun w => rwithin_calls w at' (T.length : Int))
  rw [hca] at HWA
  have HCA := hide hca
  have d0 : ¬ (L.length : Int) = 0 := by omega
  have HW1 := hide hW1
  clear hca hW1
  go_enter Tryd.func22, Tryd.ntmps22
  go_wp2_with fail
  rw [HW1.out]
  clear HW1
  refine (HWA.out _).mono ?_
  rintro e w1 ⟨rfl, hw⟩
  rw [hw]
  clear hw w1 HWA
  go_wp2
  go_loopw [7] (fun iv wr => ∃ k : Nat, k < L.length ∧ iv = .int .i64 (k : Int) ∧ (0 < k → nthI L k ≤ (a : Int)) ∧ wr = W1) (fun iv _ => L.length - (RowKit.intOf iv).toNat)
  case atStart => exact ⟨0, by omega, rfl, fun h => by omega, rfl⟩
  case round =>
    obtain ⟨k, hk, rfl, hkl, hwr⟩ := hrel
    rw [hwr]
    clear hwr
    have HKL := hide hkl
    clear hkl
    obtain ⟨q, hq⟩ : ∃ q, k + 1 = q := ⟨_, rfl⟩
    have hqi : (k : Int) + 1 = (q : Int) := by omega
    have hqb : q ≤ 1000001 := by omega
    by_cases hnext : q < L.length ∧ nthI L q ≤ (a : Int)
    · obtain ⟨b0, off0, rfl, c0⟩ := HC.out q hnext.1
      have c1 : W1.cell? ⟨b0, off0 + q, none⟩ = some (.int .i64 (nthI L q)) := (HB1.out.cell (p := ⟨b0, off0 + q, none⟩) (block_lt c0)).trans c0
      have e1 : (q : Int) < (L.length : Int) := by omega
      have e2 : (0 : Int) ≤ (q : Int) := by omega
      have e3 := hnext.2
      have HNX := hide hnext
      have HQ := hide hq
      generalize hz : nthI L q = z at *
      have HZ := hide hz
      clear hnext c0 hz hq
      go_wp2
      go_roundw
      case rel => exact ⟨q, HNX.out.1, by go_num, fun _ => by rw [HZ.out]; exact HNX.out.2, by first | rfl | trivial⟩
      case measure => have := HQ.out; have := HNX.out.1; simp [RowKit.intOf]; omega
    · have HRL : Hid (RLine L (a : Int) k) := ⟨hk, HKL.out, fun h => by rw [hq] at h ⊢; exact Int.not_le.1 (fun h2 => hnext ⟨h, h2⟩)⟩
      obtain ⟨b0, off0, rfl, c0⟩ := HC.out k hk
      have c1 : W1.cell? ⟨b0, off0 + k, none⟩ = some (.int .i64 (nthI L k)) := (HB1.out.cell (p := ⟨b0, off0 + k, none⟩) (block_lt c0)).trans c0
      have e1 : (k : Int) < (L.length : Int) := by omega
      have e2 : (0 : Int) ≤ (k : Int) := by omega
      obtain ⟨f, hcl, hf⟩ := clamp_nat (nthI L k) T.length
      have HW := hide (fun w => rwithin_calls w (nthI L k) (T.length : Int))
      rw [hcl] at HW
      have HCL := hide hcl
      clear hcl
      have hexit : ∃ n, True := ⟨0, trivial⟩
      go_upto_region 5 with fail
      go_cut [34] from 21 to 34 (fun s34 wx => s34 = .bool false ∧ wx = W1)
      case first =>
        by_cases hql : q < L.length
        · obtain ⟨b1, off1, e', c2⟩ := HC.out q hql
          cases e'
          have c3 : W1.cell? ⟨b0, off0 + q, none⟩ = some (.int .i64 (nthI L q)) := (HB1.out.cell (p := ⟨b0, off0 + q, none⟩) (block_lt c2)).trans c2
          have g1 : (q : Int) < (L.length : Int) := by omega
          have g2 : (0 : Int) ≤ (q : Int) := by omega
          have g3 : ¬ nthI L q ≤ (a : Int) := fun h2 => hnext ⟨hql, h2⟩
          generalize nthI L q = z at *
          generalize nthI L k = z2 at *
          clear hnext c0 c2 hq
          go_wp2_with fail
          go_meet
          exact ⟨by first | (simp; done) | (simp; omega), rfl⟩
        · have g1 : ¬ (q : Int) < (L.length : Int) := by omega
          generalize nthI L k = z2 at *
          clear hnext c0 hq
          go_wp2_with fail
          go_meet
          exact ⟨rfl, rfl⟩
      case rest =>
        obtain ⟨rfl, hwx⟩ := hcut
        rw [hwx]
        clear hwx
        clear hnext c0 hq hexit
        generalize hz : nthI L k = z2 at *
        have HZ2 := hide hz
        clear hz
        have HEn := hide (rend_calls _ ao cap T f (H.out.below HB1.out).1 hf (by omega))
        go_wp2_with fail
        refine (HW.out _).mono ?_
        rintro e w1 ⟨rfl, hw⟩
        rw [hw]
        clear hw w1 HW
        go_wp2_with fail
        refine HEn.out.mono ?_
        rintro e w1 ⟨en, rfl, hE, hw⟩
        rw [hw]
        clear hw w1 HEn
        have HE := hide hE
        have hfe : f ≤ en := hE.1
        have het : en ≤ T.length := hE.2.1
        have hst : clamp (a : Int) (en : Int) = ((min a en : Nat) : Int) := by unfold clamp; split <;> (try split) <;> omega
        have HWS := hide (fun w => rwithin_calls w (a : Int) (en : Int))
        rw [hst] at HWS
        clear hE hst
        go_wp2_with fail
        refine (HWS.out _).mono ?_
        rintro e w1 ⟨rfl, hw⟩
        rw [hw]
        clear hw w1 HWS
        obtain ⟨st, hst⟩ : ∃ st, min a en = st := ⟨_, rfl⟩
        rw [hst]
        have HSTE := hide hst
        have hstb : st ≤ 1000000 := by omega
        clear hst
        have hrest := Byt.rest (H.out.below HB1.out) hf
        have hcap := H.out.2.1
        have q1 : ∀ W : World, (Instr.slice 36 (.slice ao T.length cap) (some (.int .i64 (f : Int))) none none).run Tryd.prog W = .ok (.slice (if cap = f then ao else ao.map (·.add f)) (T.length - f) (cap - f)) W := fun W => cut_rest W ao T.length cap f hf hcap
        obtain ⟨LT, hLT⟩ : ∃ LT, T.drop f = LT := ⟨_, rfl⟩
        have hll2 : LT.length = T.length - f := by rw [← hLT]; simp
        rw [hLT, ← hll2] at hrest
        rw [← hll2] at q1
        have hsm : ∀ x ∈ LT, x < 256 := by rw [← hLT]; exact fun x hx => H.out.1.small x (List.mem_of_mem_drop hx)
        obtain ⟨N, n1, n2⟩ := letters_count hsm
        have hN : N ≤ LT.length := by have := posL_ge hsm n1 N (Nat.le_refl _); omega
        generalize (if cap = f then ao else ao.map (·.add f)) = aB at *
        have HLE := hide (rletters_calls W1 aB (cap - f) LT N hrest (by omega) n1 n2 (by omega))
        have NP := hide n1
        have NQ := hide n2
        have HLT := hide hLT
        have HFL := hide (show f + LT.length ≤ 1000000 by omega)
        have hNb : N ≤ 1000000 := by omega
        clear hrest hcap hLT hll2 hsm n1 n2 hN
        go_wp2_with fail
        refine HLE.out.mono ?_
        rintro e W3 ⟨rv, rfl, hLe, hb3⟩
        obtain ⟨lo3, ll3, rfl, hlc⟩ := hLe
        have HLC := hide hlc
        have HB3 := hide (show Below w.heap.size w W3 from bafter HB1.out hb3 (Nat.le_refl _))
        have BX3 := hide (BX.out.below hb3)
        clear hlc hb3 HLE q1 c1
        go_wp2
        go_loopw [11, 12] (fun nv iv wr => ∃ m : Nat, m ≤ N ∧ iv = .int .i64 (m : Int) ∧ nv = .int .i64 ((unitsL LT m : Nat) : Int) ∧ (∀ j, j < m → f + posL LT (j + 1) ≤ st) ∧ Below W3.heap.size W3 wr) (fun _ iv _ => N - (RowKit.intOf iv).toNat)
        case atStart => exact ⟨0, Nat.zero_le _, rfl, rfl, fun j hj => by omega, Below.refl _ _⟩
        case round =>
          obtain ⟨m, hm, rfl, rfl, hno, hbw⟩ := hrel
          have HNO := hide hno
          clear hno
          by_cases hlt : m < N
          · obtain ⟨lb, rfl, l0, l1, l2⟩ := HLC.out m hlt
            replace l0 := (hbw.cell (p := ⟨lb, 3 * m, none⟩) (block_lt l0)).trans l0
            replace l1 := (hbw.cell (p := ⟨lb, 3 * m + 1, none⟩) (block_lt l1)).trans l1
            replace l2 := (hbw.cell (p := ⟨lb, 3 * m + 2, none⟩) (block_lt l2)).trans l2
            have g1 : (m : Int) < (N : Int) := by omega
            have g0 : (0 : Int) ≤ (m : Int) := by omega
            have hkm : m * 3 = 3 * m := by omega
            have hpk := NP.out m hlt
            have hps : posL LT (m + 1) = posL LT m + sizeAt LT (posL LT m) := rfl
            have hpe : posL LT (m + 1) ≤ LT.length := by
              rcases Nat.eq_or_lt_of_le (show m + 1 ≤ N by omega) with g | g
              · rw [g, NQ.out]; exact Nat.le_refl _
              · exact Nat.le_of_lt (NP.out _ g)
            generalize hPp : posL LT m = P at *
            generalize hZz : sizeAt LT P = Z at *
            generalize hRr : runeAt LT P = R at *
            obtain ⟨f1, hf1⟩ : ∃ f1, f + P = f1 := ⟨_, rfl⟩
            obtain ⟨f2, hf2⟩ : ∃ f2, f1 + Z = f2 := ⟨_, rfl⟩
            have hf1i : (f : Int) + (P : Int) = (f1 : Int) := by omega
            have hf2i : (f1 : Int) + (Z : Int) = (f2 : Int) := by omega
            have hfl := HFL.out
            have hf2b : f2 ≤ 1000000 := by omega
            have x1 : IntKind.i64.wrap (f1 : Int) = (f1 : Int) := by rw [IntKind.wrap_i64]; omega
            have x2 : IntKind.i64.wrap (f2 : Int) = (f2 : Int) := by rw [IntKind.wrap_i64]; omega
            have HF2 := hide (show f + posL LT (m + 1) = f2 by omega)
            have HPP := hide hPp
            have HRR := hide hRr
            have HBW := hide hbw
            clear hps hpe hpk hf1 hf2 hfl hPp hRr hZz hbw
            by_cases hle : f2 ≤ st
            · have g2 : decide ((f2 : Int) ≤ (st : Int)) = true := decide_eq_true (by omega)
              have HLEQ := hide hle
              have hul := unitsL_le LT m
              have HU : Hid (unitsL LT (m + 1) = unitsL LT m + unitOf R) := by show _ = _; rw [← HRR.out, ← HPP.out]; rfl
              have hun : unitOf R ≤ 2 := by unfold unitOf; split <;> omega
              generalize unitsL LT m = A at *
              generalize hu : unitOf R = uu at *
              obtain ⟨U, hU⟩ : ∃ U, A + uu = U := ⟨_, rfl⟩
              have hUi : (A : Int) + (uu : Int) = (U : Int) := by omega
              have hUb : U ≤ 2000002 := by omega
              rw [hU] at HU
              clear hU hle hul hun
              go_wp2
              go_quiet (fail)
              have l1' : (wr.drewN nq).cell? ⟨lb, 3 * m + 1, none⟩ = some (.int .i64 R) := ((bdrew2 (Below.refl _ wr) nq).cell (p := ⟨lb, 3 * m + 1, none⟩) (block_lt l1)).trans l1
              have HBN := hide (show Below W3.heap.size W3 (wr.drewN nq) from bdrew2 HBW.out nq)
              generalize wr.drewN nq = wv at *
              clear l0 l1 l2
              go_wp2_with (go_at_call 39; refine (runit_calls _ _).mono ?_; rintro e w' ⟨rfl, hw⟩; rw [hw, hu]; clear hw)
              go_roundw
              case rel =>
                refine ⟨m + 1, by omega, by go_num, by rw [HU.out], fun j hj => ?_, HBN.out⟩
                rcases Nat.lt_or_ge j m with g | g
                · exact HNO.out j g
                · obtain rfl : j = m := by omega
                  rw [HF2.out]
                  exact HLEQ.out
              case measure => simp [RowKit.intOf]; omega
            · have g2 : decide ((f2 : Int) ≤ (st : Int)) = false := decide_eq_false (by omega)
              have hnle : ¬ (f2 : Int) ≤ (st : Int) := by omega
              have HGT := hide (show st < f2 by omega)
              clear hle
              go_wp2
              go_quiet (fail)
              have HBN := hide (show Below W3.heap.size W3 (wr.drewN nq) from bdrew2 HBW.out nq)
              generalize wr.drewN nq = wv at *
              have BXv := hide (BX3.out.below HBN.out)
              have y0 : wv.cell? ⟨w.heap.size, 0, none⟩ = some (.int .i64 0) := BXv.out.cell 0
              have y1 : wv.cell? ⟨w.heap.size, 1, none⟩ = some (.int .i64 0) := BXv.out.cell 1
              have y2 := BXv.out.frozen 0
              have y3 := BXv.out.frozen 1
              have y4 := BXv.out.lt
              clear l0 l1 l2
              go_wp2
              refine bodyPost_ret (results_pos2 rfl rfl ((BXv.out.set 0 _).set 1 _)) rfl ?_
              exact ⟨_, _, rfl, ⟨a, k, f, en, N, m, HCA.out, HRL.out, rfl, by rw [HZ2.out]; exact HCL.out, hf, HE.out, by rw [HLT.out]; exact NP.out, by rw [HLT.out]; exact NQ.out, hm, by rw [HLT.out, HSTE.out]; exact HNO.out, fun _ => by rw [HLT.out, HSTE.out, HF2.out]; exact HGT.out, by rw [HLT.out]⟩, ((bafter HB3.out HBN.out (Nat.le_refl _)).setCell (p := ⟨w.heap.size, 0, none⟩) (Nat.le_refl _) _).setCell (p := ⟨w.heap.size, 1, none⟩) (Nat.le_refl _) _⟩
          · obtain rfl : m = N := by omega
            have g1 : ¬ (m : Int) < (m : Int) := by omega
            have HBW := hide hbw
            clear hbw
            go_wp2
            go_quiet (fail)
            have HBN := hide (show Below W3.heap.size W3 (wr.drewN nq) from bdrew2 HBW.out nq)
            generalize wr.drewN nq = wv at *
            have BXv := hide (BX3.out.below HBN.out)
            have y0 : wv.cell? ⟨w.heap.size, 0, none⟩ = some (.int .i64 0) := BXv.out.cell 0
            have y1 : wv.cell? ⟨w.heap.size, 1, none⟩ = some (.int .i64 0) := BXv.out.cell 1
            have y2 := BXv.out.frozen 0
            have y3 := BXv.out.frozen 1
            have y4 := BXv.out.lt
            go_wp2
            refine bodyPost_ret (results_pos2 rfl rfl ((BXv.out.set 0 _).set 1 _)) rfl ?_
            exact ⟨_, _, rfl, ⟨a, k, f, en, m, m, HCA.out, HRL.out, rfl, by rw [HZ2.out]; exact HCL.out, hf, HE.out, by rw [HLT.out]; exact NP.out, by rw [HLT.out]; exact NQ.out, Nat.le_refl _, by rw [HLT.out, HSTE.out]; exact HNO.out, fun h => absurd h (Nat.lt_irrefl _), by rw [HLT.out]⟩, ((bafter HB3.out HBN.out (Nat.le_refl _)).setCell (p := ⟨w.heap.size, 0, none⟩) (Nat.le_refl _) _).setCell (p := ⟨w.heap.size, 1, none⟩) (Nat.le_refl _) _⟩

theorem rline_line {T : List Nat} {a : Int} {i i' : Nat} (h : RLine (linesL T) a i) (h' : LineOf (linesL T) a i') (ha : 0 ≤ a) : i = i' := by
  obtain ⟨h1, h2, h3⟩ := h
  obtain ⟨g1, g2, g3⟩ := h'
  have hr := (linesTo_spec T T.length).1
  have hr' : ∀ i j, i < j → j < (linesL T).length → nthI (linesL T) i < nthI (linesL T) j := hr
  rcases Nat.lt_trichotomy i i' with g | g | g
  · exfalso
    have hi' : i' < (linesL T).length := by rcases g1 with q | q <;> omega
    have k1 := h3 (by omega)
    have k2 := g2 (by omega)
    rcases Nat.eq_or_lt_of_le (show i + 1 ≤ i' by omega) with q | q
    · rw [q] at k1; omega
    · have := hr' (i + 1) i' q hi'; omega
  · exact g
  · exfalso
    have k1 := g3 i g h1
    have k2 := h2 (by omega)
    omega

/-- The two are the same. -/
theorem place_same {T : List Nat} {N : Nat} (hT : ∀ x ∈ T, x < 256) (h1 : ∀ k, k < N → posL T k < T.length) (h2 : posL T N = T.length) (hv : AllLet T N) {at' ln un ln' un' : Int}
    (h : PlaceR T (linesL T) at' ln un) (h' : RPlaceR T (linesL T) at' ln' un') : ln = ln' ∧ un = un' := by
  rcases h with ⟨h, _⟩ | ⟨a, i, f, en, M, k, _, ha, hl, rfl, hc, hE, n1, n2, hk, k1, k2, rfl⟩
  · have := (linesTo_pos T T.length).1
    unfold linesL at h
    rw [h] at this
    simp at this
  obtain ⟨a', i', f', en', M', k', ha', hl', rfl, hc', hf', hE', m1, m2, hk', q1, q2, rfl⟩ := h'
  obtain rfl : a = a' := by omega
  obtain rfl : i' = i := rline_line hl' hl (by omega)
  obtain rfl : f = f' := by omega
  obtain rfl := isEnd_one hE hE'
  have haT : a ≤ T.length := by obtain ⟨a2, e, hle⟩ := clamp_nat at' T.length; omega
  obtain ⟨f0, ef, hi, hfa, hfl, hf0, hno⟩ := line_at hl haT
  rw [ef, clamp_in hfl] at hc
  obtain rfl : f0 = f := by omega
  obtain ⟨j0, hj0, ej0⟩ : ∃ j0, j0 ≤ N ∧ posL T j0 = f0 := by
    rcases hf0 with g | g
    · exact ⟨0, Nat.zero_le _, g.symm⟩
    · by_cases g0 : f0 = 0
      · exact ⟨0, Nat.zero_le _, g0.symm⟩
      · obtain ⟨q, hq, _, e⟩ := end_letter hT h1 h2 (p := f0 - 1) (by omega) (brk_byte g)
        exact ⟨q + 1, by omega, by omega⟩
  obtain ⟨je, hje, eje⟩ : ∃ je, je ≤ N ∧ posL T je = en := by
    by_cases g : en < T.length
    · obtain ⟨q, hq, e, _⟩ := end_letter hT h1 h2 g (hE.2.2.2 g)
      exact ⟨q, by omega, e⟩
    · exact ⟨N, Nat.le_refl _, by have := hE.2.1; omega⟩
  subst ej0 eje
  have h0e : j0 ≤ je := pos_le_iff hT h1 hj0 hje hE.1
  have hlet := line_letters hT h1 h2 hv h0e hje
  have hlet2 := line_letters hT h1 h2 hv hj0 (Nat.le_refl N)
  have hdr : lineL T (posL T j0) (posL T N) = T.drop (posL T j0) := by
    unfold lineL
    rw [h2]
    exact List.take_of_length_le (by simp)
  rw [hdr] at hlet2
  have hll := lineL_length hE.1 hE.2.1
  have hM : M = je - j0 := by
    have e := (hlet (je - j0) (by omega)).1
    rw [show j0 + (je - j0) = je by omega] at e
    rcases Nat.lt_trichotomy M (je - j0) with g | g | g
    · have e2 := (hlet M (by omega)).1
      have := pos_mono hT h1 (show j0 + M < je by omega) hje
      omega
    · exact g
    · have := n1 (je - j0) g
      omega
  have hM' : M' = N - j0 := by
    have hdl : (T.drop (posL T j0)).length = T.length - posL T j0 := by simp
    have e := (hlet2 (N - j0) (by omega)).1
    rw [show j0 + (N - j0) = N by omega] at e
    rcases Nat.lt_trichotomy M' (N - j0) with g | g | g
    · have e2 := (hlet2 M' (by omega)).1
      have := h1 (j0 + M') (by omega)
      omega
    · exact g
    · have := m1 (N - j0) g
      omega
  have hmle : ∀ {x y : Nat}, x ≤ y → y ≤ N → posL T x ≤ posL T y := fun {x y} hxy hy => by
    rcases Nat.eq_or_lt_of_le hxy with g | g
    · rw [g]; exact Nat.le_refl _
    · exact Nat.le_of_lt (pos_mono hT h1 g hy)
  have hkk : k = k' := by
    rcases Nat.lt_trichotomy k k' with g | g | g
    · exfalso
      have hq := q1 k g
      rw [← (hlet2 (k + 1) (by omega)).1] at hq
      have hke : k < M := by
        refine Nat.lt_of_not_le fun hge => ?_
        have : je < j0 + (k + 1) := by omega
        have := pos_mono hT h1 this (by omega)
        omega
      have hq2 := k2 hke
      rw [← (hlet (k + 1) (by omega)).1] at hq2
      omega
    · exact g
    · exfalso
      have hq := k1 k' g
      rw [← (hlet (k' + 1) (by omega)).1] at hq
      have hq2 := q2 (by omega)
      rw [← (hlet2 (k' + 1) (by omega)).1] at hq2
      have := hmle (show j0 + (k' + 1) ≤ je by omega) hje
      omega
  subst hkk
  refine ⟨rfl, ?_⟩
  have e1 := (hlet k (by omega)).2
  have e2 := (hlet2 k (by omega)).2
  omega

set_option maxHeartbeats 8000000 in
theorem doffset_calls (w : World) (D : Nat) (ver : Int) (T : List Nat) (E : List Ed) (p u : Int) (h : DocIs w D ver T E) (hK : Know w) (hlen : T.length ≤ 1000000000) :
    Calls Tryd.prog 19 #[.pointer (some ⟨D, 0, none⟩), .agg #[.int .i64 p, .int .i64 u]] w fun e w' => ∃ r : Int, e = .returned (.int .i64 r) ∧ OffR T (linesL T) p u r ∧ Below w.heap.size w w' := by
  obtain ⟨ao, c, lo, ln, lc, eo, ec, h1, h2, h3, h4, h5, h6, h7, h8⟩ := h
  have H1 := hide h1
  have H2 := hide h2
  have HK := hide hK
  have lD : D < w.heap.size := BoxC.lt h1
  clear h1 h2 h3 h4 h5 h6 h7 h8 hK
  obtain ⟨W1, hW1⟩ : ∃ W1, w.alloc (.cells #[.int .i64 p, .int .i64 u] 48) = W1 := ⟨_, rfl⟩
  have k1 : Below w.heap.size w W1 := by rw [← hW1]; exact bel _ _
  have x1 : BoxC W1 w.heap.size 48 #[.int .i64 p, .int .i64 u] := by rw [← hW1]; exact BoxC.new _ _ _
  have HW1 := hide hW1
  have K1 := hide k1
  have X1 := hide x1
  have G1 := hide (BoxC.below H1.out k1)
  have HSS : Hid (∀ Y : World, BoxC Y D 43 #[.int .i64 ver, .slice ao T.length c, .slice lo ln lc, .slice eo E.length ec] → BoxC Y w.heap.size 48 #[.int .i64 p, .int .i64 u] → (fun X' : World => X'.cell? ⟨D, 1, none⟩ = some (.slice ao T.length c) ∧ X'.cell? ⟨D, 2, none⟩ = some (.slice lo ln lc) ∧ X'.cell? ⟨w.heap.size, 0, none⟩ = some (.int .i64 p) ∧ X'.cell? ⟨w.heap.size, 1, none⟩ = some (.int .i64 u)) Y) := fun Y k1 k2 => ⟨k1.cell 1, k1.cell 2, k2.cell 0, k2.cell 1⟩
  clear hW1 k1 x1
  go_enter Tryd.func19, Tryd.ntmps19
  go_upto_region 3 with fail
  rw [HW1.out]
  clear HW1
  refine wp_region_held_drew (S := fun X' : World => X'.cell? ⟨D, 1, none⟩ = some (.slice ao T.length c) ∧ X'.cell? ⟨D, 2, none⟩ = some (.slice lo ln lc) ∧ X'.cell? ⟨w.heap.size, 0, none⟩ = some (.int .i64 p) ∧ X'.cell? ⟨w.heap.size, 1, none⟩ = some (.int .i64 u)) (by kernel_rfl) (HSS.out _ G1.out X1.out) (fun hHeld => ?_)
  refine takeD (i := 0) (v := ?v1) (some 7) rfl (by kernel_rfl) (by kernel_rfl) (by kernel_rfl) (fun _ _ _ h => h) (Or.inl ⟨by rfl, ?hy1⟩) (by assumption) (by rfl) ?rest1
  case hy1 => first | (intro w hSw; (try dsimp only at hSw); obtain ⟨q0, q1, q2, q3⟩ := hSw; go_simp; done) | (intro w hSw; (try dsimp only at hSw); obtain ⟨q0, q1, q2, q3⟩ := hSw; go_simp; with_reducible rfl)
  try simp only [Act.put, List.setIfInBounds_toArray, List.set_cons_zero, List.set_cons_succ]
  refine takeD (i := 1) (v := ?v2) (some 8) rfl (by kernel_rfl) (by kernel_rfl) (by kernel_rfl) (fun _ _ _ h => h) (Or.inl ⟨by rfl, ?hy2⟩) (by assumption) (by rfl) ?rest2
  case hy2 => first | (intro w hSw; (try dsimp only at hSw); obtain ⟨q0, q1, q2, q3⟩ := hSw; go_simp; done) | (intro w hSw; (try dsimp only at hSw); obtain ⟨q0, q1, q2, q3⟩ := hSw; go_simp; with_reducible rfl)
  try simp only [Act.put, List.setIfInBounds_toArray, List.set_cons_zero, List.set_cons_succ]
  refine takeD (i := 2) (v := ?v3) (some 9) rfl (by kernel_rfl) (by kernel_rfl) (by kernel_rfl) (fun _ _ _ h => h) (Or.inl ⟨by rfl, ?hy3⟩) (by assumption) (by rfl) ?rest3
  case hy3 => first | (intro w hSw; (try dsimp only at hSw); obtain ⟨q0, q1, q2, q3⟩ := hSw; go_simp; done) | (intro w hSw; (try dsimp only at hSw); obtain ⟨q0, q1, q2, q3⟩ := hSw; go_simp; with_reducible rfl)
  try simp only [Act.put, List.setIfInBounds_toArray, List.set_cons_zero, List.set_cons_succ]
  refine takeD (i := 3) (v := ?v4) (some 10) rfl (by kernel_rfl) (by kernel_rfl) (by kernel_rfl) (fun _ _ _ h => h) (Or.inl ⟨by rfl, ?hy4⟩) (by assumption) (by rfl) ?rest4
  case hy4 => first | (intro w hSw; (try dsimp only at hSw); obtain ⟨q0, q1, q2, q3⟩ := hSw; go_simp; done) | (intro w hSw; (try dsimp only at hSw); obtain ⟨q0, q1, q2, q3⟩ := hSw; go_simp; with_reducible rfl)
  try simp only [Act.put, List.setIfInBounds_toArray, List.set_cons_zero, List.set_cons_succ]
  refine takeD (i := 4) (v := ?v5) (some 11) rfl (by kernel_rfl) (by kernel_rfl) (by kernel_rfl) (fun _ _ _ h => h) (Or.inl ⟨by rfl, ?hy5⟩) (by assumption) (by rfl) ?rest5
  case hy5 => first | (intro w hSw; (try dsimp only at hSw); obtain ⟨q0, q1, q2, q3⟩ := hSw; go_simp; done) | (intro w hSw; (try dsimp only at hSw); obtain ⟨q0, q1, q2, q3⟩ := hSw; go_simp; with_reducible rfl)
  try simp only [Act.put, List.setIfInBounds_toArray, List.set_cons_zero, List.set_cons_succ]
  refine wpAnyH_ready (rs := [5]) (by kernel_rfl) (by simp) ?_
  refine AllReadyH.cons rfl (fun K hK => ?_) AllReadyH.nil
  go_simp
  refine (boffset_calls _ ao c lo ln lc T p u (H2.out.below K1.out.drew) (HK.out.below K1.out.drew) hlen).mono ?_
  rintro e w2 ⟨r, rfl, hr, hb2⟩
  have HR := hide hr
  have HB2 := hide (show Below w.heap.size w w2 from bafter K1.out.drew hb2 (Nat.le_refl _))
  have hq := HSS.out w2 (BoxC.below (W := W1.drew) G1.out hb2) (BoxC.below (W := W1.drew) X1.out hb2)
  clear hr hb2
  go_wp2_with fail
  refine hK.out _ _ hq (fun _ => ?_)
  clear hK K
  try simp only [Act.put, List.setIfInBounds_toArray, List.set_cons_zero, List.set_cons_succ]
  refine wpAnyH_ready (rs := [6]) (by kernel_rfl) (by simp) ?_
  refine AllReadyH.cons rfl (fun K hK => ?_) AllReadyH.nil
  go_simp
  refine hK.out _ _ hq (fun _ => ?_)
  clear hK K
  try simp only [Act.put, List.setIfInBounds_toArray, List.set_cons_zero, List.set_cons_succ]
  refine wpAnyH_done (by kernel_rfl) ?_ _
  go_wp2
  go_ret
  exact ⟨r, rfl, HR.out, HB2.out⟩

set_option maxHeartbeats 8000000 in
theorem dplace_calls (w : World) (D : Nat) (ver : Int) (T : List Nat) (E : List Ed) (at' : Int) (h : DocIs w D ver T E) (hK : Know w) (hlen : T.length ≤ 1000000) :
    Calls Tryd.prog 21 #[.pointer (some ⟨D, 0, none⟩), .int .i64 at'] w fun e w' => ∃ p u : Int, e = .returned (.agg #[.int .i64 p, .int .i64 u]) ∧ PlaceR T (linesL T) at' p u ∧ Below w.heap.size w w' := by
  obtain ⟨ao, c, lo, ln, lc, eo, ec, h1, h2, h3, h4, h5, h6, h7, h8⟩ := h
  have H1 := hide h1
  have H2 := hide h2
  have HK := hide hK
  have lD : D < w.heap.size := BoxC.lt h1
  clear h1 h2 h3 h4 h5 h6 h7 h8 hK
  obtain ⟨W1, hW1⟩ : ∃ W1, w.alloc (.cells #[.int .i64 0, .int .i64 0] 48) = W1 := ⟨_, rfl⟩
  have k1 : Below w.heap.size w W1 := by rw [← hW1]; exact bel _ _
  have x1 : BoxC W1 w.heap.size 48 #[.int .i64 0, .int .i64 0] := by rw [← hW1]; exact BoxC.new _ _ _
  have HW1 := hide hW1
  have K1 := hide k1
  have X1 := hide x1
  have G1 := hide (BoxC.below H1.out k1)
  have HSS : Hid (∀ Y : World, BoxC Y D 43 #[.int .i64 ver, .slice ao T.length c, .slice lo ln lc, .slice eo E.length ec] → (fun X' : World => X'.cell? ⟨D, 1, none⟩ = some (.slice ao T.length c) ∧ X'.cell? ⟨D, 2, none⟩ = some (.slice lo ln lc)) Y) := fun Y k1 => ⟨k1.cell 1, k1.cell 2⟩
  have HLL := hide (show (linesL T).length ≤ 1000000001 from Nat.le_trans (linesTo_length T T.length) (by omega))
  clear hW1 k1 x1
  go_enter Tryd.func21, Tryd.ntmps21
  go_upto_region 3 with fail
  rw [HW1.out]
  clear HW1
  refine wp_region_held_drew (S := fun X' : World => X'.cell? ⟨D, 1, none⟩ = some (.slice ao T.length c) ∧ X'.cell? ⟨D, 2, none⟩ = some (.slice lo ln lc)) (by kernel_rfl) (HSS.out _ G1.out) (fun hHeld => ?_)
  refine takeD (i := 0) (v := ?v6) (some 8) rfl (by kernel_rfl) (by kernel_rfl) (by kernel_rfl) (fun _ _ _ h => h) (Or.inl ⟨by rfl, ?hy6⟩) (by assumption) (by rfl) ?rest6
  case hy6 => first | (intro w hSw; (try dsimp only at hSw); obtain ⟨q0, q1⟩ := hSw; go_simp; done) | (intro w hSw; (try dsimp only at hSw); obtain ⟨q0, q1⟩ := hSw; go_simp; with_reducible rfl)
  try simp only [Act.put, List.setIfInBounds_toArray, List.set_cons_zero, List.set_cons_succ]
  refine takeD (i := 1) (v := ?v7) (some 9) rfl (by kernel_rfl) (by kernel_rfl) (by kernel_rfl) (fun _ _ _ h => h) (Or.inl ⟨by rfl, ?hy7⟩) (by assumption) (by rfl) ?rest7
  case hy7 => first | (intro w hSw; (try dsimp only at hSw); obtain ⟨q0, q1⟩ := hSw; go_simp; done) | (intro w hSw; (try dsimp only at hSw); obtain ⟨q0, q1⟩ := hSw; go_simp; with_reducible rfl)
  try simp only [Act.put, List.setIfInBounds_toArray, List.set_cons_zero, List.set_cons_succ]
  refine takeD (i := 2) (v := ?v8) (some 10) rfl (by kernel_rfl) (by kernel_rfl) (by kernel_rfl) (fun _ _ _ h => h) (Or.inl ⟨by rfl, ?hy8⟩) (by assumption) (by rfl) ?rest8
  case hy8 => first | (intro w hSw; (try dsimp only at hSw); obtain ⟨q0, q1⟩ := hSw; go_simp; done) | (intro w hSw; (try dsimp only at hSw); obtain ⟨q0, q1⟩ := hSw; go_simp; with_reducible rfl)
  try simp only [Act.put, List.setIfInBounds_toArray, List.set_cons_zero, List.set_cons_succ]
  refine takeD (i := 3) (v := ?v9) (some 11) rfl (by kernel_rfl) (by kernel_rfl) (by kernel_rfl) (fun _ _ _ h => h) (Or.inl ⟨by rfl, ?hy9⟩) (by assumption) (by rfl) ?rest9
  case hy9 => first | (intro w hSw; (try dsimp only at hSw); obtain ⟨q0, q1⟩ := hSw; go_simp; done) | (intro w hSw; (try dsimp only at hSw); obtain ⟨q0, q1⟩ := hSw; go_simp; with_reducible rfl)
  try simp only [Act.put, List.setIfInBounds_toArray, List.set_cons_zero, List.set_cons_succ]
  refine takeD (i := 4) (v := ?v10) (some 12) rfl (by kernel_rfl) (by kernel_rfl) (by kernel_rfl) (fun _ _ _ h => h) (Or.inl ⟨by rfl, ?hy10⟩) (by assumption) (by rfl) ?rest10
  case hy10 => first | (intro w hSw; (try dsimp only at hSw); obtain ⟨q0, q1⟩ := hSw; go_simp; done) | (intro w hSw; (try dsimp only at hSw); obtain ⟨q0, q1⟩ := hSw; go_simp; with_reducible rfl)
  try simp only [Act.put, List.setIfInBounds_toArray, List.set_cons_zero, List.set_cons_succ]
  refine takeD (i := 5) (v := ?v11) (some 13) rfl (by kernel_rfl) (by kernel_rfl) (by kernel_rfl) (fun _ _ _ h => h) (Or.inl ⟨by rfl, ?hy11⟩) (by assumption) (by rfl) ?rest11
  case hy11 => first | (intro w hSw; (try dsimp only at hSw); obtain ⟨q0, q1⟩ := hSw; go_simp; done) | (intro w hSw; (try dsimp only at hSw); obtain ⟨q0, q1⟩ := hSw; go_simp; with_reducible rfl)
  try simp only [Act.put, List.setIfInBounds_toArray, List.set_cons_zero, List.set_cons_succ]
  refine takeD (i := 6) (v := ?v12) (some 14) rfl (by kernel_rfl) (by kernel_rfl) (by kernel_rfl) (fun _ _ _ h => h) (Or.inl ⟨by rfl, ?hy12⟩) (by assumption) (by rfl) ?rest12
  case hy12 => first | (intro w hSw; (try dsimp only at hSw); obtain ⟨q0, q1⟩ := hSw; go_simp; done) | (intro w hSw; (try dsimp only at hSw); obtain ⟨q0, q1⟩ := hSw; go_simp; with_reducible rfl)
  try simp only [Act.put, List.setIfInBounds_toArray, List.set_cons_zero, List.set_cons_succ]
  refine takeD (i := 7) (v := ?v13) (some 15) rfl (by kernel_rfl) (by kernel_rfl) (by kernel_rfl) (fun _ _ _ h => h) (Or.inl ⟨by rfl, ?hy13⟩) (by assumption) (by rfl) ?rest13
  case hy13 => first | (intro w hSw; (try dsimp only at hSw); obtain ⟨q0, q1⟩ := hSw; go_simp; done) | (intro w hSw; (try dsimp only at hSw); obtain ⟨q0, q1⟩ := hSw; go_simp; with_reducible rfl)
  try simp only [Act.put, List.setIfInBounds_toArray, List.set_cons_zero, List.set_cons_succ]
  refine takeD (i := 8) (v := ?v14) (some 16) rfl (by kernel_rfl) (by kernel_rfl) (by kernel_rfl) (fun _ _ _ h => h) (Or.inl ⟨by rfl, ?hy14⟩) (by assumption) (by rfl) ?rest14
  case hy14 => first | (intro w hSw; (try dsimp only at hSw); obtain ⟨q0, q1⟩ := hSw; go_simp; done) | (intro w hSw; (try dsimp only at hSw); obtain ⟨q0, q1⟩ := hSw; go_simp; with_reducible rfl)
  try simp only [Act.put, List.setIfInBounds_toArray, List.set_cons_zero, List.set_cons_succ]
  refine takeD (i := 9) (v := ?v15) (some 17) rfl (by kernel_rfl) (by kernel_rfl) (by kernel_rfl) (fun _ _ _ h => h) (Or.inl ⟨by rfl, ?hy15⟩) (by assumption) (by rfl) ?rest15
  case hy15 => first | (intro w hSw; (try dsimp only at hSw); obtain ⟨q0, q1⟩ := hSw; go_simp; done) | (intro w hSw; (try dsimp only at hSw); obtain ⟨q0, q1⟩ := hSw; go_simp; with_reducible rfl)
  try simp only [Act.put, List.setIfInBounds_toArray, List.set_cons_zero, List.set_cons_succ]
  refine takeD (i := 10) (v := ?v16) (some 18) rfl (by kernel_rfl) (by kernel_rfl) (by kernel_rfl) (fun _ _ _ h => h) (Or.inl ⟨by rfl, ?hy16⟩) (by assumption) (by rfl) ?rest16
  case hy16 => first | (intro w hSw; (try dsimp only at hSw); obtain ⟨q0, q1⟩ := hSw; go_simp; done) | (intro w hSw; (try dsimp only at hSw); obtain ⟨q0, q1⟩ := hSw; go_simp; with_reducible rfl)
  try simp only [Act.put, List.setIfInBounds_toArray, List.set_cons_zero, List.set_cons_succ]
  refine wpAnyH_ready (rs := [11]) (by kernel_rfl) (by simp) ?_
  refine AllReadyH.cons rfl (fun K hK => ?_) AllReadyH.nil
  go_simp
  refine (place_calls _ ao c T _ (linesL T) at' (H2.out.below K1.out.drew).1 (H2.out.below K1.out.drew).2 (HK.out.below K1.out.drew) (by omega) HLL.out).mono ?_
  rintro e w2 ⟨p, u, rfl, hr, hb2⟩
  have HR := hide hr
  have HB2 := hide (show Below w.heap.size w w2 from bafter K1.out.drew hb2 (Nat.le_refl _))
  have G2 := hide (BoxC.below (W := W1.drew) G1.out hb2)
  have X2 := hide (BoxC.below (W := W1.drew) X1.out hb2)
  clear hr hb2
  go_wp2_with fail
  refine hK.out _ _ (HSS.out _ G2.out) (fun _ => ?_)
  clear hK K
  try simp only [Act.put, List.setIfInBounds_toArray, List.set_cons_zero, List.set_cons_succ]
  refine wpAnyH_ready (rs := [12]) (by kernel_rfl) (by simp) ?_
  refine AllReadyH.cons rfl (fun K hK => ?_) AllReadyH.nil
  have t0 : w2.cell? ⟨w.heap.size, 0, none⟩ = some (.int .i64 0) := X2.out.cell 0
  have t1 : w2.cell? ⟨w.heap.size, 1, none⟩ = some (.int .i64 0) := X2.out.cell 1
  have t2 := X2.out.frozen 0
  have t3 := X2.out.frozen 1
  have t4 := X2.out.lt
  go_simp
  have ne0 : D ≠ w.heap.size := by omega
  refine hK.out _ _ (HSS.out _ ((G2.out.other ne0 0 _).other ne0 1 _)) (fun _ => ?_)
  clear hK K
  try simp only [Act.put, List.setIfInBounds_toArray, List.set_cons_zero, List.set_cons_succ]
  refine wpAnyH_done (by kernel_rfl) ?_ _
  clear t0 t1 t2 t3 t4
  go_wp2
  refine bodyPost_ret (results_pos2 rfl rfl ((X2.out.set 0 _).set 1 _)) rfl ?_
  exact ⟨p, u, rfl, HR.out, (HB2.out.setCell (p := ⟨w.heap.size, 0, none⟩) (Nat.le_refl _) _).setCell (p := ⟨w.heap.size, 1, none⟩) (Nat.le_refl _) _⟩

end Go.Proofs.YthhpfdjcggfhaaaDoor
