/- Whether parts are in their one form: isOneForm. -/
import Derived.Test.YtbjolmgobeagoaaGreatDoorLnMem
import Derived.BigQuiet
namespace Go.Proofs.YtbjolmgobeagoaaGreatDoor
set_option linter.unusedVariables false
set_option linter.unusedSimpArgs false
set_option maxRecDepth 100000
open Go Go.RowKit Go.Shelf Go.Lib

theorem bdrewN {n : Nat} {w W : World} (h : Below n w W) (k : Nat) : Below n w (W.drewN k) := by
  induction k with
  | zero => exact h
  | succ k ih => exact ih.drew
theorem wrapN {z : Int} (h1 : 0 ≤ z) (h2 : z ≤ 9223372036854775807) : IntKind.i64.wrap z = z := by
  simp [IntKind.wrap, IntKind.signed, IntKind.bits]
  omega

theorem limbs_same {W : World} {v : Value} {xs ys : List Nat} (h : Limbs W v xs) (k : Limbs W v ys) : xs = ys := by
  obtain ⟨ao, cap, rfl, h1, h2, h3, h4⟩ := h
  obtain ⟨bo, dap, e, k1, k2, k3, k4⟩ := k
  simp only [Value.slice.injEq] at e
  obtain ⟨rfl, hl, rfl⟩ := e
  apply List.ext_getElem hl
  intro i hi hj
  obtain ⟨b, o, e1, c1⟩ := h4 i hi
  obtain ⟨b', o', e2, c2⟩ := k4 i hj
  cases e1
  cases e2
  rw [c1] at c2
  simp only [Option.some.injEq, Value.int.injEq, true_and] at c2
  simp only [nth, List.getElem?_eq_getElem hi, List.getElem?_eq_getElem hj, Option.getD_some] at c2
  omega

/-- The first so many parts are in the one form. -/
def One (W : World) (M : List Pt) (k : Nat) : Prop := NF (ps (M.take k)) ∧ GoodR W (M.take k)
theorem one_zero (W : World) (M : List Pt) : One W M 0 := ⟨by simp [ps]; exact NF.nil, fun m hm => by simp at hm⟩
theorem one_down {W : World} {M : List Pt} {j k : Nat} (h : One W M k) (hj : j ≤ k) : One W M j := by
  have e : M.take j = (M.take k).take j := by rw [List.take_take, Nat.min_eq_left hj]
  constructor
  · unfold One at h
    rw [e]
    unfold ps
    rw [List.map_take]
    exact ⟨h.1.1.sublist (List.take_sublist _ _), fun p hp => h.1.2 p (List.mem_of_mem_take hp)⟩
  · intro m hm
    rw [e] at hm
    exact h.2 m (List.mem_of_mem_take hm)
theorem one_step {W : World} {M : List Pt} {k : Nat} {m : Pt} (h : One W M k) (hm : M[k]? = some m) (h1 : Rng m.1 ∧ BRes W (.agg #[.bool m.2.1, m.2.2.1]) m.2.2.2) (h0 : m.2.2.2 ≠ 0) (hu : ∀ k1 m1, k = k1 + 1 → M[k1]? = some m1 → m1.1 < m.1) : One W M (k + 1) := by
  have hlt : k < M.length := (List.getElem?_eq_some_iff.1 hm).1
  have et : M.take (k + 1) = M.take k ++ [m] := by rw [List.take_add_one, hm]; rfl
  refine ⟨⟨?_, ?_⟩, ?_⟩
  · rw [et]
    unfold ps
    rw [List.map_append]
    refine List.pairwise_append.2 ⟨h.1.1, by simp, fun a ha b hb => ?_⟩
    simp only [List.map_cons, List.map_nil, List.mem_singleton] at hb
    subst hb
    show a.1 < m.1
    cases k with
    | zero => simp at ha
    | succ k =>
      have hk : k < M.length := by omega
      have hl := hu k M[k] rfl (List.getElem?_eq_getElem hk)
      have e2 : M.take (k + 1) = M.take k ++ [M[k]] := by rw [List.take_add_one, List.getElem?_eq_getElem hk]; rfl
      rw [e2, List.map_append] at ha
      rcases List.mem_append.1 ha with ha | ha
      · have hp := h.1.1
        rw [e2] at hp
        unfold ps at hp
        rw [List.map_append] at hp
        have := (List.pairwise_append.1 hp).2.2 a ha (pt M[k]) (by simp)
        have e3 : (pt M[k]).1 = M[k].1 := rfl
        omega
      · simp only [List.map_cons, List.map_nil, List.mem_singleton] at ha
        subst ha
        exact hl
  · intro p hp
    rw [et] at hp
    unfold ps at hp
    rw [List.map_append] at hp
    rcases List.mem_append.1 hp with hp | hp
    · exact h.1.2 p hp
    · simp only [List.map_cons, List.map_nil, List.mem_singleton] at hp
      subst hp
      exact h0
  · intro x hx
    rw [et] at hx
    rcases List.mem_append.1 hx with hx | hx
    · exact h.2 x hx
    · simp only [List.mem_singleton] at hx
      subst hx
      exact h1

theorem tl_last : ∀ {xs : List Nat}, xs ≠ [] → nth xs (xs.length - 1) ≠ 0 → tl xs = xs.length
  | [], h, _ => absurd rfl h
  | [x], _, h => by
    have : x ≠ 0 := by simpa [nth] using h
    simp [tl, this]
  | x :: y :: r, _, h => by
    have h1 : tl (y :: r) = (y :: r).length := tl_last (by simp) (by
      have e : nth (x :: y :: r) ((x :: y :: r).length - 1) = nth (y :: r) ((y :: r).length - 1) := by simp [nth]
      rw [e] at h
      exact h)
    have h2 : tl (x :: y :: r) = if tl (y :: r) = 0 then (if x = 0 then 0 else 1) else tl (y :: r) + 1 := rfl
    rw [h2, h1, if_neg (by simp)]
    simp
theorem last_tl : ∀ {xs : List Nat}, xs ≠ [] → tl xs = xs.length → nth xs (xs.length - 1) ≠ 0
  | [], h, _ => absurd rfl h
  | [x], _, h => by
    intro e
    have : x = 0 := by simpa [nth] using e
    simp [tl, this] at h
  | x :: y :: r, _, h => by
    have h2 : tl (x :: y :: r) = if tl (y :: r) = 0 then (if x = 0 then 0 else 1) else tl (y :: r) + 1 := rfl
    have h1 : tl (y :: r) = (y :: r).length := by
      rw [h2] at h
      by_cases h0 : tl (y :: r) = 0
      · rw [if_pos h0] at h
        simp only [List.length_cons] at h
        split at h <;> omega
      · rw [if_neg h0] at h
        simp only [List.length_cons] at h ⊢
        omega
    have e : nth (x :: y :: r) ((x :: y :: r).length - 1) = nth (y :: r) ((y :: r).length - 1) := by simp [nth]
    rw [e]
    exact last_tl (by simp) h1

/-- A part's number, as it lies there, is in its one form if its last limb isn't 0. -/
theorem top_res {W : World} {neg : Bool} {mv : Value} {xs : List Nat} {z : Int} (h : Limbs W mv xs) (hz : z = sgn neg (val R xs)) (h0 : xs ≠ []) (ht : nth xs (xs.length - 1) ≠ 0) : BRes W (.agg #[.bool neg, mv]) z ∧ z ≠ 0 := by
  have hc : Canon R xs := ⟨h.small, tl_last h0 ht⟩
  have hv : val R xs ≠ 0 := fun e => h0 (hc.val_zero R_pos e)
  have := bres_mk (W := W) (mv := mv) (n := val R xs) ⟨xs, h, hc, rfl⟩ neg neg (by simp [hv])
  rw [← hz] at this
  refine ⟨this, ?_⟩
  rw [hz]
  unfold sgn
  split <;> omega

/-- And only so. -/
theorem res_top {W : World} {M : List Pt} {k : Nat} {m : Pt} {xs : List Nat} (h : One W M (k + 1)) (hm : M[k]? = some m) (hx : Limbs W m.2.2.1 xs) : xs ≠ [] ∧ nth xs (xs.length - 1) ≠ 0 := by
  have hmem : m ∈ M.take (k + 1) := by
    rw [List.take_add_one, hm]
    simp
  obtain ⟨_, mv, e, ys, hy, hc, hv⟩ := h.2 m hmem
  have e2 : mv = m.2.2.1 := by
    simp only [Value.agg.injEq, Array.mk.injEq, List.cons.injEq, and_true] at e
    exact e.2.symm
  subst e2
  obtain rfl := limbs_same hx hy
  have hz : m.2.2.2 ≠ 0 := h.1.2 (pt m) (List.mem_map.2 ⟨m, hmem, rfl⟩)
  have h0 : xs ≠ [] := by
    rintro rfl
    have : val R [] = 0 := rfl
    omega
  exact ⟨h0, last_tl h0 hc.2⟩
theorem one_rising {W : World} {M : List Pt} {k : Nat} {m m1 : Pt} (h : One W M (k + 2)) (h1 : M[k]? = some m1) (hm : M[k + 1]? = some m) : m1.1 < m.1 := by
  have hp := h.1.1
  have e : M.take (k + 2) = M.take k ++ [m1, m] := by
    rw [show k + 2 = (k + 1) + 1 from rfl, List.take_add_one, List.take_add_one, h1, hm]
    simp
  rw [e] at hp
  unfold ps at hp
  rw [List.map_append] at hp
  have := (List.pairwise_append.1 hp).2.1
  simp only [List.map_cons, List.map_nil, List.pairwise_cons, List.mem_singleton, forall_eq] at this
  exact this.1

def IsoR (w : World) (M : List Pt) (b : Bool) : Prop := b = true ↔ One w M M.length
def IsoE (w : World) (M : List Pt) (e : Ending) (w' : World) : Prop := ∃ b, e = .returned (.bool b) ∧ IsoR w M b ∧ Below w.heap.size w w'

set_option maxHeartbeats 8000000 in
theorem iso_calls {w : World} {v : Value} {M : List Pt} (hr : RowP w v M) (hg : GoodA w M) (hlm : M.length ≤ 1048576) :
    Calls Tryz.prog 89 #[v] w fun e w' => IsoE w M e w' := by
  obtain ⟨ao, cap, rfl, h1, h2, h3⟩ := hr
  have H3 := hide h3
  have HG := hide hg
  clear h3 hg
  generalize hLn : M.length = Ln at *
  have HLN := hide hLn
  clear hLn
  go_enter Tryz.func89, Tryz.ntmps89
  go_wp2
  go_loopw [8] (fun iv wr => ∃ k : Nat, k ≤ Ln ∧ iv = .int .i64 (k : Int) ∧ One w M k ∧ Below w.heap.size w wr) (fun iv _ => Ln - (RowKit.intOf iv).toNat)
  case atStart => exact ⟨0, Nat.zero_le _, rfl, one_zero w M, Below.refl _ _⟩
  case round =>
    obtain ⟨k, hk, rfl, ho, hb⟩ := hrel
    have HO := hide ho
    have HB := hide hb
    clear ho hb
    by_cases hlt : k < Ln
    · obtain ⟨⟨vr, neg, mv, z⟩, hm⟩ : ∃ m, M[k]? = some m := ⟨_, List.getElem?_eq_getElem (by rw [HLN.out]; exact hlt)⟩
      obtain ⟨b, o, rfl, hc⟩ := H3.out k _ hm
      have hc' := hc.below HB.out
      obtain ⟨c0, c1, c2⟩ := hc'
      dsimp only at c0 c1 c2
      obtain ⟨hrg, neg', mv', n, e, ⟨xs, hx, hxl, rfl⟩, hz⟩ := HG.out _ (List.mem_of_getElem? hm)
      dsimp only at hrg e hz
      obtain ⟨rfl, rfl⟩ : neg = neg' ∧ mv = mv' := by
        simp only [Value.agg.injEq, Array.mk.injEq, List.cons.injEq, and_true, Value.bool.injEq] at e
        exact e
      clear e
      have HX := hide hx
      obtain ⟨ma, mc, rfl, x1, x2, x3, x4⟩ := hx
      have HM := hide hm
      have HZ := hide hz
      have HR := hide hrg
      have HC := hide hc
      clear hm hz hrg hc x3
      have d1 : (k : Int) < (Ln : Int) := by omega
      have d0 : (0 : Int) ≤ (k : Int) := by omega
      have lb : b < wr.heap.size := block_lt_of_cell c0
      have HNO : Hid (∀ P : Prop, (One w M (k + 1) → P) → (One w M M.length → P)) := fun P f h => f (one_down h (by rw [HLN.out]; omega))
      by_cases hL : xs.length = 0
      · rw [hL] at c2
        have HXN := hide (List.eq_nil_of_length_eq_zero hL)
        clear hL x4
        go_wp2
        go_quiet (fail)
        go_wp2
        go_ret
        exact ⟨false, rfl, ⟨fun h => (by cases h), HNO.out _ (fun h => absurd HXN.out (res_top h HM.out HX.out).1)⟩, bdrewN (HB.out.alloc HB.out.size _) _⟩
      · obtain ⟨t, ht⟩ : ∃ t, xs.length = t + 1 := ⟨xs.length - 1, by omega⟩
        obtain ⟨mb, mo, rfl, cx⟩ := x4 t (by omega)
        have hT : IntKind.i64.wrap ((xs.length : Int) - 1) = (t : Int) := by
          rw [wrapN (by omega) (by omega)]
          omega
        have t0 : (0 : Int) ≤ (t : Int) := by omega
        have t1 : (t : Int) < (xs.length : Int) := by omega
        have t2 : decide ((t : Int) < 0) = false := decide_eq_false (by omega)
        have cw : wr.cell? ⟨mb, mo + t, none⟩ = some (.int .u32 ((nth xs t : Nat) : Int)) := (HB.out.cell (p := ⟨mb, mo + t, none⟩) (block_lt_of_cell cx)).trans cx
        have lm : mb < wr.heap.size := block_lt_of_cell cw
        have HT := hide ht
        clear x4 cx ht hL
        by_cases hn0 : nth xs t = 0
        · rw [hn0] at cw
          have HN0 := hide hn0
          clear hn0
          go_wp2
          go_quiet (fail)
          go_wp2
          go_ret
          refine ⟨false, rfl, ⟨fun h => (by cases h), HNO.out _ (fun h => ?_)⟩, bdrewN (HB.out.alloc HB.out.size _) _⟩
          have := (res_top h HM.out HX.out).2
          rw [HT.out] at this
          exact absurd HN0.out this
        · have q1 : (((nth xs t : Nat) : Int) == 0) = false := beq_eq_false_iff_ne.2 (by omega)
          have HRES : Hid (BRes w (.agg #[.bool neg, .slice (some ⟨mb, mo, none⟩) xs.length mc]) z ∧ z ≠ 0) := top_res HX.out HZ.out (by
            intro e
            have := HT.out
            rw [e] at this
            simp at this) (by rw [HT.out]; exact hn0)
          have HN0 := hide hn0
          clear hn0
          generalize ((nth xs t : Nat) : Int) = xv at *
          by_cases hk0 : k = 0
          · have g1 : decide (0 < k) = false := decide_eq_false (by omega)
            have HK0 := hide hk0
            clear hk0
            go_wp2
            go_quiet (fail)
            go_wp2
            go_roundw
            case rel => exact ⟨k + 1, by omega, by go_num, one_step HO.out HM.out ⟨HR.out, HRES.out.1⟩ HRES.out.2 (fun k1 m1 e _ => absurd e (by rw [HK0.out]; omega)), bdrewN (HB.out.alloc HB.out.size _) _⟩
            case measure => simp [RowKit.intOf]; omega
          · obtain ⟨k1, hk1⟩ : ∃ k1, k = k1 + 1 := ⟨k - 1, by omega⟩
            have g1 : decide (0 < k) = true := decide_eq_true (by omega)
            have hW : IntKind.i64.wrap ((k : Int) - 1) = (k1 : Int) := by
              rw [wrapN (by omega) (by omega)]
              omega
            have e1 : (k1 : Int) < (Ln : Int) := by omega
            have e0 : (0 : Int) ≤ (k1 : Int) := by omega
            obtain ⟨⟨vr1, neg1, mv1, z1⟩, hm1⟩ : ∃ m, M[k1]? = some m := ⟨_, List.getElem?_eq_getElem (by rw [HLN.out]; omega)⟩
            obtain ⟨b', o', e', hc1⟩ := H3.out k1 _ hm1
            cases e'
            have f0 := (hc1.below HB.out).1
            dsimp only at f0
            have HM1 := hide hm1
            have HK1 := hide hk1
            clear hm1 hc1 hk1 hk0
            by_cases hge : vr ≤ vr1
            · have g2 : decide (vr ≤ vr1) = true := decide_eq_true hge
              have HGE := hide hge
              clear hge
              go_wp2
              go_quiet (fail)
              go_wp2
              go_ret
              refine ⟨false, rfl, ⟨fun h => (by cases h), HNO.out _ (fun h => ?_)⟩, bdrewN (HB.out.alloc HB.out.size _) _⟩
              have e2 := HK1.out
              subst e2
              have h5 := one_rising h HM1.out HM.out
              have h6 := HGE.out
              simp only at h5
              omega
            · have g2 : decide (vr ≤ vr1) = false := decide_eq_false hge
              have HGE := hide hge
              clear hge
              go_wp2
              go_quiet (fail)
              go_wp2
              go_roundw
              case rel =>
                refine ⟨k + 1, by omega, by go_num, one_step HO.out HM.out ⟨HR.out, HRES.out.1⟩ HRES.out.2 (fun k2 m2 e h2 => ?_), bdrewN (HB.out.alloc HB.out.size _) _⟩
                have e3 : k2 = k1 := by have := HK1.out; omega
                subst e3
                have h4 := HM1.out
                rw [h4] at h2
                cases h2
                have := HGE.out
                show vr1 < vr
                omega
              case measure => simp [RowKit.intOf]; omega
    · obtain rfl : k = Ln := by omega
      have d1 : ¬ (k : Int) < (k : Int) := by omega
      go_wp2
      go_ret
      exact ⟨true, rfl, ⟨fun _ => by rw [HLN.out]; exact HO.out, fun _ => rfl⟩, HB.out⟩

end Go.Proofs.YtbjolmgobeagoaaGreatDoor
