/- Json: the reference's Int. -/
import Derived.Test.YtcedcbonphgecaaDoorJInt
import Derived.Test.YtcedcbonphgecaaDoorJTree
namespace Go.Proofs.YtcedcbonphgecaaDoor
set_option linter.unusedVariables false
set_option linter.unusedSimpArgs false
set_option maxRecDepth 100000
open Go Go.RowKit Go.Shelf Go.Lib

/-- The byte of a string. -/
theorem str_at {T : List Nat} (hT : ∀ x ∈ T, x < 256) (W : World) {j : Nat} (h : j < T.length) : (Instr.index 9 (.string (strOf T)) (.int .i64 (j : Int))).run Tryd.prog W = .ok (.int .u8 ((nth T j : Nat) : Int)) W := by
  rw [run_index_string W 9 (strOf T) .i64 _ Tryd.underlying9, dif_pos ⟨by omega, by rw [strOf_size]; omega⟩]
  have hx : T[j] < 256 := hT _ (List.getElem_mem h)
  have e : ∀ (l : List UInt8) (hj : j < (ByteArray.mk l.toArray).size), (ByteArray.mk l.toArray)[j] = l[j]'(by simpa [ByteArray.size] using hj) := fun l hj => rfl
  unfold strOf
  simp only [Int.toNat_natCast, e, List.getElem_map, nth, List.getElem?_eq_getElem h, Option.getD_some]
  rw [UInt8.toNat_ofNat']
  simp
  omega
theorem strOf_drop (T : List Nat) : (strOf T).extract 1 (strOf T).size = strOf (T.drop 1) := by
  apply ByteArray.ext
  rw [ByteArray.data_extract]
  unfold strOf
  have e : List.take (T.length - 1) (List.map UInt8.ofNat T).tail = (List.map UInt8.ofNat T).tail := List.take_of_length_le (by simp)
  simp [ByteArray.size, e]

theorem int_of_bad {T : List Nat} (h : ¬ smallT T) : intT T = none := if_neg h
theorem valT_step {acc c : Nat} {r : List Nat} (h : 48 ≤ c ∧ c ≤ 57) : valT acc (c :: r) = valT (acc * 10 + (c - 48)) r := by rw [valT, if_pos h]
theorem valT_stop {acc c : Nat} {r : List Nat} (h : ¬ (48 ≤ c ∧ c ≤ 57)) : valT acc (c :: r) = none := by rw [valT, if_neg h]
theorem drop_step {U : List Nat} {i : Nat} (h : i < U.length) : U.drop i = nth U i :: U.drop (i + 1) := by
  rw [List.drop_eq_getElem_cons h]
  simp [nth, h]

/-- The digits, gone through: behind the tests. -/
def RIntR (o : Option Int) (w : World) (e : Ending) (w' : World) : Prop := e = .returned (optV o) ∧ Below w.heap.size w w'

set_option maxHeartbeats 16000000 in
theorem rint_any (w : World) (k : Int) (T : List Nat) (hT : ∀ x ∈ T, x < 256) (hl : T.length ≤ 100000) (ka la : Option Addr) (kn kc ln lc : Nat) :
    Calls Tryd.prog 21 #[vagg (k, strOf T, .slice ka kn kc, .slice la ln lc)] w (RIntR (intJ k T) w) := by
  unfold vagg
  simp only
  have hb1 := bel w (.cells #[.int .i64 k, .string (strOf T), .slice ka kn kc, .slice la ln lc] 33)
  have hx1 := BoxC.new w 33 #[.int .i64 k, .string (strOf T), .slice ka kn kc, .slice la ln lc]
  obtain ⟨w1, hw1⟩ : ∃ w1, w.alloc (.cells #[.int .i64 k, .string (strOf T), .slice ka kn kc, .slice la ln lc] 33) = w1 := ⟨_, rfl⟩
  rw [hw1] at hb1 hx1
  have v0 : w1.cell? ⟨w.heap.size, 0, none⟩ = some (.int .i64 k) := hx1.cell 0
  have v1 : w1.cell? ⟨w.heap.size, 1, none⟩ = some (.string (strOf T)) := hx1.cell 1
  have HW1 := hide hw1
  have HB1 := hide hb1
  clear hb1 hx1 hw1
  by_cases h3 : k = 3
  rotate_left
  · have d3 : (k == 3) = false := by simpa using h3
    have d3' : (k != 3) = true := by simpa using h3
    have HR : Hid (intJ k T = none) := if_neg h3
    generalize strOf T = s at *
    clear h3
    go_enter Tryd.func21, Tryd.ntmps21
    go_upto_region 1 with fail
    rw [HW1.out]
    clear HW1
    go_wp2
    go_ret2
    refine ⟨?_, HB1.out⟩
    rw [HR.out]
    rfl
  subst h3
  have HJ : Hid (intJ 3 T = intT T) := if_pos rfl
  -- the string behind the minus
  obtain ⟨hrl, hrn⟩ := restT_length T
  have hU := rest_lt hT
  have hUl : (restT T).length ≤ 100000 := by omega
  have HIU : Hid (∀ (W : World) (j : Nat), j < (restT T).length → (Instr.index 9 (.string (strOf (restT T))) (.int .i64 (j : Int))).run Tryd.prog W = .ok (.int .u8 ((nth (restT T) j : Nat) : Int)) W) := fun W j h => str_at hU W h
  have HUB := hide hU
  have hdef : intT T = if smallT T then (valT 0 (restT T)).map (fun u : Nat => if minusT T then -(u : Int) else (u : Int)) else none := rfl
  have hsm : smallT T ↔ 1 ≤ (restT T).length ∧ (restT T).length ≤ 9 ∧ ¬ (nth (restT T) 0 = 48 ∧ (1 < (restT T).length ∨ minusT T = true)) := Iff.rfl
  have hsU := strOf_size (restT T)
  have hsT := strOf_size T
  cases hm : minusT T with
  | true =>
    have hm0 : 0 < T.length ∧ nth T 0 = 45 := of_decide_eq_true hm
    have q0 : ∀ W : World, (Instr.index 9 (.string (strOf T)) (.int .i64 0)).run Tryd.prog W = .ok (.int .u8 45) W := fun W => by
      have := str_at hT W hm0.1
      rw [hm0.2] at this
      exact this
    have q1 : ∀ W : World, (Instr.slice 9 (.string (strOf T)) (some (.int .i64 1)) none none).run Tryd.prog W = .ok (.string (strOf (restT T))) W := fun W => by
      have := run_slice_string_l (P := Tryd.prog) (w := W) 9 (strOf T) Tryd.underlying9 .i64 1 (by omega) (by rw [strOf_size]; omega)
      rw [this]
      have e : (strOf T).extract (1 : Int).toNat (strOf T).size = strOf (restT T) := by
        rw [show (1 : Int).toNat = 1 from rfl, strOf_drop]
        unfold restT
        rw [hm]
        rfl
      rw [e]
    have d0 : (T.length : Int) > 0 := by omega
    rw [hm] at hdef hsm
    simp only [if_true] at hdef
    have HDEF := hide hdef
    have HSM := hide hsm
    clear hm0 hm hdef hsm hrl hrn hU hUl hT
    generalize strOf T = s at *
    generalize T.length = tl at *
    generalize restT T = U at *
    obtain ⟨n, hn⟩ : ∃ n, U.length = n := ⟨_, rfl⟩
    have HUN := hide hn
    rw [hn] at hsU HSM
    generalize strOf U = u at *
    clear hn
    by_cases hn1 : n < 1
    · have d7 : (n : Int) < 1 := by omega
      go_enter Tryd.func21, Tryd.ntmps21
      go_upto_region 1 with fail
      rw [HW1.out]
      clear HW1
      have HR : Hid (intJ 3 T = none) := by
        rw [Hid, HJ.out]
        exact int_of_bad (fun h => by have h := HSM.out.1 h; omega)
      go_wp2
      go_ret2
      refine ⟨?_, HB1.out⟩
      rw [HR.out]
      rfl
    have d7 : ¬ (n : Int) < 1 := by omega
    by_cases h9 : n ≤ 9
    rotate_left
    · have d8 : (n : Int) > 9 := by omega
      go_enter Tryd.func21, Tryd.ntmps21
      go_upto_region 1 with fail
      rw [HW1.out]
      clear HW1
      have HR : Hid (intJ 3 T = none) := by
        rw [Hid, HJ.out]
        exact int_of_bad (fun h => by have h := HSM.out.1 h; omega)
      go_wp2
      go_ret2
      refine ⟨?_, HB1.out⟩
      rw [HR.out]
      rfl
    have d8 : ¬ (n : Int) > 9 := by omega
    have H9 := hide h9
    have q7 : ∀ W : World, (Instr.index 9 (.string u) (.int .i64 0)).run Tryd.prog W = .ok (.int .u8 ((nth U 0 : Nat) : Int)) W := fun W => HIU.out W 0 (by rw [HUN.out]; omega)
    obtain ⟨x0, hx0⟩ : ∃ x0, nth U 0 = x0 := ⟨_, rfl⟩
    rw [hx0] at q7 HSM
    clear hx0
    by_cases hz : x0 = 48
    · subst hz
      have qz : ∀ W : World, (Instr.index 9 (.string u) (.int .i64 0)).run Tryd.prog W = .ok (.int .u8 48) W := q7
      clear q7
      by_cases hn2 : 1 < n
      · have d9 : (n : Int) > 1 := by omega
        go_enter Tryd.func21, Tryd.ntmps21
        go_upto_region 1 with fail
        rw [HW1.out]
        clear HW1
        have HR : Hid (intJ 3 T = none) := by
          rw [Hid, HJ.out]
          exact int_of_bad (fun h => by have h := HSM.out.1 h; exact h.2.2 ⟨rfl, .inr rfl⟩)
        go_wp2
        go_ret2
        refine ⟨?_, HB1.out⟩
        rw [HR.out]
        rfl
      · have d9 : ¬ (n : Int) > 1 := by omega
        go_enter Tryd.func21, Tryd.ntmps21
        go_upto_region 1 with fail
        rw [HW1.out]
        clear HW1
        have HR : Hid (intJ 3 T = none) := by
          rw [Hid, HJ.out]
          exact int_of_bad (fun h => by have h := HSM.out.1 h; exact h.2.2 ⟨rfl, .inr rfl⟩)
        go_wp2
        go_ret2
        refine ⟨?_, HB1.out⟩
        rw [HR.out]
        rfl
    have d10 : ((x0 : Int) == 48) = false := by rw [beq_eq_false_iff_ne]; omega
    have HZ := hide hz
    clear hz
    have HS : Hid (smallT T) := HSM.out.2 (by exact ⟨by omega, by omega, fun h => HZ.out h.1⟩)
    clear hn1
    go_enter Tryd.func21, Tryd.ntmps21
    go_upto_region 1 with fail
    rw [HW1.out]
    clear HW1
    have HV : Hid (intJ 3 T = (valT 0 U).map (fun u : Nat => -(u : Int))) := by
      rw [Hid, HJ.out, HDEF.out, if_pos HS.out]
      try rfl
    go_wp2
    go_loopw [6, 7] (fun nv iv wr => ∃ i acc : Nat, i ≤ n ∧ iv = .int .i64 (i : Int) ∧ nv = .int .i64 (acc : Int) ∧ acc < 10 ^ i ∧ valT acc (U.drop i) = valT 0 U ∧ wr = w1) (fun _ iv _ => n - (RowKit.intOf iv).toNat)
    case atStart => exact ⟨0, 0, Nat.zero_le _, rfl, rfl, by omega, by rw [List.drop_zero], rfl⟩
    case round =>
      obtain ⟨i, acc, hi, rfl, rfl, hacc, hval, rfl⟩ := hrel
      have HACC := hide hacc
      have HVAL := hide hval
      clear hacc hval
      by_cases hlt : i < n
      · have d1 : (i : Int) < (n : Int) := by omega
        have d2 : (0 : Int) ≤ (i : Int) := by omega
        have qi := fun W => HIU.out W i (by rw [HUN.out]; exact hlt)
        have hstep := drop_step (U := U) (i := i) (by rw [HUN.out]; exact hlt)
        have HXB : Hid (nth U i < 256) := nth_byt HUB.out i
        have hval := HVAL.out
        rw [hstep] at hval
        obtain ⟨x, hx⟩ : ∃ x, nth U i = x := ⟨_, rfl⟩
        rw [hx] at qi hval HXB
        have HILT := hide hlt
        clear hstep hlt hx
        by_cases hdig : 48 ≤ x ∧ x ≤ 57
        · obtain ⟨y, rfl⟩ : ∃ y, x = 48 + y := ⟨x - 48, by omega⟩
          rw [valT_step hdig] at hval
          have hsm : acc < 100000000 := by
            have h1 := HACC.out
            have h2 := Nat.pow_le_pow_right (show 0 < 10 by omega) (show i ≤ 8 by have := HILT.out; have := H9.out; omega)
            have h3 : (10 : Nat) ^ 8 = 100000000 := by decide
            omega
          obtain ⟨a1, ha1⟩ : ∃ a1, acc * 10 + (48 + y - 48) = a1 := ⟨_, rfl⟩
          obtain ⟨i1, hi1⟩ : ∃ i1, i + 1 = i1 := ⟨_, rfl⟩
          rw [ha1, hi1] at hval
          have e1 : (i : Int) + 1 = (i1 : Int) := by omega
          have e2 : ((48 + y : Nat) : Int) - 48 = (y : Int) := by omega
          have e3 : (acc : Int) * 10 + (y : Int) = (a1 : Int) := by omega
          have g1 : (i1 : Int) ≤ 9 := by have := HILT.out; have := H9.out; omega
          have g2 : (y : Int) ≤ 9 := by omega
          have g3 : (a1 : Int) ≤ 1000000000 := by omega
          have g4 : (acc : Int) * 10 ≤ 1000000000 := by omega
          have g5 : (0 : Int) ≤ (acc : Int) * 10 := by omega
          have d3 : ¬ ((48 + y : Nat) : Int) < 48 := by omega
          have d4 : ¬ ((48 + y : Nat) : Int) > 57 := by omega
          have HA1 : Hid (a1 < 10 ^ i1) := by
            rw [Hid, ← hi1, Nat.pow_succ]
            have := HACC.out
            omega
          have HVAL2 := hide hval
          have HI1 := hide hi1
          generalize ((48 + y : Nat) : Int) = xz at *
          clear hval hi1 ha1 hdig hsm hi
          go_wp2
          go_roundw
          case rel => exact ⟨i1, a1, by have := HILT.out; have := HI1.out; omega, by first | rfl | go_num, by first | rfl | go_num, HA1.out, HVAL2.out, by first | rfl | trivial⟩
          case measure => have := HILT.out; have := HI1.out; simp [RowKit.intOf]; omega
        · rw [valT_stop hdig] at hval
          have HR : Hid (intJ 3 T = none) := by rw [Hid, HV.out, ← hval]; rfl
          clear hval
          by_cases h48 : x < 48
          · have d3 : (x : Int) < 48 := by omega
            clear hdig h48 hi
            go_wp2
            go_ret2
            refine ⟨?_, HB1.out⟩
            rw [HR.out]
            rfl
          · have d3 : ¬ (x : Int) < 48 := by omega
            have d4 : (x : Int) > 57 := by omega
            clear hdig h48 hi
            go_wp2
            go_ret2
            refine ⟨?_, HB1.out⟩
            rw [HR.out]
            rfl
      · obtain rfl : i = n := by omega
        have d1 : ¬ (i : Int) < (i : Int) := by omega
        have hval := HVAL.out
        rw [List.drop_eq_nil_of_le (by rw [HUN.out]; exact Nat.le_refl _)] at hval
        have HR : Hid (intJ 3 T = some (-(acc : Int))) := by rw [Hid, HV.out, ← hval]; rfl
        have g4 : (acc : Int) ≤ 1000000000 := by
          have h1 := HACC.out
          have h2 := Nat.pow_le_pow_right (show 0 < 10 by omega) (show i ≤ 9 by have := H9.out; omega)
          have h3 : (10 : Nat) ^ 9 = 1000000000 := by decide
          omega
        clear hlt hval hi
        go_wp2
        go_ret2
        refine ⟨?_, HB1.out⟩
        rw [HR.out]
        rfl
  | false =>
    have hr : restT T = T := by unfold restT; rw [hm]; rfl
    have hsr : strOf (restT T) = strOf T := by rw [hr]
    have hlr : T.length = (restT T).length := by rw [hr]
    have hmr : ¬ (0 < T.length ∧ nth T 0 = 45) := of_decide_eq_false hm
    have dm : nth (restT T) 0 = 45 → (restT T).length = 0 := fun e => by
      rw [hr] at e ⊢
      rcases Nat.eq_zero_or_pos T.length with h | h
      · exact h
      · exact absurd ⟨h, e⟩ hmr
    rw [← hsr] at v1 HW1 ⊢
    rw [hm] at hdef hsm
    simp only [Bool.false_eq_true, if_false] at hdef
    have HDEF := hide hdef
    have HSM := hide hsm
    clear hr hsr hlr hmr hm hdef hsm hrl hrn hU hUl hT hsT
    generalize restT T = U at *
    obtain ⟨n, hn⟩ : ∃ n, U.length = n := ⟨_, rfl⟩
    have HUN := hide hn
    rw [hn] at hsU HSM
    generalize strOf U = u at *
    rw [hn] at dm
    clear hn
    by_cases hn0 : n = 0
    · have d0 : ¬ (n : Int) > 0 := by omega
      have d7 : (n : Int) < 1 := by omega
      clear dm
      go_enter Tryd.func21, Tryd.ntmps21
      go_upto_region 1 with fail
      rw [HW1.out]
      clear HW1
      have HR : Hid (intJ 3 T = none) := by
        rw [Hid, HJ.out]
        exact int_of_bad (fun h => by have h := HSM.out.1 h; omega)
      go_wp2
      go_ret2
      refine ⟨?_, HB1.out⟩
      rw [HR.out]
      rfl
    have d0 : (n : Int) > 0 := by omega
    have q0 : ∀ W : World, (Instr.index 9 (.string u) (.int .i64 0)).run Tryd.prog W = .ok (.int .u8 ((nth U 0 : Nat) : Int)) W := fun W => HIU.out W 0 (by rw [HUN.out]; omega)
    have dm2 : (((nth U 0 : Nat) : Int) == 45) = false := by
      rw [beq_eq_false_iff_ne]
      intro e
      exact hn0 (dm (by omega))
    clear dm
    have hn1 : ¬ n < 1 := by omega
    have d7 : ¬ (n : Int) < 1 := by omega
    by_cases h9 : n ≤ 9
    rotate_left
    · have d8 : (n : Int) > 9 := by omega
      go_enter Tryd.func21, Tryd.ntmps21
      go_upto_region 1 with fail
      rw [HW1.out]
      clear HW1
      have HR : Hid (intJ 3 T = none) := by
        rw [Hid, HJ.out]
        exact int_of_bad (fun h => by have h := HSM.out.1 h; omega)
      go_wp2
      go_ret2
      refine ⟨?_, HB1.out⟩
      rw [HR.out]
      rfl
    have d8 : ¬ (n : Int) > 9 := by omega
    have H9 := hide h9
    obtain ⟨x0, hx0⟩ : ∃ x0, nth U 0 = x0 := ⟨_, rfl⟩
    rw [hx0] at q0 dm2 HSM
    clear hx0
    by_cases hz : x0 = 48
    · subst hz
      have qz : ∀ W : World, (Instr.index 9 (.string u) (.int .i64 0)).run Tryd.prog W = .ok (.int .u8 48) W := q0
      clear q0 dm2
      by_cases hn2 : 1 < n
      · have d9 : (n : Int) > 1 := by omega
        go_enter Tryd.func21, Tryd.ntmps21
        go_upto_region 1 with fail
        rw [HW1.out]
        clear HW1
        have HR : Hid (intJ 3 T = none) := by
          rw [Hid, HJ.out]
          exact int_of_bad (fun h => by have h := HSM.out.1 h; exact h.2.2 ⟨rfl, .inl hn2⟩)
        go_wp2
        go_ret2
        refine ⟨?_, HB1.out⟩
        rw [HR.out]
        rfl
      · have d9 : ¬ (n : Int) > 1 := by omega
        have HN2 := hide hn2
        have HS : Hid (smallT T) := HSM.out.2 (by refine ⟨by omega, by omega, fun h => ?_⟩; rcases h.2 with h | h; exact HN2.out h; cases h)
        clear hn1
        go_enter Tryd.func21, Tryd.ntmps21
        go_upto_region 1 with fail
        rw [HW1.out]
        clear HW1
        have HV : Hid (intJ 3 T = (valT 0 U).map (fun u : Nat => (u : Int))) := by
          rw [Hid, HJ.out, HDEF.out, if_pos HS.out]
          try rfl
        go_wp2
        go_loopw [6, 7] (fun nv iv wr => ∃ i acc : Nat, i ≤ n ∧ iv = .int .i64 (i : Int) ∧ nv = .int .i64 (acc : Int) ∧ acc < 10 ^ i ∧ valT acc (U.drop i) = valT 0 U ∧ wr = w1) (fun _ iv _ => n - (RowKit.intOf iv).toNat)
        case atStart => exact ⟨0, 0, Nat.zero_le _, rfl, rfl, by omega, by rw [List.drop_zero], rfl⟩
        case round =>
          obtain ⟨i, acc, hi, rfl, rfl, hacc, hval, rfl⟩ := hrel
          have HACC := hide hacc
          have HVAL := hide hval
          clear hacc hval
          by_cases hlt : i < n
          · have d1 : (i : Int) < (n : Int) := by omega
            have d2 : (0 : Int) ≤ (i : Int) := by omega
            have qi := fun W => HIU.out W i (by rw [HUN.out]; exact hlt)
            have hstep := drop_step (U := U) (i := i) (by rw [HUN.out]; exact hlt)
            have HXB : Hid (nth U i < 256) := nth_byt HUB.out i
            have hval := HVAL.out
            rw [hstep] at hval
            obtain ⟨x, hx⟩ : ∃ x, nth U i = x := ⟨_, rfl⟩
            rw [hx] at qi hval HXB
            have HILT := hide hlt
            clear hstep hlt hx
            by_cases hdig : 48 ≤ x ∧ x ≤ 57
            · obtain ⟨y, rfl⟩ : ∃ y, x = 48 + y := ⟨x - 48, by omega⟩
              rw [valT_step hdig] at hval
              have hsm : acc < 100000000 := by
                have h1 := HACC.out
                have h2 := Nat.pow_le_pow_right (show 0 < 10 by omega) (show i ≤ 8 by have := HILT.out; have := H9.out; omega)
                have h3 : (10 : Nat) ^ 8 = 100000000 := by decide
                omega
              obtain ⟨a1, ha1⟩ : ∃ a1, acc * 10 + (48 + y - 48) = a1 := ⟨_, rfl⟩
              obtain ⟨i1, hi1⟩ : ∃ i1, i + 1 = i1 := ⟨_, rfl⟩
              rw [ha1, hi1] at hval
              have e1 : (i : Int) + 1 = (i1 : Int) := by omega
              have e2 : ((48 + y : Nat) : Int) - 48 = (y : Int) := by omega
              have e3 : (acc : Int) * 10 + (y : Int) = (a1 : Int) := by omega
              have g1 : (i1 : Int) ≤ 9 := by have := HILT.out; have := H9.out; omega
              have g2 : (y : Int) ≤ 9 := by omega
              have g3 : (a1 : Int) ≤ 1000000000 := by omega
              have g4 : (acc : Int) * 10 ≤ 1000000000 := by omega
              have g5 : (0 : Int) ≤ (acc : Int) * 10 := by omega
              have d3 : ¬ ((48 + y : Nat) : Int) < 48 := by omega
              have d4 : ¬ ((48 + y : Nat) : Int) > 57 := by omega
              have HA1 : Hid (a1 < 10 ^ i1) := by
                rw [Hid, ← hi1, Nat.pow_succ]
                have := HACC.out
                omega
              have HVAL2 := hide hval
              have HI1 := hide hi1
              generalize ((48 + y : Nat) : Int) = xz at *
              clear hval hi1 ha1 hdig hsm hi
              go_wp2
              go_roundw
              case rel => exact ⟨i1, a1, by have := HILT.out; have := HI1.out; omega, by first | rfl | go_num, by first | rfl | go_num, HA1.out, HVAL2.out, by first | rfl | trivial⟩
              case measure => have := HILT.out; have := HI1.out; simp [RowKit.intOf]; omega
            · rw [valT_stop hdig] at hval
              have HR : Hid (intJ 3 T = none) := by rw [Hid, HV.out, ← hval]; rfl
              clear hval
              by_cases h48 : x < 48
              · have d3 : (x : Int) < 48 := by omega
                clear hdig h48 hi
                go_wp2
                go_ret2
                refine ⟨?_, HB1.out⟩
                rw [HR.out]
                rfl
              · have d3 : ¬ (x : Int) < 48 := by omega
                have d4 : (x : Int) > 57 := by omega
                clear hdig h48 hi
                go_wp2
                go_ret2
                refine ⟨?_, HB1.out⟩
                rw [HR.out]
                rfl
          · obtain rfl : i = n := by omega
            have d1 : ¬ (i : Int) < (i : Int) := by omega
            have hval := HVAL.out
            rw [List.drop_eq_nil_of_le (by rw [HUN.out]; exact Nat.le_refl _)] at hval
            have HR : Hid (intJ 3 T = some ((acc : Int))) := by rw [Hid, HV.out, ← hval]; rfl
            have g4 : (acc : Int) ≤ 1000000000 := by
              have h1 := HACC.out
              have h2 := Nat.pow_le_pow_right (show 0 < 10 by omega) (show i ≤ 9 by have := H9.out; omega)
              have h3 : (10 : Nat) ^ 9 = 1000000000 := by decide
              omega
            clear hlt hval hi
            go_wp2
            go_ret2
            refine ⟨?_, HB1.out⟩
            rw [HR.out]
            rfl
    have d10 : ((x0 : Int) == 48) = false := by rw [beq_eq_false_iff_ne]; omega
    have HZ := hide hz
    clear hz
    have HS : Hid (smallT T) := HSM.out.2 (by exact ⟨by omega, by omega, fun h => HZ.out h.1⟩)
    clear hn1
    go_enter Tryd.func21, Tryd.ntmps21
    go_upto_region 1 with fail
    rw [HW1.out]
    clear HW1
    have HV : Hid (intJ 3 T = (valT 0 U).map (fun u : Nat => (u : Int))) := by
      rw [Hid, HJ.out, HDEF.out, if_pos HS.out]
      try rfl
    go_wp2
    go_loopw [6, 7] (fun nv iv wr => ∃ i acc : Nat, i ≤ n ∧ iv = .int .i64 (i : Int) ∧ nv = .int .i64 (acc : Int) ∧ acc < 10 ^ i ∧ valT acc (U.drop i) = valT 0 U ∧ wr = w1) (fun _ iv _ => n - (RowKit.intOf iv).toNat)
    case atStart => exact ⟨0, 0, Nat.zero_le _, rfl, rfl, by omega, by rw [List.drop_zero], rfl⟩
    case round =>
      obtain ⟨i, acc, hi, rfl, rfl, hacc, hval, rfl⟩ := hrel
      have HACC := hide hacc
      have HVAL := hide hval
      clear hacc hval
      by_cases hlt : i < n
      · have d1 : (i : Int) < (n : Int) := by omega
        have d2 : (0 : Int) ≤ (i : Int) := by omega
        have qi := fun W => HIU.out W i (by rw [HUN.out]; exact hlt)
        have hstep := drop_step (U := U) (i := i) (by rw [HUN.out]; exact hlt)
        have HXB : Hid (nth U i < 256) := nth_byt HUB.out i
        have hval := HVAL.out
        rw [hstep] at hval
        obtain ⟨x, hx⟩ : ∃ x, nth U i = x := ⟨_, rfl⟩
        rw [hx] at qi hval HXB
        have HILT := hide hlt
        clear hstep hlt hx
        by_cases hdig : 48 ≤ x ∧ x ≤ 57
        · obtain ⟨y, rfl⟩ : ∃ y, x = 48 + y := ⟨x - 48, by omega⟩
          rw [valT_step hdig] at hval
          have hsm : acc < 100000000 := by
            have h1 := HACC.out
            have h2 := Nat.pow_le_pow_right (show 0 < 10 by omega) (show i ≤ 8 by have := HILT.out; have := H9.out; omega)
            have h3 : (10 : Nat) ^ 8 = 100000000 := by decide
            omega
          obtain ⟨a1, ha1⟩ : ∃ a1, acc * 10 + (48 + y - 48) = a1 := ⟨_, rfl⟩
          obtain ⟨i1, hi1⟩ : ∃ i1, i + 1 = i1 := ⟨_, rfl⟩
          rw [ha1, hi1] at hval
          have e1 : (i : Int) + 1 = (i1 : Int) := by omega
          have e2 : ((48 + y : Nat) : Int) - 48 = (y : Int) := by omega
          have e3 : (acc : Int) * 10 + (y : Int) = (a1 : Int) := by omega
          have g1 : (i1 : Int) ≤ 9 := by have := HILT.out; have := H9.out; omega
          have g2 : (y : Int) ≤ 9 := by omega
          have g3 : (a1 : Int) ≤ 1000000000 := by omega
          have g4 : (acc : Int) * 10 ≤ 1000000000 := by omega
          have g5 : (0 : Int) ≤ (acc : Int) * 10 := by omega
          have d3 : ¬ ((48 + y : Nat) : Int) < 48 := by omega
          have d4 : ¬ ((48 + y : Nat) : Int) > 57 := by omega
          have HA1 : Hid (a1 < 10 ^ i1) := by
            rw [Hid, ← hi1, Nat.pow_succ]
            have := HACC.out
            omega
          have HVAL2 := hide hval
          have HI1 := hide hi1
          generalize ((48 + y : Nat) : Int) = xz at *
          clear hval hi1 ha1 hdig hsm hi
          go_wp2
          go_roundw
          case rel => exact ⟨i1, a1, by have := HILT.out; have := HI1.out; omega, by first | rfl | go_num, by first | rfl | go_num, HA1.out, HVAL2.out, by first | rfl | trivial⟩
          case measure => have := HILT.out; have := HI1.out; simp [RowKit.intOf]; omega
        · rw [valT_stop hdig] at hval
          have HR : Hid (intJ 3 T = none) := by rw [Hid, HV.out, ← hval]; rfl
          clear hval
          by_cases h48 : x < 48
          · have d3 : (x : Int) < 48 := by omega
            clear hdig h48 hi
            go_wp2
            go_ret2
            refine ⟨?_, HB1.out⟩
            rw [HR.out]
            rfl
          · have d3 : ¬ (x : Int) < 48 := by omega
            have d4 : (x : Int) > 57 := by omega
            clear hdig h48 hi
            go_wp2
            go_ret2
            refine ⟨?_, HB1.out⟩
            rw [HR.out]
            rfl
      · obtain rfl : i = n := by omega
        have d1 : ¬ (i : Int) < (i : Int) := by omega
        have hval := HVAL.out
        rw [List.drop_eq_nil_of_le (by rw [HUN.out]; exact Nat.le_refl _)] at hval
        have HR : Hid (intJ 3 T = some ((acc : Int))) := by rw [Hid, HV.out, ← hval]; rfl
        have g4 : (acc : Int) ≤ 1000000000 := by
          have h1 := HACC.out
          have h2 := Nat.pow_le_pow_right (show 0 < 10 by omega) (show i ≤ 9 by have := H9.out; omega)
          have h3 : (10 : Nat) ^ 9 = 1000000000 := by decide
          omega
        clear hlt hval hi
        go_wp2
        go_ret2
        refine ⟨?_, HB1.out⟩
        rw [HR.out]
        rfl

end Go.Proofs.YtcedcbonphgecaaDoor
