/- Json: Int. -/
import Derived.Test.YtcedcbonphgecaaDoorJWr2
import Derived.Test.YtcedcbonphgecaaDoorJIntP
import Derived.Test.YtcedcbonphgecaaDoorShelf
namespace Go.Proofs.YtcedcbonphgecaaDoor
set_option linter.unusedVariables false
set_option linter.unusedSimpArgs false
set_option maxRecDepth 100000
open Go Go.RowKit Go.Shelf Go.Lib

def isNumB (T : List Nat) : Bool := decide (numEnd T 0 = (T.length, true))
set_option maxHeartbeats 2000000 in
theorem isNumber_any (w : World) (S : List Nat) (hS : ∀ x ∈ S, x < 256) (hl : S.length ≤ 1000000) :
    Calls Tryd.prog 48 #[.string (strOf S)] w fun e w' => e = .returned (.bool (isNumB S)) ∧ Below w.heap.size w w' := by
  obtain ⟨cp, w1, hcv, hby, hcp, hb1, _⟩ := conv_str w S hS
  have HN := hide (numberEnd_calls w1 _ _ 0 S hby (Nat.zero_le _) (by omega))
  have hle := numEnd_le (T := S) (p := 0) (Nat.zero_le _)
  have HNB : Hid (isNumB S = decide (numEnd S 0 = (S.length, true))) := rfl
  generalize isNumB S = nb at *
  generalize numEnd S 0 = q at *
  obtain ⟨p, b⟩ := q
  simp only at HN hle
  have hsz := strOf_size S
  have HB := hide hb1
  clear hby hcp hb1 hS
  generalize strOf S = s at *
  generalize S.length = n at *
  cases b with
  | false =>
    have HR : Hid (nb = false) := by rw [HNB.out]; exact decide_eq_false (fun e => by cases e)
    clear HNB
    go_enter Tryd.func48, Tryd.ntmps48
    go_wp2_with fail
    refine HN.out.mono ?_
    rintro e w2 ⟨rfl, hw⟩
    rw [hw]
    clear hw
    go_wp2
    go_ret
    exact ⟨by rw [HR.out]; rfl, HB.out⟩
  | true =>
    by_cases hp : p = n
    · have HR : Hid (nb = true) := by rw [HNB.out, hp]; exact decide_eq_true rfl
      subst hp
      clear HNB hle
      have deq : ((p : Int) == (p : Int)) = true := by simp
      go_enter Tryd.func48, Tryd.ntmps48
      go_wp2_with fail
      refine HN.out.mono ?_
      rintro e w2 ⟨rfl, hw⟩
      rw [hw]
      clear hw
      go_wp2
      go_ret
      exact ⟨by rw [HR.out]; rfl, HB.out⟩
    · have HR : Hid (nb = false) := by rw [HNB.out]; exact decide_eq_false (fun e => hp (congrArg Prod.fst e))
      have deq : ((p : Int) == (n : Int)) = false := by simp; omega
      clear HNB hle hp
      go_enter Tryd.func48, Tryd.ntmps48
      go_wp2_with fail
      refine HN.out.mono ?_
      rintro e w2 ⟨rfl, hw⟩
      rw [hw]
      clear hw
      go_wp2
      go_ret
      exact ⟨by rw [HR.out]; rfl, HB.out⟩

/-- What strconv.ErrSyntax holds is an error. -/
def ErrS (w : World) : Prop := ∃ ev, w.cell? ⟨0, 0, none⟩ = some ev ∧ (ev = .nilIface ∨ ∃ te pe, ev = .iface te pe)
theorem ErrS.below {w w' : World} (h : ErrS w) (hb : Below w.heap.size w w') : ErrS w' := by
  obtain ⟨ev, h1, h2⟩ := h
  exact ⟨ev, (hb.cell (p := ⟨0, 0, none⟩) (block_lt h1)).trans h1, h2⟩

/-- What Int answers. -/
def intJ (k : Int) (T : List Nat) : Option Int := if k = 3 then intT T else none
def optV (o : Option Int) : Value := .tuple #[.int .i64 (o.getD 0), .bool o.isSome]
def IntR (k : Int) (T : List Nat) (w : World) (e : Ending) (w' : World) : Prop := e = .returned (optV (intJ k T)) ∧ Below w.heap.size w w'

theorem trim_size {T : List Nat} (hT : ∀ x ∈ T, x < 256) : (⟨(Lib.trimPrefix (strOf T).data.toList [45]).toArray⟩ : ByteArray).size = (restT T).length := by
  show (Lib.trimPrefix (strOf T).data.toList [45]).toArray.size = _
  rw [strOf_list, List.size_toArray]
  unfold Lib.trimPrefix Lib.hasPrefix restT
  cases T with
  | nil => rfl
  | cons c r =>
    have hc := map_nats (c :: r) hT rfl
    by_cases h : c = 45
    · subst h
      have hm : minusT (45 :: r) = true := by simp [minusT, nth]
      rw [hm]
      simp
    · have hm : minusT (c :: r) = false := by simp [minusT, nth, h]
      have hne : ((45 : UInt8) == UInt8.ofNat c) = false := by
        rw [beq_eq_false_iff_ne]
        intro e
        apply h
        have := congrArg UInt8.toNat e
        rw [hc] at this
        exact this.symm
      rw [hm]
      simp [List.isPrefixOf, hne]

set_option maxHeartbeats 8000000 in
theorem jint_any (w : World) (k : Int) (T : List Nat) (hT : ∀ x ∈ T, x < 256) (hl : T.length ≤ 100000) (ka la : Option Addr) (kn kc ln lc : Nat) (hE : ErrS w) :
    Calls Tryd.prog 20 #[vagg (k, strOf T, .slice ka kn kc, .slice la ln lc)] w (IntR k T w) := by
  unfold vagg
  simp only
  have hb1 := bel w (.cells #[.int .i64 k, .string (strOf T), .slice ka kn kc, .slice la ln lc] 27)
  have hx1 := BoxC.new w 27 #[.int .i64 k, .string (strOf T), .slice ka kn kc, .slice la ln lc]
  obtain ⟨w1, hw1⟩ : ∃ w1, w.alloc (.cells #[.int .i64 k, .string (strOf T), .slice ka kn kc, .slice la ln lc] 27) = w1 := ⟨_, rfl⟩
  rw [hw1] at hb1 hx1
  have HN := hide (isNumber_any w1 T hT (by omega))
  have HTR := hide (fun W => Tryd.strings_TrimPrefix (strOf T) ⟨#[45]⟩ W)
  have HTS : Hid ((⟨(Lib.trimPrefix (strOf T).data.toList (⟨#[45]⟩ : ByteArray).data.toList).toArray⟩ : ByteArray).size = (restT T).length) := trim_size hT
  have hsz := strOf_size T
  have HOK := hide (fun v (h : intT T = some v) W => Tryd.strconv_Atoi_ok (strOf T) (by omega) v (by rw [strOf_list]; exact (int_some hT h).2.2.2) W)
  have HSY := hide (fun (h : intT T = none) (hn : numEnd T 0 = (T.length, true)) (hne : T ≠ [45, 48]) (h9 : (restT T).length ≤ 9) => Tryd.strconv_Atoi_syntax (strOf T) (by omega) (by rw [strOf_list]; exact int_none hT h hn hne h9))
  have HSO := hide (fun v (h : intT T = some v) => int_some hT h)
  have hzz : ((strOf T).toList == (strOf [45, 48]).toList) = decide (T = [45, 48]) := str_eq hT (by decide)
  rw [show (strOf [45, 48]).toList = [45, 48] by rw [toList_data, strOf_list]; rfl] at hzz
  have HZZ := hide hzz
  have HNB : Hid (isNumB T = decide (numEnd T 0 = (T.length, true))) := rfl
  generalize strOf T = s at *
  generalize (⟨(Lib.trimPrefix s.data.toList (⟨#[45]⟩ : ByteArray).data.toList).toArray⟩ : ByteArray) = tr at *
  have HW1 := hide hw1
  have HB1 := hide hb1
  have HX1 := hide hx1
  have v0 : w1.cell? ⟨w.heap.size, 0, none⟩ = some (.int .i64 k) := hx1.cell 0
  have v1 : w1.cell? ⟨w.heap.size, 1, none⟩ = some (.string s) := hx1.cell 1
  have HE := hide (hE.below hb1)
  clear hb1 hx1 hw1 hE hT hzz
  by_cases h3 : k = 3
  rotate_left
  · have d3 : (k == 3) = false := by simpa using h3
    have d3' : (k != 3) = true := by simpa using h3
    have HR : Hid (intJ k T = none) := if_neg h3
    clear h3
    go_enter Tryd.func20, Tryd.ntmps20
    go_upto_region 1 with fail
    rw [HW1.out]
    clear HW1
    go_wp2
    go_ret2
    refine ⟨?_, HB1.out⟩
    rw [HR.out]
    rfl
  subst h3
  have HJ : Hid (intJ 3 T = intT T) := if_pos rfl
  cases hn : isNumB T with
  | false =>
    rw [hn] at HN
    have HR : Hid (intJ 3 T = none) := by
      rw [HNB.out] at hn
      rw [Hid, HJ.out]
      cases hi : intT T with
      | none => rfl
      | some v => exact absurd (HSO.out v hi).1 (of_decide_eq_false hn)
    clear hn
    go_enter Tryd.func20, Tryd.ntmps20
    go_upto_region 1 with fail
    rw [HW1.out]
    clear HW1
    go_wp2_with fail
    refine HN.out.mono ?_
    rintro e w2 ⟨rfl, hb2⟩
    have HB2 := hide (HB1.out.trans (hb2.mono HB1.out.size))
    have v1 : w2.cell? ⟨w.heap.size, 1, none⟩ = some (.string s) := (HX1.out.below hb2).cell 1
    clear hb2
    go_wp2
    go_ret2
    refine ⟨?_, HB2.out⟩
    rw [HR.out]
    rfl
  | true =>
    rw [hn] at HN
    have hnt : numEnd T 0 = (T.length, true) := by rw [HNB.out] at hn; exact of_decide_eq_true hn
    have HNT := hide hnt
    clear hn hnt
    by_cases hz : T = [45, 48]
    · have deq : (s.toList == [45, 48]) = true := by rw [HZZ.out]; exact decide_eq_true hz
      have HR : Hid (intJ 3 T = none) := by
        rw [Hid, HJ.out]
        cases hi : intT T with
        | none => rfl
        | some v => exact absurd hz (HSO.out v hi).2.1
      clear hz
      go_enter Tryd.func20, Tryd.ntmps20
      go_upto_region 1 with fail
      rw [HW1.out]
      clear HW1
      go_wp2_with fail
      refine HN.out.mono ?_
      rintro e w2 ⟨rfl, hb2⟩
      have HB2 := hide (HB1.out.trans (hb2.mono HB1.out.size))
      have v1 : w2.cell? ⟨w.heap.size, 1, none⟩ = some (.string s) := (HX1.out.below hb2).cell 1
      clear hb2
      go_wp2
      go_ret2
      refine ⟨?_, HB2.out⟩
      rw [HR.out]
      rfl
    · have deq : (s.toList == [45, 48]) = false := by rw [HZZ.out]; exact decide_eq_false hz
      have HZ := hide hz
      clear hz
      obtain ⟨rn, hrn⟩ : ∃ rn, (restT T).length = rn := ⟨_, rfl⟩
      have hts : tr.size = rn := by rw [HTS.out, hrn]
      have HRN := hide hrn
      clear hrn
      go_enter Tryd.func20, Tryd.ntmps20
      go_upto_region 1 with fail
      rw [HW1.out]
      clear HW1
      go_wp2_with fail
      refine HN.out.mono ?_
      rintro e w2 ⟨rfl, hb2⟩
      have HB2 := hide (HB1.out.trans (hb2.mono HB1.out.size))
      have HX2 := hide (HX1.out.below hb2)
      have HE2 := hide (HE.out.below hb2)
      have v1 : w2.cell? ⟨w.heap.size, 1, none⟩ = some (.string s) := HX2.out.cell 1
      clear hb2
      go_wp2_with fail
      refine (HTR.out w2).mono ?_
      rintro e w3 ⟨rfl, hw⟩
      rw [hw]
      clear hw
      by_cases h9 : rn ≤ 9
      rotate_left
      · have d9 : (rn : Int) > 9 := by omega
        have HR : Hid (intJ 3 T = none) := by
          rw [Hid, HJ.out]
          cases hi : intT T with
          | none => rfl
          | some v => exact absurd (by have := (HSO.out v hi).2.2.1; have := HRN.out; omega) h9
        clear h9
        go_wp2
        go_ret2
        refine ⟨?_, HB2.out⟩
        rw [HR.out]
        rfl
      · have d9 : ¬ (rn : Int) > 9 := by omega
        have H9 := hide h9
        clear h9
        cases hi : intT T with
        | some v =>
          have HC := hide (HOK.out v hi w2)
          have HR : Hid (intJ 3 T = some v) := by rw [Hid, HJ.out, hi]
          clear hi
          go_wp2_with fail
          refine HC.out.mono ?_
          rintro e w4 ⟨rfl, hw4⟩
          have hb4 : Below w2.heap.size w2 w4 := by
            rcases hw4 with rfl | ⟨t, rfl⟩
            · exact Below.refl _ _
            · exact Lib.bytesWorld_below _ _ _
          have HB4 := hide (HB2.out.trans (hb4.mono HB2.out.size))
          clear hb4 hw4 v1
          go_wp2
          go_ret2
          refine ⟨?_, HB4.out⟩
          rw [HR.out]
          rfl
        | none =>
          obtain ⟨ev, hev1, hev2⟩ := HE2.out
          have HC := hide (HSY.out hi HNT.out HZ.out (by have := HRN.out; have := H9.out; omega) ev w2 hev1 hev2)
          have HR : Hid (intJ 3 T = none) := by rw [Hid, HJ.out, hi]
          clear hi hev1 hev2
          go_wp2_with fail
          refine HC.out.mono ?_
          rintro e w4 ⟨N, rfl, _, _, hb4⟩
          have HB4 := hide (HB2.out.trans (hb4.mono HB2.out.size))
          clear hb4 v1
          go_wp2
          go_ret2
          refine ⟨?_, HB4.out⟩
          rw [HR.out]
          rfl

end Go.Proofs.YtcedcbonphgecaaDoor
