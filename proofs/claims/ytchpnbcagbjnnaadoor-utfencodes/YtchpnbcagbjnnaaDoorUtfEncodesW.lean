/- The law UtfEncodes, walked. -/
import Derived.Test.YtchpnbcagbjnnaaDoorULaw1
import Derived.Test.YtchpnbcagbjnnaaDoorUEnc2
namespace Go.Proofs.YtchpnbcagbjnnaaDoor
set_option linter.unusedVariables false
set_option linter.unusedSimpArgs false
open Go Go.RowKit Go.Shelf Go.Lib

set_option maxRecDepth 100000 in
set_option maxHeartbeats 4000000 in
theorem utfencodes_calls (w : World) (r : Int) (hr : (Lit.int .i32 r).wf) (hK : Know w) :
    Calls Tryd.prog 5 #[.int .i32 r] w fun e w' => e = .returned (.bool true) ∧ Below w.heap.size w w' := by
  have hr' : -2147483648 ≤ r ∧ r ≤ 2147483647 := by
    simp [Lit.wf, IntKind.min, IntKind.max, IntKind.signed, IntKind.bits] at hr
    omega
  have hwr : IntKind.i64.wrap r = r := by rw [IntKind.wrap_i64]; omega
  have HK := hide hK
  clear hK hr
  by_cases hl : isLet r
  · obtain ⟨n, rfl⟩ : ∃ n : Nat, r = (n : Int) := ⟨r.toNat, by have := hl.1; omega⟩
    have HE := hide (encode_calls w (n : Int) hl)
    rw [Int.toNat_natCast] at HE
    have HR := hide (fun w => rencode_calls w n hl)
    clear hl
    go_enter Tryd.func5, Tryd.ntmps5
    go_wp2_with fail
    refine HE.out.mono ?_
    rintro e W1 ⟨v, rfl, hv, hb1⟩
    have KB1 := hide hb1
    have HV := hide hv
    clear hb1 hv HE
    go_wp2_with fail
    refine (HR.out _).mono ?_
    rintro e W2 ⟨v2, rfl, hv2, hb2⟩
    have KB2 := hide (bafter KB1.out hb2 (Nat.le_refl _))
    have HV1 := hide (HV.out.below hb2)
    have HV2 := hide hv2
    clear hb2 hv2 HV KB1 HR
    go_wp2_with fail
    refine (lettered_calls _ (HK.out.below KB2.out)).mono ?_
    rintro e W3 ⟨rfl, hb3⟩
    have hc1 := conv_byts (HV1.out.below hb3)
    have hc2 := conv_byts (HV2.out.below hb3)
    have KB3 := hide (bafter KB2.out hb3 (Nat.le_refl _))
    clear hb3 HV1 HV2 KB2
    generalize strOf (encL n) = st at *
    have hee : (st.toList == st.toList) = true := by simp
    go_wp2
    go_ret
    exact ⟨rfl, KB3.out⟩
  · have HE := hide (encode_bad w r hl)
    have HR := hide (fun w => rencode_bad w r hl)
    clear hl
    go_enter Tryd.func5, Tryd.ntmps5
    go_wp2_with fail
    refine HE.out.mono ?_
    rintro e W1 ⟨rfl, hw⟩
    rw [hw]
    clear hw HE
    go_wp2_with fail
    refine (HR.out _).mono ?_
    rintro e W2 ⟨rfl, hw⟩
    rw [hw]
    clear hw HR
    go_wp2_with fail
    refine (lettered_calls _ HK.out).mono ?_
    rintro e W3 ⟨rfl, hb3⟩
    have hc1 := conv_byts (W := W3) (v := .slice none 0 0) (T := []) ⟨none, 0, rfl, fun x hx => by simp at hx, fun j hj => by simp at hj⟩
    have KB3 := hide hb3
    clear hb3
    generalize strOf [] = st at *
    have hee : (st.toList == st.toList) = true := by simp
    go_wp2
    go_ret
    exact ⟨rfl, KB3.out⟩

end Go.Proofs.YtchpnbcagbjnnaaDoor
