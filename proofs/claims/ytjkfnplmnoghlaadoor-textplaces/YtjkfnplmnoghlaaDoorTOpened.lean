/- The law's own example (opened): it is so. -/
import Derived.Test.YtjkfnplmnoghlaaDoorTApply
import Derived.Test.YtjkfnplmnoghlaaDoorTEx
namespace Go.Proofs.YtjkfnplmnoghlaaDoor
set_option linter.unusedVariables false
set_option linter.unusedSimpArgs false
set_option maxRecDepth 100000
open Go Go.RowKit Go.Shelf Go.Lib

set_option maxHeartbeats 8000000 in
theorem opened_calls (w : World) (hK : Know w) :
    Calls Tryd.prog 10 #[] w fun e w' => e = .returned (.bool true) ∧ Below w.heap.size w w' := by
  have HK := hide hK
  clear hK
  have ho := open_calls w 1 exT 5 HK.out (by decide) exT_small exT_n1 exT_n2 exT_n3
  rw [exT_str] at ho
  have HO := hide ho
  clear ho
  go_enter Tryd.func10, Tryd.ntmps10
  go_wp2_with fail
  refine HO.out.mono ?_
  clear HO
  rintro e w1 ⟨D, b, c, lo, ln, lc, rfl, hD0, hD1, hD, hbd, hb1⟩
  have hb2 := bel w1 (.cells #[.bool true, .int .i64 1, .int .i64 1, .int .i64 1, .int .i64 1, .string ⟨#[120]⟩] 52)
  have ha := apply_calls (w1.alloc (.cells #[.bool true, .int .i64 1, .int .i64 1, .int .i64 1, .int .i64 1, .string ⟨#[120]⟩] 52)) D 1 2 b 0 c lo ln lc none 0 0 exT w1.heap.size 1 1 1 1 exX 1 4 4 (BoxC.below hD hb2) (by rw [exX_str]; exact BoxC.new w1 _ _) (hbd.below hb2) (HK.out.below (bafter hb1 hb2 (by have := hb1.size; omega))) (by decide) (by decide) exX_small exX_n1 exX_n2 exX_n3 (fun r h => exT_off h) (fun r h => exT_off h) (Nat.le_refl _) (by decide)
  rw [exN_is] at ha
  have HA := hide ha
  have HB2 := hide (bafter hb1 hb2 (by have := hb1.size; omega))
  have HD0 := hide hD0
  have HD1 := hide hD1
  clear ha hb2 hb1 hbd hD hD0 hD1
  go_wp2_with fail
  refine HA.out.mono ?_
  clear HA
  rintro e w3 ⟨ao, c3, lo3, ln3, lc3, eb, ec, rfl, hD, hbd, hed, hb3⟩
  have HD3 := hide hD
  have HBD := hide hbd
  have HED := hide hed
  have HB3 := hide (HB2.out.trans (hb3.mono HD0.out))
  clear hD hbd hed hb3
  go_wp2_with fail
  refine (dedits_calls w3 D 2 ao _ c3 lo3 ln3 lc3 eb 0 ec [(((4 : Nat) : Int), ((4 : Nat) : Int), ((exX.length : Nat) : Int))] HD3.out HED.out (by decide)).mono ?_
  rintro e w4 ⟨rv, rfl, hy, hb4⟩
  obtain ⟨ro, rc, rfl, hrc, hrs⟩ := hy
  obtain ⟨b5, o5, rfl, q0, q1, q2⟩ := hrs 0 _ rfl
  have HD4 : Hid (DocAt w4 D 2 ao exN.length c3 lo3 ln3 lc3 (some ⟨eb, 0, none⟩) 1 ec) := BoxC.below HD3.out hb4
  have HBD4 := hide (HBD.out.below hb4)
  have HB4 := hide (bafter HB3.out hb4 (by have := HB3.out.size; omega))
  have Q0 := hide q0
  have Q1 := hide q1
  have Q2 := hide q2
  clear hb4 hrc hrs q0 q1 q2 HD3 HBD HED HB3
  obtain ⟨⟨ao', c', e', hs, hcs⟩, hcap, hnone⟩ := id HBD4.out.1
  obtain ⟨b6, o6, e6, _⟩ := hcs 0 (by decide)
  have ea : ao = some ⟨b6, o6, none⟩ := by cases e'; exact e6
  subst ea
  clear e' hs hcs hcap hnone e6
  go_wp2_with fail
  refine (bytes_calls w4 D 2 ⟨b6, o6, none⟩ c3 exN lo3 ln3 lc3 _ _ _ HD4.out HBD4.out.1 (by decide)).mono ?_
  rintro e w5 ⟨ao5, c5, rfl, hy5, hb5⟩
  have hcv := conv_byts hy5.1
  rw [exN_str] at hcv
  have v0 : w5.cell? ⟨D, 0, none⟩ = some (.int .i64 2) := (BoxC.below HD4.out hb5).cell 0
  have m0 : w5.cell? ⟨b5, o5 + 0 * 3, none⟩ = some (.int .i64 4) := (hb5.cell (p := ⟨b5, o5 + 0 * 3, none⟩) (block_lt Q0.out)).trans Q0.out
  have m1 : w5.cell? ⟨b5, o5 + 0 * 3 + 1, none⟩ = some (.int .i64 4) := (hb5.cell (p := ⟨b5, o5 + 0 * 3 + 1, none⟩) (block_lt Q1.out)).trans Q1.out
  have m2 : w5.cell? ⟨b5, o5 + 0 * 3 + 2, none⟩ = some (.int .i64 1) := (hb5.cell (p := ⟨b5, o5 + 0 * 3 + 2, none⟩) (block_lt Q2.out)).trans Q2.out
  simp only [Nat.zero_mul, Nat.add_zero] at m0 m1 m2
  have HB5 := hide (bafter HB4.out hb5 (by have := HB4.out.size; omega))
  clear hy5 hb5 HD4 HBD4 Q0 Q1 Q2 HB4
  go_wp2
  go_ret
  exact ⟨rfl, HB5.out⟩

end Go.Proofs.YtjkfnplmnoghlaaDoor
