/- Json: the writer: need, isNumber, a number. -/
import Derived.Test.YtacgocfgcoejpaaDoorJWr
namespace Go.Proofs.YtacgocfgcoejpaaDoor
set_option linter.unusedVariables false
set_option linter.unusedSimpArgs false
set_option maxRecDepth 100000
open Go Go.RowKit Go.Shelf Go.Lib

set_option maxHeartbeats 1000000 in
theorem need_calls (w : World) (e0 : Value) :
    Calls Tryd.prog 35 #[.bool true, e0] w fun e w' => e = .returned (.tuple #[]) ∧ w' = w := by
  go_enter Tryd.func35, Tryd.ntmps35
  go_wp2
  go_end0
  exact ⟨rfl, rfl⟩

/-- A number's text. -/
def NumT (S : List Nat) : Prop := (∀ x ∈ S, x < 256) ∧ S.length ≤ 1000000 ∧ numEnd S 0 = (S.length, true)

set_option maxHeartbeats 2000000 in
theorem isNumber_calls (w : World) (S : List Nat) (h : NumT S) :
    Calls Tryd.prog 36 #[.string (strOf S)] w fun e w' => e = .returned (.bool true) ∧ Below w.heap.size w w' := by
  obtain ⟨cp, w1, hcv, hby, hcp, hb1, _⟩ := conv_str w S h.1
  have HN := hide (numberEnd_calls w1 _ _ 0 S hby (Nat.zero_le _) (by have := h.2.1; omega))
  rw [h.2.2] at HN
  have hsz := strOf_size S
  have HB := hide hb1
  clear hby hcp hb1 h
  generalize strOf S = s at *
  have deq : ((S.length : Int) == (S.length : Int)) = true := by simp
  go_enter Tryd.func36, Tryd.ntmps36
  go_wp2_with fail
  refine HN.out.mono ?_
  rintro e w2 ⟨rfl, hw⟩
  rw [hw]
  clear hw
  go_wp2
  go_ret
  exact ⟨rfl, HB.out⟩

set_option maxHeartbeats 4000000 in
theorem wnumber_calls (n₀ : Nat) (w : World) (B : Nat) (L S : List Nat) (d : Nat) (kv lv : Value) (hk : IsSl kv) (hl : IsSl lv) (h : WrJ n₀ w B L d) (hS : NumT S) (hlen : L.length + S.length ≤ 1000000000) :
    Calls Tryd.prog 21 #[.pointer (some ⟨B, 0, none⟩), vagg (3, strOf S, kv, lv)] w fun e w' => e = .returned (.tuple #[]) ∧ WrJ n₀ w' B (L ++ S) d ∧ FrW n₀ B w w' := by
  obtain ⟨ka, kn, kc, rfl⟩ := hk
  obtain ⟨la, ln, lc, rfl⟩ := hl
  unfold vagg
  simp only
  have hb0 : Below w.heap.size w ((w.alloc (.cells #[.pointer (some ⟨B, 0, none⟩)] 56)).alloc (.cells #[.int .i64 3, .string (strOf S), .slice ka kn kc, .slice la ln lc] 25)) := (bel w _).alloc (by simp) _
  have hp0 := (BoxC.new w 56 #[.pointer (some ⟨B, 0, none⟩)]).alloc (.cells #[.int .i64 3, .string (strOf S), .slice ka kn kc, .slice la ln lc] 25)
  have hv0 := BoxC.new (w.alloc (.cells #[.pointer (some ⟨B, 0, none⟩)] 56)) 25 #[.int .i64 3, .string (strOf S), .slice ka kn kc, .slice la ln lc]
  rw [World.size_alloc] at hv0
  generalize hw0 : ((w.alloc (.cells #[.pointer (some ⟨B, 0, none⟩)] 56)).alloc (.cells #[.int .i64 3, .string (strOf S), .slice ka kn kc, .slice la ln lc] 25)) = w0 at *
  have h0 := h.below hb0
  have HI := hide (fun W (hW : Below w0.heap.size w0 W) => isNumber_calls W S hS)
  have HI0 := hide (isNumber_calls w0 S hS)
  have HA := hide (fun W (hW : Below w0.heap.size w0 W) => add_calls n₀ W B L S d (h0.below hW) hS.1 hlen)
  have HW0 := hide hw0
  have HB0 := hide hb0
  have HP := hide hp0
  have HV := hide hv0
  have v0 : w0.cell? ⟨w.heap.size + 1, 0, none⟩ = some (.int .i64 3) := hv0.cell 0
  have v1 : w0.cell? ⟨w.heap.size + 1, 1, none⟩ = some (.string (strOf S)) := hv0.cell 1
  have lV := hv0.lt
  clear h0 hw0 hb0 hp0 hv0 hS hlen h
  generalize strOf S = s at *
  go_enter Tryd.func21, Tryd.ntmps21
  go_upto_region 1 with fail
  rw [HW0.out]
  clear HW0
  go_wp2_with fail
  refine HI0.out.mono ?_
  rintro e w1 ⟨rfl, hB1⟩
  have hp1 := HP.out.below hB1
  have hv1 := HV.out.below hB1
  have q0 : w1.cell? ⟨w.heap.size, 0, none⟩ = some (.pointer (some ⟨B, 0, none⟩)) := hp1.cell 0
  have lP1 := hp1.lt
  have lV1 := hv1.lt
  have v11 : w1.cell? ⟨w.heap.size + 1, 1, none⟩ = some (.string s) := hv1.cell 1
  have HB1 := hide hB1
  clear hB1 hp1 hv1 v0 v1 lV
  go_wp2_with fail
  refine (need_calls w1 _).mono ?_
  rintro e w2 ⟨rfl, hw⟩
  rw [hw]
  clear hw
  go_wp2_with fail
  refine (HA.out _ HB1.out).mono ?_
  rintro e w3 ⟨rfl, hwr, hfw⟩
  have HR := hide (And.intro hwr ((FrW.of (HB0.out.trans (HB1.out.mono HB0.out.size)) : FrW n₀ B w w1).trans hfw))
  clear hwr hfw
  go_wp2
  go_end0
  exact ⟨rfl, HR.out⟩

end Go.Proofs.YtacgocfgcoejpaaDoor
