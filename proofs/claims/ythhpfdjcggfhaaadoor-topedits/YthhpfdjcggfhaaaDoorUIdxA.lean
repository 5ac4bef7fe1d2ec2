/- bytes.IndexAny at the two ends of lines: the first byte 10 or 13. -/
import Derived.Test.YthhpfdjcggfhaaaDoorUIdx1
namespace Go.Proofs.YthhpfdjcggfhaaaDoor
set_option linter.unusedVariables false
set_option linter.unusedSimpArgs false
set_option maxRecDepth 1000000
open Go Go.RowKit Go.Shelf Go.Lib

set_option maxHeartbeats 4000000 in
theorem idx_long (w : World) (ao : Option Addr) (cap : Nat) (T : List Nat) (h : Byts w (.slice ao T.length cap) T) (hl : 8 < T.length) (hlen : T.length ≤ 1000000000) :
    Calls Tryd.prog 58 #[.slice ao T.length cap, .string endsStr] w fun e w' => ∃ r, e = .returned (.int .i64 r) ∧ Ends T r ∧ Below w.heap.size w w' := by
  have H := hide h
  obtain ⟨ao', cap', e, hb, hc⟩ := h
  cases e
  obtain ⟨b, off, rfl, _⟩ := hc 0 (by omega)
  clear hc
  have hemp := endsEmp
  have hn1 := endsOne
  have hl1 : ((T.length : Int) == 1) = false := beq_eq_false_iff_ne.2 (by omega)
  have h8z : decide ((8 : Int) < (T.length : Int)) = true := decide_eq_true (by omega)
  have hz := zeroSet
  have hsz := setCells_size endsStr.data.toList
  have hM := hide (makeSet_calls w endsStr (by rw [endsStr_size]; omega) endsL)
  have HS := hide (fun x (hx : x < 256) => set_at hx)
  have hst := run_storeCells_new (P := Tryd.prog) (w.alloc (.cells (setCells endsStr.data.toList) 117)) 117 (Array.replicate 256 (.bool false)) (setCells endsStr.data.toList) (by rw [hsz]; exact sizeSet) (by rw [hsz]; simp) (setCells_one _)
  simp only [World.size_alloc] at hst
  generalize hC : setCells endsStr.data.toList = C at *
  clear hC
  go_enter Tryd.func58, Tryd.ntmps58
  go_wp2_with (first
    | (go_at_call 63; refine (should_calls _ _).mono ?_; rintro e w' ⟨rfl, hw⟩; rw [hw, h8z]; clear hw)
    | (go_at_call 64; refine hM.out.mono ?_; rintro e w' ⟨rfl, hw⟩; rw [hw]; clear hw))
  try (simp only [hst, Result.andThen]; rw [Oper.upon_skip]; go_wp2)
  clear hM hst
  have hB0 : Below w.heap.size w ((w.alloc (.cells C 117)).alloc (.cells C 117)) := ((Below.refl _ w).alloc (Nat.le_refl _) _).alloc (by simp) _
  have KB := hide hB0
  have HC : Hid (∀ x, x < 256 → ((w.alloc (.cells C 117)).alloc (.cells C 117)).cell? ⟨w.heap.size + 1, x, none⟩ = some (.bool (decide (x = 10) || decide (x = 13)))) := fun x hx => by
    rw [World.cell?_alloc_at _ _ _ _ (by simp), HS.out x hx]
  have HT := hide (H.out.below hB0)
  clear hB0 HS
  generalize hw2 : (w.alloc (.cells C 117)).alloc (.cells C 117) = w2 at *
  go_loopg [62] T.length (fun g s62 wx => ∃ i : Nat, i + g = T.length ∧ s62 = .int .i64 (i : Int) ∧ wx = w2 ∧ NoEnd T i)
  case atStart => exact ⟨0, by omega, rfl, rfl, NoEnd.zero T⟩
  case round =>
    obtain ⟨i, hig, rfl, rfl, hno⟩ := hrel
    have HN := hide hno
    clear hno
    cases gk with
    | zero =>
      obtain rfl : i = T.length := by omega
      have hiz : ¬ ((T.length : Int) < (T.length : Int)) := by omega
      clear hb
      go_wp2
      go_ret
      exact ⟨-1, rfl, ends_none HN.out, KB.out⟩
    | succ g =>
      have hi : i < T.length := by omega
      have hiz : (i : Int) < (T.length : Int) := by omega
      have hi0 : (0 : Int) ≤ (i : Int) := by omega
      have hx := nth_lt hb i
      have c0 : wr.cell? ⟨b, off + i, none⟩ = some (.int .u8 ((nth T i : Nat) : Int)) := by
        obtain ⟨_, _, e, _, hc⟩ := HT.out
        cases e
        obtain ⟨b', off', e, hc⟩ := hc i hi
        cases e
        exact hc
      have hcx := HC.out _ hx
      generalize hX : nth T i = x at *
      have HX := hide hX
      clear hX hb
      by_cases hin : x = 10 ∨ x = 13
      · rw [show (decide (x = 10) || decide (x = 13)) = true by simpa using hin] at hcx
        have HI := hide hin
        clear hin
        go_wp2_with (go_at_call 65; refine (contains_calls _ _ _ _ hx hcx).mono ?_; rintro e w' ⟨rfl, hw⟩; rw [hw]; clear hw)
        go_ret
        exact ⟨_, rfl, ends_hit HN.out hi (by rw [HX.out]; exact HI.out), KB.out⟩
      · rw [show (decide (x = 10) || decide (x = 13)) = false by simpa using hin] at hcx
        have HI := hide hin
        clear hin
        go_wp2_with (go_at_call 65; refine (contains_calls _ _ _ _ hx hcx).mono ?_; rintro e w' ⟨rfl, hw⟩; rw [hw]; clear hw)
        go_roundg g
        case measure => omega
        case rel => exact ⟨i + 1, by omega, by first | rfl | simp, rfl, HN.out.step (by rw [HX.out]; exact not_or.1 HI.out)⟩

end Go.Proofs.YthhpfdjcggfhaaaDoor
