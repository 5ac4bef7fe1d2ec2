/- bytes.IndexAny at the two ends of lines: the first byte 10 or 13. -/
import Derived.Test.YthhpfdjcggfhaaaDoorUIdx1
namespace Go.Proofs.YthhpfdjcggfhaaaDoor
set_option linter.unusedVariables false
set_option linter.unusedSimpArgs false
set_option maxRecDepth 1000000
open Go Go.RowKit Go.Shelf Go.Lib

set_option maxHeartbeats 4000000 in
theorem idx_one (w : World) (ao : Option Addr) (cap : Nat) (T : List Nat) (h : Byts w (.slice ao T.length cap) T) (hl : T.length = 1) :
    Calls Tryd.prog 58 #[.slice ao T.length cap, .string endsStr] w fun e w' => ∃ r, e = .returned (.int .i64 r) ∧ Ends T r ∧ Below w.heap.size w w' := by
  obtain ⟨ao', cap', e, hb, hc⟩ := h
  cases e
  obtain ⟨b, off, rfl, c0⟩ := hc 0 (by omega)
  rw [Nat.add_zero] at c0
  have hx := nth_lt hb 0
  clear hc hb
  have hemp := endsEmp
  have hn1 := endsOne
  have hl1 : ((T.length : Int) == 1) = true := beq_iff_eq.2 (by omega)
  have hl0 : (0 : Int) < (T.length : Int) := by omega
  have HL := hide hl
  clear hl
  have hib := run_idxb
  generalize hX : nth T 0 = x at *
  have HX := hide hX
  clear hX
  have hw32 : IntKind.i32.wrap (x : Int) = (x : Int) := by rw [IntKind.wrap_i32]; omega
  by_cases h7 : x < 128
  · have h7' : ¬ (128 : Int) ≤ (x : Int) := by omega
    by_cases hin : x = 10 ∨ x = 13
    · have hge := idxb_hit hx hin
      have HI := hide hin
      clear hin
      go_enter Tryd.func58, Tryd.ntmps58
      go_wp2
      go_ret
      exact ⟨0, rfl, ends_hit (k := 0) (NoEnd.zero T) (by have := HL.out; omega) (by rw [HX.out]; exact HI.out), Below.refl _ _⟩
    · have hge := idxb_miss hx (not_or.1 hin)
      have HI := hide hin
      clear hin
      go_enter Tryd.func58, Tryd.ntmps58
      go_wp2
      go_ret
      exact ⟨-1, rfl, ends_none (by rw [HL.out]; exact (NoEnd.zero T).step (by rw [HX.out]; exact not_or.1 HI.out)), Below.refl _ _⟩
  · have h7' : (128 : Int) ≤ (x : Int) := by omega
    go_enter Tryd.func58, Tryd.ntmps58
    go_wp2
    go_loopg [5] 2 (fun g s5 wx => ∃ i : Nat, i + g = 2 ∧ wx = w.iter endsStr i)
    case atStart => exact ⟨0, by omega, rfl⟩
    case round =>
      obtain ⟨i, hig, rfl⟩ := hrel
      cases gk with
      | zero =>
        obtain rfl : i = 2 := by omega
        have hnx := fun ty => run_next_end (P := Tryd.prog) w endsStr 2 ty (by rw [endsStr_size]; omega)
        go_wp2
        go_ret
        exact ⟨-1, rfl, ends_none (by rw [HL.out]; exact (NoEnd.zero T).step (by rw [HX.out]; omega)), (Below.refl _ _).alloc (Nat.le_refl _) _⟩
      | succ g =>
        have hi : i < endsStr.size := by rw [endsStr_size]; omega
        have hnx := fun ty => run_next_ascii (P := Tryd.prog) w endsStr i ty hi (endsL i _ (data_getElem? endsStr i hi))
        obtain ⟨y, hy⟩ : ∃ y : UInt8, endsStr[i]'hi = y := ⟨_, rfl⟩
        have hy2 := endsL i _ (data_getElem? endsStr i hi)
        rw [hy] at hnx hy2
        have hne : ((y.toNat : Int) == 65533) = false := beq_eq_false_iff_ne.2 (by omega)
        clear hy
        go_wp2
        go_roundg g
        case measure => omega
        case rel => exact ⟨i + 1, by omega, rfl⟩

end Go.Proofs.YthhpfdjcggfhaaaDoor
