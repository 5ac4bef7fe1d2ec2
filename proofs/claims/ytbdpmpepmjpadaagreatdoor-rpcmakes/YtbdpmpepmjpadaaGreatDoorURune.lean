/- The contract of DecodeRune. -/
import Derived.Test.YtbdpmpepmjpadaaGreatDoorUDec
namespace Go.Proofs.YtbdpmpepmjpadaaGreatDoor
set_option linter.unusedVariables false
set_option linter.unusedSimpArgs false
set_option maxRecDepth 100000
open Go Go.RowKit Go.Shelf Go.Lib

theorem decL_ascii {T : List Nat} (h0 : 0 < T.length) (h : nth T 0 < 128) : decL T = (nth T 0, 1) := by
  unfold decL
  rw [if_neg (by omega)]
  unfold decodeN
  rw [if_pos h]

set_option maxHeartbeats 2000000 in
theorem drune_calls (w : World) (v : Value) (T : List Nat) (h : Byts w v T) (hT : Utf8Tabs 0 1 w) :
    Calls Tryz.prog 88 #[v] w fun e w' => e = .returned (.tuple #[.int .i32 (((decL T).1 : Nat) : Int), .int .i64 (((decL T).2 : Nat) : Int)]) ∧ Below w.heap.size w w' := by
  have H := hide h
  have HT := hide hT
  obtain ⟨ao, cap, rfl, hb, hc⟩ := h
  clear hT
  by_cases h0 : T.length = 0
  · obtain rfl : T = [] := List.length_eq_zero_iff.1 h0
    have H0 : Hid (Byts w (.slice ao 0 cap) []) := H.out
    have HD := hide (dslow_calls _ _ _ H0.out HT.out)
    clear hc hb H h0
    show Calls Tryz.prog 88 #[.slice ao 0 cap] w _
    go_enter Tryz.func88, Tryz.ntmps88
    go_wp2
    go_loopw [8] (fun i wr => i = .int .i64 0 ∧ wr = w) (fun _ _ => 0)
    case atStart => exact ⟨rfl, rfl⟩
    case round =>
      obtain ⟨rfl, rfl⟩ := hrel
      go_wp2_with fail
      refine HD.out.mono ?_
      rintro e w1 ⟨rfl, hb1⟩
      go_wp2
      go_ret2
      exact ⟨rfl, hb1⟩
  · obtain ⟨b, off, rfl, _⟩ := hc 0 (by omega)
    have hz0 : (0 : Int) < (T.length : Int) := by omega
    have c0 := Byts.at (n := 0) (cap := 0) hc (show 0 < T.length by omega)
    rw [Nat.add_zero] at c0
    have Hd := hide (decL_ascii (T := T) (by omega))
    clear hc hb
    by_cases h7 : nth T 0 < 128
    · have h7' : ((nth T 0 : Nat) : Int) < 128 := by omega
      have Hd' := hide (Hd.out h7)
      clear Hd h7
      generalize nth T 0 = x0 at c0 h7' Hd'
      go_enter Tryz.func88, Tryz.ntmps88
      go_wp2
      go_loopw [8] (fun i wr => i = .int .i64 0 ∧ wr = w) (fun _ _ => 0)
      case atStart => exact ⟨rfl, rfl⟩
      case round =>
        obtain ⟨rfl, rfl⟩ := hrel
        have hw32 : IntKind.i32.wrap (x0 : Int) = (x0 : Int) := by rw [IntKind.wrap_i32]; omega
        go_wp2
        go_ret2
        exact ⟨by rw [Hd'.out]; rfl, Below.refl _ _⟩
    · have h7' : ¬ ((nth T 0 : Nat) : Int) < 128 := by omega
      have HD := hide (dslow_calls _ _ _ H.out HT.out)
      clear Hd h7
      generalize nth T 0 = x0 at c0 h7'
      go_enter Tryz.func88, Tryz.ntmps88
      go_wp2
      go_loopw [8] (fun i wr => i = .int .i64 0 ∧ wr = w) (fun _ _ => 0)
      case atStart => exact ⟨rfl, rfl⟩
      case round =>
        obtain ⟨rfl, rfl⟩ := hrel
        go_wp2_with fail
        refine HD.out.mono ?_
        rintro e w1 ⟨rfl, hb1⟩
        go_wp2
        go_ret2
        exact ⟨rfl, hb1⟩

end Go.Proofs.YtbdpmpepmjpadaaGreatDoor
