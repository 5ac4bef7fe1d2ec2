/- The contracts of isNumber and groupOf: a text that is a number, and what a group of digits is worth. -/
import Derived.Test.YtlfbhbeoodmccaaDoorTextMath
namespace Go.Proofs.YtlfbhbeoodmccaaDoor
set_option linter.unusedVariables false
set_option linter.unusedSimpArgs false
open Go Go.RowKit Go.Shelf

theorem toList_false {s : ByteArray} (h : s.size ≠ 0) : ¬ s.toList = [] := by
  intro e
  have := congrArg List.length e
  rw [ByteArray.toList_eq] at this
  simp only [Array.length_toList, List.length_nil] at this
  exact h this

theorem isEmpty_false {s : ByteArray} (h : s.size ≠ 0) : s.toList.isEmpty = false := by
  cases he : s.toList with
  | nil => exact absurd he (toList_false h)
  | cons a r => rfl

theorem isNum_not {l : List Nat} {k : Nat} (hk : k < l.length) (h : nth l k < 48 ∨ 57 < nth l k) : ¬ IsNum l := by
  rintro ⟨_, _, h3⟩
  have := h3 k hk
  omega

set_option maxRecDepth 100000 in
set_option maxHeartbeats 1000000 in
theorem isNumber_calls (s : ByteArray) (w : World) (hs : s.size ≤ 1048576) :
    Calls Tryd.prog 76 #[.string s] w fun e w' => (IsNum (bl s) → e = .returned (.bool true)) ∧ (¬ IsNum (bl s) → e = .returned (.bool false)) ∧ w' = w := by
  by_cases h0 : s.size = 0
  · obtain rfl : s = ⟨#[]⟩ := ByteArray.ext (Array.eq_empty_of_size_eq_zero h0)
    go_enter Tryd.func76, Tryd.ntmps76
    go_wp2
    go_ret
    refine ⟨fun h => ?_, fun _ => rfl, rfl⟩
    have := h.1
    simp [bl] at this
  · have he := toList_false h0
    have he2 := isEmpty_false h0
    have hpos : 0 < s.size := by omega
    have hb := byte_at s 0 hpos
    have hlen := hide (bl_length s)
    by_cases h48 : nth (bl s) 0 = 48
    · rw [h48] at hb
      by_cases h1 : 1 < s.size
      · have Hn : Hid (¬ IsNum (bl s)) := fun h => h.2.1 (by rw [hlen.out]; exact h1) h48
        clear h48
        go_enter Tryd.func76, Tryd.ntmps76
        go_wp2
        go_ret
        exact ⟨fun h => absurd h Hn.out, fun _ => rfl, rfl⟩
      · have Hz : Hid (1 < (bl s).length → nth (bl s) 0 ≠ 48) := fun h => by rw [hlen.out] at h; omega
        clear h48
        go_enter Tryd.func76, Tryd.ntmps76
        go_wp2
        go_loopw [18] (fun iv wr => ∃ k : Nat, k ≤ s.size ∧ iv = .int .i64 (k : Int) ∧ Hid (∀ j, j < k → 48 ≤ nth (bl s) j ∧ nth (bl s) j ≤ 57) ∧ wr = w) (fun iv _ => s.size - (intOf iv).toNat)
        case atStart => exact ⟨0, by omega, rfl, fun j hj => absurd hj (by omega), rfl⟩
        case round =>
          obtain ⟨k, hk, rfl, hD, rfl⟩ := hrel
          by_cases hkn : k < s.size
          · have hbk := byte_at s k hkn
            generalize hc : nth (bl s) k = c at hbk
            have Hc := hide hc
            clear hc
            by_cases c1 : c < 48
            · have Hn := hide (isNum_not (l := bl s) (k := k) (by rw [hlen.out]; exact hkn) (.inl (by rw [Hc.out]; exact c1)))
              go_wp2
              go_ret
              exact ⟨fun h => absurd h Hn.out, fun _ => rfl, rfl⟩
            · by_cases c2 : 57 < c
              · have Hn := hide (isNum_not (l := bl s) (k := k) (by rw [hlen.out]; exact hkn) (.inr (by rw [Hc.out]; exact c2)))
                go_wp2
                go_ret
                exact ⟨fun h => absurd h Hn.out, fun _ => rfl, rfl⟩
              · go_wp2
                go_roundw
                case rel =>
                  refine ⟨k + 1, by omega, by go_num, fun j hj => ?_, trivial⟩
                  rcases Nat.lt_or_ge j k with h | h
                  · exact hD.out j h
                  · obtain rfl : j = k := by omega
                    rw [Hc.out]
                    omega
                case measure => simp [intOf]; omega
          · obtain rfl : k = s.size := by omega
            have Hy : Hid (IsNum (bl s)) := ⟨by rw [hlen.out]; exact hpos, Hz.out, fun j hj => hD.out j (by rw [hlen.out] at hj; exact hj)⟩
            go_wp2
            go_ret
            exact ⟨fun _ => rfl, fun h => absurd Hy.out h, rfl⟩
    · have Hz : Hid (1 < (bl s).length → nth (bl s) 0 ≠ 48) := fun _ => h48
      generalize hc0 : nth (bl s) 0 = c0 at hb h48
      have Hc0 := hide hc0
      clear hc0
      go_enter Tryd.func76, Tryd.ntmps76
      go_wp2
      go_loopw [18] (fun iv wr => ∃ k : Nat, k ≤ s.size ∧ iv = .int .i64 (k : Int) ∧ Hid (∀ j, j < k → 48 ≤ nth (bl s) j ∧ nth (bl s) j ≤ 57) ∧ wr = w) (fun iv _ => s.size - (intOf iv).toNat)
      case atStart => exact ⟨0, by omega, rfl, fun j hj => absurd hj (by omega), rfl⟩
      case round =>
        obtain ⟨k, hk, rfl, hD, rfl⟩ := hrel
        by_cases hkn : k < s.size
        · have hbk := byte_at s k hkn
          generalize hc : nth (bl s) k = c at hbk
          have Hc := hide hc
          clear hc
          by_cases c1 : c < 48
          · have Hn := hide (isNum_not (l := bl s) (k := k) (by rw [hlen.out]; exact hkn) (.inl (by rw [Hc.out]; exact c1)))
            go_wp2
            go_ret
            exact ⟨fun h => absurd h Hn.out, fun _ => rfl, rfl⟩
          · by_cases c2 : 57 < c
            · have Hn := hide (isNum_not (l := bl s) (k := k) (by rw [hlen.out]; exact hkn) (.inr (by rw [Hc.out]; exact c2)))
              go_wp2
              go_ret
              exact ⟨fun h => absurd h Hn.out, fun _ => rfl, rfl⟩
            · go_wp2
              go_roundw
              case rel =>
                refine ⟨k + 1, by omega, by go_num, fun j hj => ?_, trivial⟩
                rcases Nat.lt_or_ge j k with h | h
                · exact hD.out j h
                · obtain rfl : j = k := by omega
                  rw [Hc.out]
                  omega
              case measure => simp [intOf]; omega
        · obtain rfl : k = s.size := by omega
          have Hy : Hid (IsNum (bl s)) := ⟨by rw [hlen.out]; exact hpos, Hz.out, fun j hj => hD.out j (by rw [hlen.out] at hj; exact hj)⟩
          go_wp2
          go_ret
          exact ⟨fun _ => rfl, fun h => absurd Hy.out h, rfl⟩

/-- A group of digits. -/
theorem groupOf_calls (s : ByteArray) (w : World) (hs : s.size ≤ 9) (hd : AllDig (bl s)) :
    Calls Tryd.prog 78 #[.string s] w fun e w' => e = .returned (.int .u32 ((gval (bl s) : Nat) : Int)) ∧ w' = w := by
  have hlen := hide (bl_length s)
  have Hd := hide hd
  clear hd
  go_enter Tryd.func78, Tryd.ntmps78
  go_wp2
  go_loopw [3, 7] (fun nv iv wr => ∃ (k n : Nat), k ≤ s.size ∧ iv = .int .i64 (k : Int) ∧ nv = .int .u32 (n : Int) ∧ Hid (n = gval ((bl s).take k)) ∧ wr = w) (fun _ iv _ => s.size - (intOf iv).toNat)
  case atStart => exact ⟨0, 0, by omega, rfl, rfl, rfl, rfl⟩
  case round =>
    obtain ⟨k, n, hk, rfl, rfl, hn, rfl⟩ := hrel
    by_cases hkn : k < s.size
    · have hbk := byte_at s k hkn
      have hdk := Hd.out k (by rw [hlen.out]; exact hkn)
      have hstep := hide (gval_take_succ (bl s) k (by rw [hlen.out]; exact hkn))
      have hnb : n < 100000000 := by
        have h1 := gval_lt (Hd.out.take k)
        rw [← hn.out] at h1
        have h2 : 10 ^ ((bl s).take k).length ≤ 10 ^ 8 := Nat.pow_le_pow_right (by decide) (by rw [List.length_take]; omega)
        omega
      generalize hc : nth (bl s) k = c at hbk hdk
      have Hc := hide hc
      clear hc
      go_wp2
      go_roundw
      case rel =>
        refine ⟨k + 1, n * 10 + (c - 48), by omega, by go_num, ?_, ?_, trivial⟩
        · congr 1
          omega
        · show _ = _
          rw [hstep.out, hn.out, Hc.out]
      case measure => simp [intOf]; omega
    · obtain rfl : k = s.size := by omega
      have e1 : Hid (n = gval (bl s)) := by
        show _ = _
        rw [hn.out, List.take_of_length_le (by rw [hlen.out]; exact Nat.le_refl _)]
      go_wp2
      go_ret
      exact ⟨by rw [e1.out]; rfl, rfl⟩

end Go.Proofs.YtlfbhbeoodmccaaDoor
