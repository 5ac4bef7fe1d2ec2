/- The reference's Parse and Text. -/
import Derived.Test.YtpenhmkodakpaaaDoorGroup
import Derived.Test.YtpenhmkodakpaaaDoorRGcd
namespace Go.Proofs.YtpenhmkodakpaaaDoor
set_option linter.unusedVariables false
set_option linter.unusedSimpArgs false
open Go Go.RowKit Go.Shelf

/-- The digits of the text's end, the lowest first. -/
def tails (l : List Nat) (k : Nat) : List Nat := ((l.drop k).map (fun x => x - 48)).reverse

theorem tails_step {l : List Nat} {j : Nat} (hj : j < l.length) : tails l j = tails l (j + 1) ++ [nth l j - 48] := by
  unfold tails
  rw [List.drop_eq_getElem_cons hj, List.map_cons, List.reverse_cons, nth_eq hj]

theorem tails_length (l : List Nat) (k : Nat) : (tails l k).length = l.length - k := by simp [tails]

theorem tails_zero (l : List Nat) : val 10 (tails l 0) = gval l := by simp [tails, gval]

set_option maxRecDepth 100000 in
set_option maxHeartbeats 2000000 in
theorem rparse_calls (s : ByteArray) (w : World) (hs : s.size ≤ 1000) :
    Calls Tryd.prog 78 #[.string s] w fun e w' => (¬ IsNum (bl s) → e = .returned (.tuple #[.slice none 0 0, .int .i64 6])) ∧ (IsNum (bl s) → ∃ rv, e = .returned (.tuple #[rv, .int .i64 0]) ∧ RRes w' rv (gval (bl s))) ∧ Below w.heap.size w w' := by
  have hlen := hide (bl_length s)
  obtain ⟨i0, hi, hz0, hz1, hz2⟩ := info_parts infoI64
  by_cases h0 : s.size = 0
  · obtain rfl : s = ⟨#[]⟩ := ByteArray.ext (Array.eq_empty_of_size_eq_zero h0)
    go_enter Tryd.func78, Tryd.ntmps78
    go_wp2
    go_ret2
    refine ⟨fun _ => rfl, fun h => ?_, Below.refl _ _⟩
    have := h.1
    simp [bl] at this
  · have he : ((s.size : Int) == 0) = false := beq_eq_false_iff_ne.2 (by omega)
    have hpos : 0 < s.size := by omega
    have hb := byte_at s 0 hpos
    by_cases hbad : 1 < s.size ∧ nth (bl s) 0 = 48
    · obtain ⟨h1, h48⟩ := hbad
      rw [h48] at hb
      have Hn : Hid (¬ IsNum (bl s)) := fun h => h.2.1 (by rw [hlen.out]; exact h1) h48
      clear h48
      go_enter Tryd.func78, Tryd.ntmps78
      go_wp2
      go_ret2
      exact ⟨fun _ => rfl, fun h => absurd h Hn.out, Below.refl _ _⟩
    · have Hz : Hid (1 < (bl s).length → nth (bl s) 0 ≠ 48) := fun h e => hbad ⟨by rw [hlen.out] at h; exact h, e⟩
      by_cases h1 : 1 < s.size
      · have h48 : ¬ nth (bl s) 0 = 48 := fun e => hbad ⟨h1, e⟩
        generalize hc0 : nth (bl s) 0 = c0 at hb h48
        have Hc0 := hide hc0
        have h48' : ((c0 : Int) == 48) = false := beq_eq_false_iff_ne.2 (by omega)
        have hgt : (1 : Int) < (s.size : Int) := by omega
        have hgt' : decide ((1 : Int) < (s.size : Int)) = true := decide_eq_true hgt
        clear hc0 hbad
        go_enter Tryd.func78, Tryd.ntmps78
        go_wp2
        go_loopw [4, 5] (fun ov iv wr => ∃ (k : Nat) (i : Int), iv = .int .i64 i ∧ i = (k : Int) - 1 ∧ k ≤ s.size ∧ Hid (Own w.heap.size wr ov (tails (bl s) k)) ∧ Hid (∀ j, k ≤ j → j < (bl s).length → 48 ≤ nth (bl s) j ∧ nth (bl s) j ≤ 57) ∧ Hid (Below w.heap.size w wr)) (fun _ iv _ => (intOf iv + 1).toNat)
        case atStart =>
          refine ⟨s.size, _, rfl, rfl, Nat.le_refl _, ?_, fun j hj hj2 => absurd hj2 (by rw [hlen.out]; omega), Below.refl _ _⟩
          have e : tails (bl s) s.size = [] := List.eq_nil_of_length_eq_zero (by rw [tails_length, hlen.out]; omega)
          rw [e]
          exact Own.nil _ _
        case round =>
          obtain ⟨k, i, rfl, hi2, hk, hO, hD, hB⟩ := hrel
          rcases Nat.eq_zero_or_pos k with rfl | hkp
          · obtain rfl : i = -1 := by omega
            have hno : ¬ ((-1 : Int) ≥ 0) := by omega
            have hall : AllDig (bl s) := fun j hj => hD.out j (by omega) hj
            have Hdg := hide (hO.out.digs (small_digs hall))
            have Hy : Hid (IsNum (bl s)) := ⟨by rw [hlen.out]; exact hpos, Hz.out, hall⟩
            have Htl := hide (tails_length (bl s) 0)
            clear hall hi2
            go_wp2_with fail
            refine (trim_res wr _ _ Hdg.out (by rw [Htl.out, hlen.out]; omega)).mono ?_
            rintro e w2 ⟨rv, rfl, hr, hb2⟩
            go_wp2
            go_ret2
            exact ⟨fun h => absurd Hy.out h, fun _ => ⟨_, rfl, by rw [← tails_zero]; exact hr.res⟩, bth hB.out hb2⟩
          · obtain ⟨j, rfl⟩ : ∃ j, k = j + 1 := ⟨k - 1, by omega⟩
            obtain rfl : i = (j : Int) := by omega
            have hjs : j < s.size := by omega
            have hbk := byte_at s j hjs
            have dge : (j : Int) ≥ 0 := by omega
            have hstep := hide (tails_step (l := bl s) (j := j) (by rw [hlen.out]; exact hjs))
            have Htl := hide (tails_length (bl s) (j + 1))
            generalize hc : nth (bl s) j = c at hbk
            have Hc := hide hc
            clear hc hi2
            by_cases c1 : c < 48
            · have Hn := hide (isNum_not (l := bl s) (k := j) (by rw [hlen.out]; exact hjs) (.inl (by rw [Hc.out]; exact c1)))
              go_wp2
              go_ret2
              exact ⟨fun _ => rfl, fun h => absurd h Hn.out, hB.out⟩
            · by_cases c2 : 57 < c
              · have Hn := hide (isNum_not (l := bl s) (k := j) (by rw [hlen.out]; exact hjs) (.inr (by rw [Hc.out]; exact c2)))
                go_wp2
                go_ret2
                exact ⟨fun _ => rfl, fun h => absurd h Hn.out, hB.out⟩
              · have hlt2 : (tails (bl s) (j + 1)).length ≤ 1000 := by rw [Htl.out, hlen.out]; omega
                generalize hds : tails (bl s) (j + 1) = ds at *
                have Hds := hide hds
                have hsub : (c : Int) - 48 = ((c - 48 : Nat) : Int) := by omega
                have hc48 : c - 48 < 10 := by omega
                clear hds
                go_wp2_with (at_builtin; go_must (refine wpList_append_own _ rfl (.tmp 36) (.tmp 42) 41 rfl w.heap.size 3 i0 (.int .i64 0) 1 8 Tryd.underlying41 hi hz0 hz1 hz2 rfl (by decide) _ ds.length (dcells ds) rfl (by exact World.ownsRow.alloc hO.out _) ⟨wr.heap.size, 0, none⟩ 1 1 [.int .i64 ((c - 48 : Nat) : Int)] rfl rfl (by exact World.news_of_block (World.alloc_heap_new _ _)) one_cell (by unfold maxLen; omega) (by omega) (by have := hB.out.size; simp; omega) ?_; intro v' w1 hown' hgrow hnil))
                have hp := Own.pushed hO.out hB.out (Nat.le_refl _) hB.out.size hown' hgrow
                go_roundw
                case rel =>
                  refine ⟨j, _, rfl, rfl, by omega, ?_, ?_, hp.2.1⟩
                  · have := hp.1
                    rw [hstep.out, Hc.out]
                    exact this
                  · intro t ht1 ht2
                    rcases Nat.eq_or_lt_of_le ht1 with h | h
                    · subst h
                      rw [Hc.out]
                      omega
                    · exact hD.out t (by omega) ht2
                case measure => simp [intOf]
      · clear hbad
        go_enter Tryd.func78, Tryd.ntmps78
        go_wp2
        go_loopw [4, 5] (fun ov iv wr => ∃ (k : Nat) (i : Int), iv = .int .i64 i ∧ i = (k : Int) - 1 ∧ k ≤ s.size ∧ Hid (Own w.heap.size wr ov (tails (bl s) k)) ∧ Hid (∀ j, k ≤ j → j < (bl s).length → 48 ≤ nth (bl s) j ∧ nth (bl s) j ≤ 57) ∧ Hid (Below w.heap.size w wr)) (fun _ iv _ => (intOf iv + 1).toNat)
        case atStart =>
          refine ⟨s.size, _, rfl, rfl, Nat.le_refl _, ?_, fun j hj hj2 => absurd hj2 (by rw [hlen.out]; omega), Below.refl _ _⟩
          have e : tails (bl s) s.size = [] := List.eq_nil_of_length_eq_zero (by rw [tails_length, hlen.out]; omega)
          rw [e]
          exact Own.nil _ _
        case round =>
          obtain ⟨k, i, rfl, hi2, hk, hO, hD, hB⟩ := hrel
          rcases Nat.eq_zero_or_pos k with rfl | hkp
          · obtain rfl : i = -1 := by omega
            have hno : ¬ ((-1 : Int) ≥ 0) := by omega
            have hall : AllDig (bl s) := fun j hj => hD.out j (by omega) hj
            have Hdg := hide (hO.out.digs (small_digs hall))
            have Hy : Hid (IsNum (bl s)) := ⟨by rw [hlen.out]; exact hpos, Hz.out, hall⟩
            have Htl := hide (tails_length (bl s) 0)
            clear hall hi2
            go_wp2_with fail
            refine (trim_res wr _ _ Hdg.out (by rw [Htl.out, hlen.out]; omega)).mono ?_
            rintro e w2 ⟨rv, rfl, hr, hb2⟩
            go_wp2
            go_ret2
            exact ⟨fun h => absurd Hy.out h, fun _ => ⟨_, rfl, by rw [← tails_zero]; exact hr.res⟩, bth hB.out hb2⟩
          · obtain ⟨j, rfl⟩ : ∃ j, k = j + 1 := ⟨k - 1, by omega⟩
            obtain rfl : i = (j : Int) := by omega
            have hjs : j < s.size := by omega
            have hbk := byte_at s j hjs
            have dge : (j : Int) ≥ 0 := by omega
            have hstep := hide (tails_step (l := bl s) (j := j) (by rw [hlen.out]; exact hjs))
            have Htl := hide (tails_length (bl s) (j + 1))
            generalize hc : nth (bl s) j = c at hbk
            have Hc := hide hc
            clear hc hi2
            by_cases c1 : c < 48
            · have Hn := hide (isNum_not (l := bl s) (k := j) (by rw [hlen.out]; exact hjs) (.inl (by rw [Hc.out]; exact c1)))
              go_wp2
              go_ret2
              exact ⟨fun _ => rfl, fun h => absurd h Hn.out, hB.out⟩
            · by_cases c2 : 57 < c
              · have Hn := hide (isNum_not (l := bl s) (k := j) (by rw [hlen.out]; exact hjs) (.inr (by rw [Hc.out]; exact c2)))
                go_wp2
                go_ret2
                exact ⟨fun _ => rfl, fun h => absurd h Hn.out, hB.out⟩
              · have hlt2 : (tails (bl s) (j + 1)).length ≤ 1000 := by rw [Htl.out, hlen.out]; omega
                generalize hds : tails (bl s) (j + 1) = ds at *
                have Hds := hide hds
                have hsub : (c : Int) - 48 = ((c - 48 : Nat) : Int) := by omega
                have hc48 : c - 48 < 10 := by omega
                clear hds
                go_wp2_with (at_builtin; go_must (refine wpList_append_own _ rfl (.tmp 36) (.tmp 42) 41 rfl w.heap.size 3 i0 (.int .i64 0) 1 8 Tryd.underlying41 hi hz0 hz1 hz2 rfl (by decide) _ ds.length (dcells ds) rfl (by exact World.ownsRow.alloc hO.out _) ⟨wr.heap.size, 0, none⟩ 1 1 [.int .i64 ((c - 48 : Nat) : Int)] rfl rfl (by exact World.news_of_block (World.alloc_heap_new _ _)) one_cell (by unfold maxLen; omega) (by omega) (by have := hB.out.size; simp; omega) ?_; intro v' w1 hown' hgrow hnil))
                have hp := Own.pushed hO.out hB.out (Nat.le_refl _) hB.out.size hown' hgrow
                go_roundw
                case rel =>
                  refine ⟨j, _, rfl, rfl, by omega, ?_, ?_, hp.2.1⟩
                  · have := hp.1
                    rw [hstep.out, Hc.out]
                    exact this
                  · intro t ht1 ht2
                    rcases Nat.eq_or_lt_of_le ht1 with h | h
                    · subst h
                      rw [Hc.out]
                      omega
                    · exact hD.out t (by omega) ht2
                case measure => simp [intOf]

end Go.Proofs.YtpenhmkodakpaaaDoor
