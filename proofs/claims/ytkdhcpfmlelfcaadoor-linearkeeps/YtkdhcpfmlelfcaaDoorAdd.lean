/- The contract of Add: a list of its own, without noughts at its end, that is worth the sum. -/
import Derived.Test.YtkdhcpfmlelfcaaDoorBRows
namespace Go.Proofs.YtkdhcpfmlelfcaaDoor
set_option linter.unusedVariables false
set_option linter.unusedSimpArgs false
open Go Go.RowKit Go.Shelf

/-- What k rounds of a sum have made. -/
def AddInv (xs ys : List Nat) (k : Nat) (ss : List Nat) (c : Nat) : Prop :=
  ss.length = k ∧ Small R ss ∧ c ≤ 1 ∧ val R ss + R ^ k * c = val R (xs.take k) + val R (ys.take k)

theorem AddInv.zero (xs ys : List Nat) : AddInv xs ys 0 [] 0 := ⟨rfl, Small.nil _, by omega, by simp [val]⟩

theorem AddInv.step {xs ys ss : List Nat} {k c : Nat} (h : AddInv xs ys k ss c) (hx : Small R xs) (hy : Small R ys) : AddInv xs ys (k + 1) (ss ++ [(nth xs k + nth ys k + c) % 4294967296]) ((nth xs k + nth ys k + c) / 4294967296) := by
  obtain ⟨h1, h2, h3, h4⟩ := h
  have a := hx.nth R_pos k
  have b := hy.nth R_pos k
  rw [R_eq] at a b
  refine ⟨by simp [h1], small_snoc h2 (by rw [R_eq]; omega), by omega, ?_⟩
  rw [val_snoc, h1, Nat.pow_succ, val_take_nth, val_take_nth]
  exact carry_step h4

theorem row_step {W : World} {g k n : Nat} {ss : List Nat} (h : Row W g (ss ++ List.replicate (n + 1 - k) 0)) (hl : ss.length = k) (hk : k ≤ n) (v : Nat) : Row (W.setCell ⟨g, k, none⟩ (.int .u32 (v : Int))) g ((ss ++ [v]) ++ List.replicate (n + 1 - (k + 1)) 0) := by
  have := h.set k v
  rw [← hl, set_mid _ _ _ _ (by omega), hl] at this
  rwa [show n + 1 - k - 1 = n + 1 - (k + 1) from by omega] at this

set_option maxRecDepth 100000 in
set_option maxHeartbeats 4000000 in
theorem add_calls (w : World) (sv tv : Value) (xs ys : List Nat) (hx : Limbs w sv xs) (hy : Limbs w tv ys) (bx : xs.length ≤ 1048576) (byy : ys.length ≤ 1048576) :
    Calls Tryd.prog 42 #[sv, tv] w fun e w' => ∃ rv, e = .returned rv ∧ Answer w w' rv (val R xs + val R ys) ∧ Below w.heap.size w w' := by
  obtain ⟨ao, cap, rfl⟩ := hx.len
  obtain ⟨bo, dap, rfl⟩ := hy.len
  obtain ⟨n, hn⟩ : ∃ n, n = max xs.length ys.length := ⟨_, rfl⟩
  have hn1 : xs.length ≤ n := by omega
  have hn2 : ys.length ≤ n := by omega
  have hn3 : n ≤ 1048576 := by omega
  have Hn := hide hn
  clear hn
  rcases Nat.lt_or_ge xs.length ys.length with hle | hle
  all_goals
    go_enter Tryd.func42, Tryd.ntmps42
    go_wp2_with (at_make; refine wpList_mk _ rfl _ rfl _ (n + 1) rfl (by have := Hn.out; omega) (by omega) ?_; intro w1 hr1 hb1 hz1)
    first
      | rw [show ((ys.length : Nat) : Int) = (n : Int) from by have := Hn.out; omega]
      | skip
    first
      | rw [show ((xs.length : Nat) : Int) = (n : Int) from by have := Hn.out; omega]
      | skip
    go_loopw [7, 18] (fun c i wr => ∃ (k : Nat) (ss : List Nat) (cc : Nat), k ≤ n ∧ i = .int .i64 k ∧ c = .int .u32 ((cc : Nat) : Int) ∧ AddInv xs ys k ss cc ∧ Row wr w.heap.size (ss ++ List.replicate (n + 1 - k) 0) ∧ Below w.heap.size w wr) (fun _ i _ => n - (intOf i).toNat)
    case atStart => exact ⟨0, [], 0, Nat.zero_le _, rfl, rfl, AddInv.zero xs ys, by simpa using hr1, hb1⟩
    case round =>
      obtain ⟨k, ss, cc, hk, rfl, rfl, hinv, hrow, hB⟩ := hrel
      have hlk := hinv.1
      have hc1 := hinv.2.2.1
      have Hlk := hide hlk
      clear hlk
      have hxr := hx.below hB
      have hyr := hy.below hB
      by_cases hlt : k < n
      · have hcell := hrow.cell (j := k) (by have := Hlk.out; simp; omega)
        have hfro := hrow.frozen k
        have hnx := hx.small.nth R_pos k
        have hny := hy.small.nth R_pos k
        rw [R_eq] at hnx hny
        go_wp2_with fail
        refine (limbAt_calls _ _ xs k hxr (by omega)).mono ?_
        rintro e w2 ⟨rfl, rfl⟩
        go_wp2_with fail
        refine (limbAt_calls _ _ ys k hyr (by omega)).mono ?_
        rintro e w2 ⟨rfl, rfl⟩
        go_wp2_with fail
        refine (add32_calls _ _ _ hnx hny hc1 _).mono ?_
        rintro e w2 ⟨rfl, rfl⟩
        go_wp2
        go_roundw
        case rel => exact ⟨k + 1, _, _, by omega, by go_num, rfl, hinv.step hx.small hy.small, row_step hrow Hlk.out hk _, hB.setCell (p := ⟨w.heap.size, k, none⟩) (Nat.le_refl _) _⟩
        case measure => simp [intOf]; omega
      · obtain rfl : k = n := by omega
        have hcell := hrow.cell (j := k) (by have := Hlk.out; simp; omega)
        have hfro := hrow.frozen k
        go_wp2_with fail
        have hrow' := row_step hrow Hlk.out (Nat.le_refl _) cc
        have hsm : Small R ((ss ++ [cc]) ++ List.replicate (k + 1 - (k + 1)) 0) := (small_snoc hinv.2.1 (by rw [R_eq]; omega)).append (small_replicate _)
        have hval : val R ((ss ++ [cc]) ++ List.replicate (k + 1 - (k + 1)) 0) = val R xs + val R ys := by
          rw [val_append, val_replicate, val_snoc, Hlk.out, Nat.mul_zero, Nat.add_zero, hinv.2.2.2, List.take_of_length_le hn1, List.take_of_length_le hn2]
        refine (trim_made w _ _ _ (k + 1) _ hrow' hsm (by have := Hlk.out; simp; omega) (Nat.le_refl _) (by omega) hval).mono ?_
        rintro e w2 ⟨bo, m, dap, rfl, hA, hb2⟩
        clear hval hsm hrow'
        go_wp2
        go_ret
        exact ⟨_, rfl, hA, (hB.setCell (p := ⟨w.heap.size, k, none⟩) (Nat.le_refl _) _).trans (hb2.mono (by simp [World.setCell]; exact hB.size))⟩

end Go.Proofs.YtkdhcpfmlelfcaaDoor
