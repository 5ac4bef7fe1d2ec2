/- The contract of Sub: the difference, or the error where the second is greater. -/
import Derived.Test.YtkdhcpfmlelfcaaDoorBTake
namespace Go.Proofs.YtkdhcpfmlelfcaaDoor
set_option linter.unusedVariables false
set_option linter.unusedSimpArgs false
open Go Go.RowKit Go.Shelf

set_option maxRecDepth 100000 in
set_option maxHeartbeats 4000000 in
theorem sub_calls (w : World) (sv tv : Value) (xs ys : List Nat) (hx : Limbs w sv xs) (hy : Limbs w tv ys) (bx : xs.length ≤ 1048576) (byy : ys.length ≤ 1048576) :
    Calls Tryd.prog 44 #[sv, tv] w fun e w' => (val R xs < val R ys → e = .returned (.tuple #[.slice none 0 0, .int .i64 5])) ∧ (val R ys ≤ val R xs → ∃ rv, e = .returned (.tuple #[rv, .int .i64 0]) ∧ Answer w w' rv (val R xs - val R ys)) ∧ Below w.heap.size w w' := by
  obtain ⟨ao, cap, rfl⟩ := hx.len
  obtain ⟨bo, dap, rfl⟩ := hy.len
  go_enter Tryd.func44, Tryd.ntmps44
  go_wp2_with fail
  refine (cmp_calls _ _ _ _ _ hx hy bx byy).mono ?_
  rintro e w1 ⟨rfl, hb1⟩
  have hsz := hb1.size
  by_cases hlt0 : val R xs < val R ys
  · have hc : cmpI (val R xs : Int) (val R ys : Int) = -1 := cmpI_lt (by omega)
    rw [hc]
    have H0 := hide hlt0
    clear hc hlt0
    go_wp2
    go_ret2
    exact ⟨fun _ => rfl, fun h => absurd h (by have := H0.out; omega), hb1⟩
  · have hc : 0 ≤ cmpI (val R xs : Int) (val R ys : Int) := by
      unfold cmpI; rw [if_neg (by omega)]; split <;> omega
    have H0 := hide hlt0
    clear hlt0
    generalize cmpI (val R xs : Int) (val R ys : Int) = cc at *
    go_wp2_with (at_make; refine wpList_mk _ rfl _ rfl _ xs.length rfl rfl (by omega) ?_; intro w3 hr3 hb3 hz3)
    have hxb := hx.below hb1
    have hyb := hy.below hb1
    have hxc := hxb.cells
    have hb03 : Below w.heap.size w w3 := hb1.trans (hb3.mono hsz)
    go_loopw [7, 19] (fun c i wr => ∃ (k : Nat) (ss : List Nat) (cc : Nat), k ≤ xs.length ∧ i = .int .i64 k ∧ c = .int .u32 ((cc : Nat) : Int) ∧ SubInv xs ys k ss cc ∧ Row wr w1.heap.size (ss ++ List.replicate (xs.length - k) 0) ∧ Below w1.heap.size w1 wr) (fun _ i _ => xs.length - (intOf i).toNat)
    case atStart => exact ⟨0, [], 0, Nat.zero_le _, rfl, rfl, SubInv.zero xs ys, by simpa using hr3, hb3⟩
    case round =>
      obtain ⟨k, ss, cc', hk, rfl, rfl, hinv, hrow, hB⟩ := hrel
      have Hlk := hide hinv.1
      have hc1 := hinv.2.2.1
      have hyr := hyb.below hB
      by_cases hlt : k < xs.length
      · have hcell := hrow.cell (j := k) (by have := Hlk.out; simp; omega)
        have hfro := hrow.frozen k
        have hnx := hx.small.nth R_pos k
        have hny := hy.small.nth R_pos k
        rw [R_eq] at hnx hny
        obtain ⟨b, off, rfl, hcx⟩ := hxc k hlt
        have c1 := (hB.cell (p := ⟨b, off + k, none⟩) (block_lt_of_cell hcx)).trans hcx
        have Hxc := hide hxc
        clear hcx hxc
        go_wp2_with fail
        refine (limbAt_calls _ _ ys k hyr (by omega)).mono ?_
        rintro e w2 ⟨rfl, rfl⟩
        go_wp2_with fail
        refine (sub32_calls _ _ _ hnx hny hc1 _).mono ?_
        rintro e w2 ⟨rfl, rfl⟩
        go_wp2
        go_roundw
        case rel =>
          refine ⟨k + 1, _, _, by omega, by go_num, rfl, hinv.step hx.small hy.small, ?_, hB.setCell (p := ⟨w1.heap.size, k, none⟩) (Nat.le_refl _) _⟩
          have := hrow.set k ((nth xs k + 4294967296 + 4294967296 - nth ys k - cc') % 4294967296)
          rw [← Hlk.out, set_mid _ _ _ _ (by have := Hlk.out; omega), Hlk.out] at this
          rw [show xs.length - (k + 1) = xs.length - k - 1 from by omega]
          exact this
        case measure => simp [intOf]; omega
      · obtain rfl : k = xs.length := by omega
        go_wp2_with fail
        have hval : val R (ss ++ List.replicate (xs.length - xs.length) 0) = val R xs - val R ys := by
          rw [val_append, val_replicate, Nat.mul_zero, Nat.add_zero]
          exact hinv.done hx.small (by have := H0.out; omega)
        refine (trim_made w _ _ _ xs.length _ hrow (hinv.2.1.append (small_replicate _)) (by have := Hlk.out; simp; omega) hsz (by omega) hval).mono ?_
        rintro e w5 ⟨bo, m, dap, rfl, hA, hb5⟩
        clear hval
        go_wp2
        go_ret2
        exact ⟨fun h => absurd h H0.out, fun _ => ⟨_, rfl, hA⟩, hb1.trans ((hB.mono hsz).trans (hb5.mono (by have := hB.size; omega)))⟩

end Go.Proofs.YtkdhcpfmlelfcaaDoor
