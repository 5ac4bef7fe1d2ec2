/- The contract of Sub: the difference, or the error where the second is greater. -/
import Derived.Test.YtgijacdjmmhglaaDoorCmp
namespace Go.Proofs.YtgijacdjmmhglaaDoor
set_option linter.unusedVariables false
set_option linter.unusedSimpArgs false
open Go Go.RowKit Go.Shelf

/-- What k rounds of a difference have made. -/
def SubInv (xs ys : List Nat) (k : Nat) (ss : List Nat) (c : Nat) : Prop :=
  ss.length = k ∧ Small R ss ∧ c ≤ 1 ∧ val R (xs.take k) + R ^ k * c = val R ss + val R (ys.take k)

theorem SubInv.zero (xs ys : List Nat) : SubInv xs ys 0 [] 0 := ⟨rfl, Small.nil _, by omega, by simp [val]⟩

theorem bor_step {x y c : Nat} (hx : x < 4294967296) (hy : y < 4294967296) (hc : c ≤ 1) : x + 4294967296 * bor x y c = (x + 4294967296 + 4294967296 - y - c) % 4294967296 + y + c := by
  unfold bor
  split <;> omega

theorem SubInv.step {xs ys ss : List Nat} {k c : Nat} (h : SubInv xs ys k ss c) (hx : Small R xs) (hy : Small R ys) :
    SubInv xs ys (k + 1) (ss ++ [(nth xs k + 4294967296 + 4294967296 - nth ys k - c) % 4294967296]) (bor (nth xs k) (nth ys k) c) := by
  obtain ⟨h1, h2, h3, h4⟩ := h
  have a := hx.nth R_pos k
  have b := hy.nth R_pos k
  rw [R_eq] at a b
  refine ⟨by simp [h1], small_snoc h2 (by rw [R_eq]; omega), bor_le _ _ _, ?_⟩
  have hs := bor_step a b h3
  rw [val_snoc, h1, val_take_nth, val_take_nth, Nat.pow_succ]
  generalize (nth xs k + 4294967296 + 4294967296 - nth ys k - c) % 4294967296 = s at *
  generalize bor (nth xs k) (nth ys k) c = d at *
  have e1 : R ^ k * nth xs k + R ^ k * R * d = R ^ k * s + R ^ k * nth ys k + R ^ k * c := by
    rw [Nat.mul_assoc, ← Nat.mul_add, ← Nat.mul_add, ← Nat.mul_add, R_eq, hs]
  omega

theorem SubInv.done {xs ys ss : List Nat} {c : Nat} (h : SubInv xs ys xs.length ss c) (hx : Small R xs) (hle : val R ys ≤ val R xs) : val R ss = val R xs - val R ys := by
  obtain ⟨h1, h2, h3, h4⟩ := h
  have hlx := val_lt hx
  have hls := val_lt h2
  rw [h1] at hls
  rw [List.take_length] at h4
  have hy : val R ys = val R (ys.take xs.length) := by
    rcases Nat.lt_or_ge xs.length ys.length with hl | hl
    · have := val_split R ys xs.length (by omega)
      rcases Nat.eq_zero_or_pos (val R (ys.drop xs.length)) with h0 | h0
      · rw [h0] at this; simpa using this
      · have := Nat.mul_le_mul_left (R ^ xs.length) h0
        omega
    · rw [List.take_of_length_le hl]
  rw [← hy] at h4
  rcases Nat.eq_zero_or_pos c with hc | hc
  · subst hc; omega
  · have := Nat.mul_le_mul_left (R ^ xs.length) hc
    omega

set_option maxRecDepth 100000 in
set_option maxHeartbeats 4000000 in
theorem sub_calls (w : World) (sv tv : Value) (xs ys : List Nat) (hx : Limbs w sv xs) (hy : Limbs w tv ys) (bx : xs.length ≤ 1048576) (byy : ys.length ≤ 1048576) :
    Calls Tryd.prog 11 #[sv, tv] w fun e w' => (val R xs < val R ys → e = .returned (.tuple #[.slice none 0 0, .int .i64 5])) ∧ (val R ys ≤ val R xs → ∃ rv, e = .returned (.tuple #[rv, .int .i64 0]) ∧ Answer w w' rv (val R xs - val R ys)) ∧ Below w.heap.size w w' := by
  obtain ⟨ao, cap, rfl⟩ := hx.len
  obtain ⟨bo, dap, rfl⟩ := hy.len
  go_enter Tryd.func11, Tryd.ntmps11
  go_wp2_with fail
  refine (cmp_calls _ _ _ _ _ hx hy bx byy).mono ?_
  rintro e w1 ⟨rfl, hb1⟩
  have hsz := hb1.size
  by_cases hlt0 : val R xs < val R ys
  · have hc : cmpI (val R xs : Int) (val R ys : Int) = -1 := cmpI_lt (by omega)
    rw [hc]
    have H0 := hide hlt0
    clear hc hlt0
    go_wp2
    go_ret2
    exact ⟨fun _ => rfl, fun h => absurd h (by have := H0.out; omega), hb1⟩
  · have hc : 0 ≤ cmpI (val R xs : Int) (val R ys : Int) := by
      unfold cmpI; rw [if_neg (by omega)]; split <;> omega
    have H0 := hide hlt0
    clear hlt0
    generalize cmpI (val R xs : Int) (val R ys : Int) = cc at *
    go_wp2_with (at_make; refine wpList_mk _ rfl _ rfl _ xs.length rfl rfl (by omega) ?_; intro w3 hr3 hb3 hz3)
    have hxb := hx.below hb1
    have hyb := hy.below hb1
    have hxc := hxb.cells
    have hb03 : Below w.heap.size w w3 := hb1.trans (hb3.mono hsz)
    go_loopw [7, 19] (fun c i wr => ∃ (k : Nat) (ss : List Nat) (cc : Nat), k ≤ xs.length ∧ i = .int .i64 k ∧ c = .int .u32 ((cc : Nat) : Int) ∧ SubInv xs ys k ss cc ∧ Row wr w1.heap.size (ss ++ List.replicate (xs.length - k) 0) ∧ Below w1.heap.size w1 wr) (fun _ i _ => xs.length - (intOf i).toNat)
    case atStart => exact ⟨0, [], 0, Nat.zero_le _, rfl, rfl, SubInv.zero xs ys, by simpa using hr3, hb3⟩
    case round =>
      obtain ⟨k, ss, cc', hk, rfl, rfl, hinv, hrow, hB⟩ := hrel
      have Hlk := hide hinv.1
      have hc1 := hinv.2.2.1
      have hyr := hyb.below hB
      by_cases hlt : k < xs.length
      · have hcell := hrow.cell (j := k) (by have := Hlk.out; simp; omega)
        have hfro := hrow.frozen k
        have hnx := hx.small.nth R_pos k
        have hny := hy.small.nth R_pos k
        rw [R_eq] at hnx hny
        obtain ⟨b, off, rfl, hcx⟩ := hxc k hlt
        have c1 := (hB.cell (p := ⟨b, off + k, none⟩) (block_lt_of_cell hcx)).trans hcx
        have Hxc := hide hxc
        clear hcx hxc
        go_wp2_with fail
        refine (limbAt_calls _ _ ys k hyr (by omega)).mono ?_
        rintro e w2 ⟨rfl, rfl⟩
        go_wp2_with fail
        refine (sub32_calls _ _ _ hnx hny hc1 _).mono ?_
        rintro e w2 ⟨rfl, rfl⟩
        go_wp2
        go_roundw
        case rel =>
          refine ⟨k + 1, _, _, by omega, by go_num, rfl, hinv.step hx.small hy.small, ?_, hB.setCell (p := ⟨w1.heap.size, k, none⟩) (Nat.le_refl _) _⟩
          have := hrow.set k ((nth xs k + 4294967296 + 4294967296 - nth ys k - cc') % 4294967296)
          rw [← Hlk.out, set_mid _ _ _ _ (by have := Hlk.out; omega), Hlk.out] at this
          rw [show xs.length - (k + 1) = xs.length - k - 1 from by omega]
          exact this
        case measure => simp [intOf]; omega
      · obtain rfl : k = xs.length := by omega
        go_wp2_with fail
        have hval : val R (ss ++ List.replicate (xs.length - xs.length) 0) = val R xs - val R ys := by
          rw [val_append, val_replicate, Nat.mul_zero, Nat.add_zero]
          exact hinv.done hx.small (by have := H0.out; omega)
        refine (trim_made w _ _ _ xs.length _ hrow (hinv.2.1.append (small_replicate _)) (by have := Hlk.out; simp; omega) hsz (by omega) hval).mono ?_
        rintro e w5 ⟨bo, m, dap, rfl, hA, hb5⟩
        clear hval
        go_wp2
        go_ret2
        exact ⟨fun h => absurd h H0.out, fun _ => ⟨_, rfl, hA⟩, hb1.trans ((hB.mono hsz).trans (hb5.mono (by have := hB.size; omega)))⟩

set_option maxHeartbeats 2000000 in
theorem of_calls (w : World) (n : Nat) (hn : n < 18446744073709551616) :
    Calls Tryd.prog 39 #[.int .u64 (n : Int)] w fun e w' => ∃ rv, e = .returned rv ∧ Answer w w' rv n ∧ Below w.heap.size w w' := by
  go_enter Tryd.func39, Tryd.ntmps39
  go_wp2_with fail
  have hrow : Row (w.alloc (.cells #[.int .u32 ((n : Int) % 4294967296), .int .u32 ((n : Int) / 4294967296)] 42)) w.heap.size [n % 4294967296, n / 4294967296] := World.alloc_heap_new w _
  have hsm : Small R [n % 4294967296, n / 4294967296] := fun x hx => by
    rw [R_eq]
    simp only [List.mem_cons, List.not_mem_nil, or_false] at hx
    omega
  have hval : val R [n % 4294967296, n / 4294967296] = n := by
    rw [val_cons, val_cons, val_nil, R_eq]; omega
  refine (trim_made w _ _ _ 2 _ hrow hsm rfl (Nat.le_refl _) (by omega) hval).mono ?_
  rintro e w5 ⟨bo, m, dap, rfl, hA, hb5⟩
  clear hval hsm hrow
  go_wp2
  go_ret
  exact ⟨_, rfl, hA, ((Below.refl _ w).alloc (Nat.le_refl _) _).trans (hb5.mono (by simp))⟩

end Go.Proofs.YtgijacdjmmhglaaDoor
