/- The reference's Small: the digits of a small number. -/
import Derived.Test.YtjmbblglfabefaaDoorRTrim
namespace Go.Proofs.YtjmbblglfabefaaDoor
set_option linter.unusedVariables false
set_option linter.unusedSimpArgs false
open Go Go.RowKit Go.Shelf

theorem one_cell {k : IntKind} {x : Int} : ∀ u ∈ [Value.int k x], u.oneCell' = true := fun u hu => by
  rw [List.mem_singleton.1 hu]; rfl

theorem tmod10 (m : Nat) : Int.tmod (m : Int) 10 = ((m % 10 : Nat) : Int) := by
  rw [Int.tmod_eq_emod_of_nonneg (by omega)]; omega
theorem tdiv10 (m : Nat) : Int.tdiv (m : Int) 10 = ((m / 10 : Nat) : Int) := by
  rw [Int.tdiv_eq_ediv_of_nonneg (by omega)]; omega

theorem small_step {ds : List Nat} {m n : Nat} (hs : Small 10 ds) (hv : val 10 ds + 10 ^ ds.length * m = n) (hm : m ≠ 0) :
    Small 10 (ds ++ [m % 10]) ∧ val 10 (ds ++ [m % 10]) + 10 ^ (ds ++ [m % 10]).length * (m / 10) = n ∧ (m / 10 = 0 → tl (ds ++ [m % 10]) = (ds ++ [m % 10]).length) := by
  refine ⟨hs.append (fun x hx => by rw [List.mem_singleton.1 hx]; exact Nat.mod_lt _ (by decide)), ?_, fun h => tl_snoc _ _ (by omega)⟩
  rw [val_snoc, ← hv, List.length_append, List.length_singleton, Nat.pow_succ, Nat.add_assoc, Nat.mul_assoc, ← Nat.mul_add, Nat.mod_add_div]

theorem small_len {L m n : Nat} (h : 10 ^ L * m ≤ n) (hm : m ≠ 0) (hn : n < 18446744073709551616) : L ≤ 20 := by
  apply Decidable.byContradiction
  intro hl
  have h1 : 10 ^ 20 ≤ 10 ^ L := Nat.pow_le_pow_right (by decide) (by omega)
  have h2 : 10 ^ L * 1 ≤ 10 ^ L * m := Nat.mul_le_mul_left _ (by omega)
  have h3 : (10 : Nat) ^ 20 = 100000000000000000000 := by decide
  omega

set_option maxRecDepth 100000 in
set_option maxHeartbeats 1000000 in
theorem rsmall_calls (w : World) (n : Nat) (hn : n < 18446744073709551616) :
    Calls Tryd.prog 22 #[.int .u64 (n : Int)] w fun e w' => ∃ rv, e = .returned rv ∧ RRes w' rv n ∧ Below w.heap.size w w' := by
  obtain ⟨i0, hi, hz0, hz1, hz2⟩ := info_parts infoI64
  go_enter Tryd.func22, Tryd.ntmps22
  go_wp2
  go_loopw [0, 3] (fun x out wr => ∃ (m : Nat) (ds : List Nat), x = .int .u64 (m : Int) ∧ Own w.heap.size wr out ds ∧ Small 10 ds ∧ val 10 ds + 10 ^ ds.length * m = n ∧ (m = 0 → tl ds = ds.length) ∧ Below w.heap.size w wr) (fun x _ _ => (intOf x).toNat)
  case atStart => exact ⟨n, [], rfl, Own.nil _ _, Small.nil _, by simp [val_nil], fun _ => rfl, Below.refl _ _⟩
  case round =>
    obtain ⟨m, ds, rfl, hown, hs, hv, htl, hB⟩ := hrel
    have Hs := hide hs
    have Hv := hide hv
    have Htl := hide htl
    have HB := hide hB
    have Hown := hide hown
    clear hs hv htl hB hown
    by_cases hm : m = 0
    · subst hm
      go_wp2
      go_ret
      have hc : Canon 10 ds := ⟨Hs.out, Htl.out trivial⟩
      have hvv := Hv.out
      rw [Nat.mul_zero, Nat.add_zero] at hvv
      have := Hown.out.res hc
      rw [hvv] at this
      exact ⟨_, rfl, this, HB.out⟩
    · have hle : 10 ^ ds.length * m ≤ n := by have := Hv.out; omega
      have hdl := small_len hle hm hn
      have hm2 : m ≤ n := by
        have : 1 * m ≤ 10 ^ ds.length * m := Nat.mul_le_mul_right _ (Nat.pow_pos (by decide))
        omega
      have hgt : (m : Int) > 0 := by omega
      have hr := tmod10 m
      have hq := tdiv10 m
      have hlt : m % 10 < 10 := Nat.mod_lt _ (by decide)
      go_wp2_with (at_builtin; go_must (refine wpList_append_own _ rfl (.tmp 6) (.tmp 10) 27 rfl w.heap.size 3 i0 (.int .i64 0) 1 8 Tryd.underlying27 hi hz0 hz1 hz2 rfl (by decide) _ ds.length (dcells ds) rfl (by exact World.ownsRow.alloc Hown.out _) ⟨wr.heap.size, 0, none⟩ 1 1 [.int .i64 ((m % 10 : Nat) : Int)] rfl rfl (by exact World.news_of_block (World.alloc_heap_new _ _)) one_cell (by unfold maxLen; omega) (by omega) (by have := HB.out.size; simp; omega) ?_; intro v' w1 hown' hgrow hnil))
      have hp := Own.pushed Hown.out HB.out (Nat.le_refl _) HB.out.size hown' hgrow
      have hst := small_step Hs.out Hv.out hm
      go_roundw
      case rel => exact ⟨m / 10, ds ++ [m % 10], by go_num, hp.1, hst.1, hst.2.1, hst.2.2, hp.2.1⟩
      case measure => simp [intOf]; omega

end Go.Proofs.YtjmbblglfabefaaDoor
