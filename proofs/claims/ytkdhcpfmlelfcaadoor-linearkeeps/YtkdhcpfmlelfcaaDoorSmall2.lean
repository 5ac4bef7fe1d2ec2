/- The contracts of Norm (a copy without noughts at its end), IsZero and Of (a small number's list). -/
import Derived.Test.YtkdhcpfmlelfcaaDoorBRows
import Derived.Laws.CopyOwn
namespace Go.Proofs.YtkdhcpfmlelfcaaDoor
set_option linter.unusedVariables false
set_option linter.unusedSimpArgs false
open Go Go.RowKit Go.Shelf

theorem infoSize : (Tryd.prog.info? 53).map (·.size) = some 1 := by kernel_rfl

theorem addr_add (b off j : Nat) : (⟨b, off, none⟩ : Addr).add j = ⟨b, off + j, none⟩ := by
  unfold Addr.add
  by_cases h : j = 0 <;> simp [h]

/-- Copying a whole list of limbs into a made block of its length. -/
theorem wpList_cp (w : World) {ops : Array Oper} {rest : List Oper} {o : Oper} {a : Act} {Q : Exit → Act → World → Prop}
    (hgd : o.guard = none) (d s : Operand) (ho : o.op = .call { callee := .builtin .copy, args := #[d, s], argTypes := #[22, 22] })
    (g n cap : Nat) (ao : Option Addr) (sCap : Nat) (ys zs : List Nat) (hd : a.eval d = .slice (some ⟨g, 0, none⟩) n cap) (hs : a.eval s = .slice ao n sCap) (hr : Row w g ys) (hly : ys.length = n) (hlz : zs.length = n) (hn : 0 < n)
    (hsrc : ∀ j, j < zs.length → ∃ b off, ao = some ⟨b, off, none⟩ ∧ w.cell? ⟨b, off + j, none⟩ = some (.int .u32 ((nth zs j : Nat) : Int)))
    (hK : ∀ w', Row w' g zs → Below g w w' → w'.heap.size = w.heap.size → wpList Tryd.prog ops Q rest (a.put o.dst (.int .i64 (n : Int))) w') : wpList Tryd.prog ops Q (o :: rest) a w := by
  obtain ⟨b, off, rfl, _⟩ := hsrc 0 (by omega)
  refine wpList_copy_own hgd d s 22 22 ho 53 Tryd.underlying22 infoSize g 0 n cap ⟨b, off, none⟩ n sCap hd hs _ 53 hr (zs.map (fun z : Nat => Value.int .u32 (z : Int))) (by simp [hlz]) ?_ (by simp; omega) ?_ ?_
  · intro j v hj
    have hj' : j < zs.length := by
      rcases Nat.lt_or_ge j zs.length with h | h
      · exact h
      · simp [h] at hj
    obtain ⟨b', off', e, hc⟩ := hsrc j hj'
    cases e
    rw [addr_add, hc, nth_eq hj']
    simp [hj'] at hj
    rw [hj]
  · intro v hv
    obtain ⟨z, _, rfl⟩ := List.mem_map.1 hv
    rfl
  · have := hK (w.setRow g ((List.map (fun z : Nat => Value.int .u32 (z : Int)) ys).toArray.toList.take 0 ++ (List.map (fun z : Nat => Value.int .u32 (z : Int)) zs ++ (List.map (fun z : Nat => Value.int .u32 (z : Int)) ys).toArray.toList.drop (0 + (List.map (fun z : Nat => Value.int .u32 (z : Int)) zs).length))).toArray)
      (by
        unfold Row
        rw [setRow_heap w g _ _ 53 _ hr]
        simp
        omega)
      (below_setRow (Below.refl g w) (Nat.le_refl _) _) (by simp)
    simpa [goInt, hlz] using this

set_option maxRecDepth 100000 in
set_option maxHeartbeats 2000000 in
theorem norm_calls (w : World) (sv : Value) (xs : List Nat) (hx0 : Limbs w sv xs) (bx : xs.length ≤ 1048576) :
    Calls Tryd.prog 36 #[sv] w fun e w' => ∃ rv, e = .returned rv ∧ Answer w w' rv (val R xs) ∧ Below w.heap.size w w' := by
  obtain ⟨ao, cap, rfl⟩ := hx0.len
  go_enter Tryd.func36, Tryd.ntmps36
  go_wp2_with fail
  refine (trim_lim _ _ _ hx0).mono ?_
  rintro e w1 ⟨us, ao1, cap1, rfl, hx, hcu, evx, hlx, hb1⟩
  by_cases hz : us.length = 0
  · have hz' : ((us.length : Int) == 0) = true := by simp [hz]
    have Hz := hide hz
    clear hz
    go_wp2
    go_ret
    refine ⟨_, rfl, ⟨[], Made.nil _ _, canon_nil R, ?_⟩, hb1⟩
    rw [← evx.out, List.eq_nil_of_length_eq_zero Hz.out]
  · have hz' : ((us.length : Int) == 0) = false := beq_eq_false_iff_ne.2 (by omega)
    go_wp2_with (first
      | (at_make; refine wpList_mk _ rfl _ rfl _ us.length rfl (by omega) (by omega) ?_; intro w3 hr3 hb3 hz3)
      | (refine wpList_cp _ rfl _ _ rfl w1.heap.size us.length us.length ao1 cap1 (List.replicate us.length 0) us rfl rfl hr3 (by simp) rfl (by omega) ((hx.below hb1).below hb3).cells ?_; intro w4 hr4 hb4 hz4))
    go_ret
    have hsz := hb1.size
    have hm := Made.whole (n₀ := w.heap.size) hr4 hcu.1 (by omega) (by omega)
    exact ⟨_, rfl, ⟨us, hm, hcu, evx.out⟩, hb1.trans ((hb3.mono (by omega)).trans (hb4.mono (by omega)))⟩

set_option maxHeartbeats 2000000 in
theorem isZero_calls (w : World) (sv : Value) (xs : List Nat) (hx0 : Limbs w sv xs) :
    Calls Tryd.prog 53 #[sv] w fun e w' => e = .returned (.bool (decide (val R xs = 0))) ∧ Below w.heap.size w w' := by
  go_enter Tryd.func53, Tryd.ntmps53
  go_wp2_with fail
  refine (trim_lim _ _ _ hx0).mono ?_
  rintro e w1 ⟨us, ao1, cap1, rfl, hx, hcu, evx, hlx, hb1⟩
  have hd : ((us.length : Int) == 0) = decide (val R xs = 0) := by
    rw [← evx.out]
    by_cases hz : us.length = 0
    · rw [List.eq_nil_of_length_eq_zero hz]; rfl
    · have : val R us ≠ 0 := fun e => hz (by rw [hcu.val_zero R_pos e]; rfl)
      simp [this]
      intro e; exact hz (by rw [e]; rfl)
  have Hd := hide hd
  clear hd
  go_wp2
  go_ret
  refine ⟨?_, hb1⟩
  rw [← Hd.out]
  rfl

end Go.Proofs.YtkdhcpfmlelfcaaDoor
