/- The contract of Mul: a list of its own, without noughts at its end, that is worth the product. -/
import Derived.Test.YtkdhcpfmlelfcaaDoorBRows
namespace Go.Proofs.YtkdhcpfmlelfcaaDoor
set_option linter.unusedVariables false
set_option linter.unusedSimpArgs false
open Go Go.RowKit Go.Shelf

/-- What j rounds of the inner loop have made of ps, in round i of the outer one. -/
def MulIn (ps : List Nat) (ys : List Nat) (x i j : Nat) (qs : List Nat) (c : Nat) : Prop :=
  qs.length = ps.length ∧ Small R qs ∧ c < R ∧ val R qs + R ^ (i + j) * c = val R ps + R ^ i * (x * val R (ys.take j)) ∧ ∀ t, i + j ≤ t → nth qs t = nth ps t

theorem MulIn.zero {ps ys : List Nat} {x i : Nat} (h : Small R ps) : MulIn ps ys x i 0 ps 0 := ⟨rfl, h, R_pos, by simp [val], fun _ _ => rfl⟩

theorem mul_le' {x y : Nat} (hx : x < R) (hy : y < R) : x * y ≤ 18446744065119617025 := by
  rw [R_eq] at hx hy
  exact Nat.le_trans (Nat.mul_le_mul (show x ≤ 4294967295 from by omega) (show y ≤ 4294967295 from by omega)) (by omega)

theorem mul_wide {x y p c : Nat} (hx : x < R) (hy : y < R) (hp : p < R) (hc : c < R) : x * y + p + c < 18446744073709551616 := by
  have := mul_le' hx hy
  rw [R_eq] at hp hc
  omega

theorem MulIn.step {ps ys qs : List Nat} {x i j c : Nat} (h : MulIn ps ys x i j qs c) (hx : x < R) (hy : Small R ys) (hj : i + j < ps.length) :
    MulIn ps ys x i (j + 1) (qs.set (i + j) ((x * nth ys j + nth qs (i + j) + c) % 4294967296)) ((x * nth ys j + nth qs (i + j) + c) / 4294967296) := by
  obtain ⟨h1, h2, h3, h4, h5⟩ := h
  have hw := mul_wide hx (hy.nth R_pos j) (h2.nth R_pos (i + j)) h3
  refine ⟨by simp [h1], h2.set _ _ (by rw [R_eq]; omega), by rw [R_eq]; omega, ?_, ?_⟩
  · have hv := val_set R qs (i + j) ((x * nth ys j + nth qs (i + j) + c) % 4294967296) (by omega)
    rw [val_take_nth]
    generalize nth ys j = y at *
    generalize nth qs (i + j) = p at *
    have e1 : R ^ (i + (j + 1)) * ((x * y + p + c) / 4294967296) + R ^ (i + j) * ((x * y + p + c) % 4294967296) = R ^ (i + j) * (x * y + p + c) := by
      rw [← Nat.add_assoc, Nat.pow_succ, Nat.mul_assoc, ← Nat.mul_add, R_eq, Nat.add_comm (4294967296 * _), Nat.mod_add_div]
    have e2 : R ^ (i + j) * (x * y + p + c) = R ^ (i + j) * (x * y) + R ^ (i + j) * p + R ^ (i + j) * c := by rw [Nat.mul_add, Nat.mul_add]
    have e3 : R ^ i * (x * (val R (List.take j ys) + R ^ j * y)) = R ^ i * (x * val R (List.take j ys)) + R ^ (i + j) * (x * y) := by
      rw [Nat.mul_add, Nat.mul_add, Nat.pow_add, Nat.mul_assoc (R ^ i), Nat.mul_left_comm x (R ^ j) y]
    rw [e3]
    omega
  · intro t ht
    rw [nth_set_other _ (by omega)]
    exact h5 t (by omega)

/-- What i rounds of the outer loop have made. -/
def MulOut (xs ys : List Nat) (i : Nat) (ps : List Nat) : Prop :=
  ps.length = xs.length + ys.length ∧ Small R ps ∧ val R ps = val R (xs.take i) * val R ys ∧ ∀ t, i + ys.length ≤ t → nth ps t = 0

theorem nth_replicate (n t : Nat) : nth (List.replicate n 0) t = 0 := by
  by_cases h : t < n
  · rw [nth_eq (by simpa using h)]; simp
  · rw [nth_ge (by simp; omega)]

theorem MulOut.zero (xs ys : List Nat) : MulOut xs ys 0 (List.replicate (xs.length + ys.length) 0) :=
  ⟨by simp, small_replicate _, by rw [val_replicate]; simp [val], fun t _ => nth_replicate _ t⟩

theorem MulOut.step {xs ys ps qs : List Nat} {i c : Nat} (h : MulOut xs ys i ps) (hi : i < xs.length) (k : MulIn ps ys (nth xs i) i ys.length qs c) : MulOut xs ys (i + 1) (qs.set (i + ys.length) c) := by
  obtain ⟨h1, h2, h3, h4⟩ := h
  obtain ⟨k1, k2, k3, k4, k5⟩ := k
  have hz : nth qs (i + ys.length) = 0 := (k5 _ (Nat.le_refl _)).trans (h4 _ (Nat.le_refl _))
  refine ⟨by simp [k1, h1], k2.set _ _ k3, ?_, ?_⟩
  · have hv := val_set R qs (i + ys.length) c (by omega)
    rw [hz, Nat.mul_zero, Nat.add_zero] at hv
    rw [hv, k4, h3, List.take_length, val_take_nth, Nat.add_mul, Nat.mul_assoc]
  · intro t ht
    rw [nth_set_other _ (by omega), k5 t (by omega), h4 t (by omega)]

set_option maxRecDepth 100000 in
set_option maxHeartbeats 4000000 in
theorem mul_calls (w : World) (sv tv : Value) (xs ys : List Nat) (hx0 : Limbs w sv xs) (hy0 : Limbs w tv ys) (bx : xs.length ≤ 1048576) (byy : ys.length ≤ 1048576) :
    Calls Tryd.prog 63 #[sv, tv] w fun e w' => ∃ rv, e = .returned rv ∧ Answer w w' rv (val R xs * val R ys) ∧ Below w.heap.size w w' := by
  obtain ⟨ao, cap, rfl⟩ := hx0.len
  obtain ⟨bo, dap, rfl⟩ := hy0.len
  go_enter Tryd.func63, Tryd.ntmps63
  go_wp2_with fail
  refine (trim_lim _ _ _ hx0).mono ?_
  rintro e w1 ⟨us, ao1, cap1, rfl, hx, _, evx, hlx, hb1⟩
  go_wp2_with fail
  refine (trim_lim _ _ _ (hy0.below hb1)).mono ?_
  rintro e w2 ⟨vs, bo1, dap1, rfl, hy, _, evy, hly, hb2⟩
  replace hx := (hx.below hb1).below hb2
  replace hy := hy.below hb2
  have hb02 : Below w.heap.size w w2 := hb1.trans (hb2.mono hb1.size)
  have hw2 : w.heap.size ≤ w2.heap.size := hb02.size
  clear hb1 hb2 hx0 hy0
  go_wp2_with (at_make; refine wpList_mk _ rfl _ rfl _ (us.length + vs.length) rfl (by omega) (by omega) ?_; intro w3 hr3 hb3 hz3)
  obtain ⟨g, hg⟩ : ∃ g, g = w2.heap.size := ⟨_, rfl⟩
  rw [← hg] at hr3 hb3 ⊢
  have hgw : w.heap.size ≤ g := by omega
  have Hg := hide hg
  clear hg
  obtain ⟨_, _, ex, _, _, sx, cx⟩ := hx
  cases ex
  obtain ⟨_, _, ey, _, _, sy, cy⟩ := hy
  cases ey
  have Cx := hide cx
  have Cy := hide cy
  clear cx cy
  go_loopw [24] (fun i wr => ∃ (k : Nat) (ps : List Nat), k ≤ us.length ∧ i = .int .i64 k ∧ MulOut us vs k ps ∧ Row wr g ps ∧ Below g w2 wr) (fun i _ => us.length - (intOf i).toNat)
  case atStart => exact ⟨0, _, Nat.zero_le _, rfl, MulOut.zero us vs, hr3, hb3⟩
  case round =>
    obtain ⟨k, ps, hk, rfl, hout, hrow, hB⟩ := hrel
    by_cases hlt : k < us.length
    · obtain ⟨b, off, rfl, hc⟩ := Cx.out k hlt
      have c1 := (hB.cell (p := ⟨b, off + k, none⟩) (by rw [Hg.out]; exact block_lt_of_cell hc)).trans hc
      have hxk := sx.nth R_pos k
      have Hxk := hide hxk
      rw [R_eq] at hxk
      clear hc
      go_wp2
      go_loopw [8, 31] (fun c j wr' => ∃ (jj : Nat) (qs : List Nat) (cc : Nat), jj ≤ vs.length ∧ j = .int .i64 jj ∧ c = .int .u64 ((cc : Nat) : Int) ∧ MulIn ps vs (nth us k) k jj qs cc ∧ Row wr' g qs ∧ Below g w2 wr') (fun _ j _ => vs.length - (intOf j).toNat)
      case atStart => exact ⟨0, ps, 0, Nat.zero_le _, rfl, rfl, MulIn.zero hout.2.1, hrow, hB⟩
      case round =>
        obtain ⟨j, qs, cc, hj, rfl, rfl, hin, hrow2, hB2⟩ := hrel
        have hpl := hout.1
        have hql := hin.1
        have Hpl := hide hpl
        have Hql := hide hql
        clear hpl hql
        by_cases hltj : j < vs.length
        · obtain ⟨b', off', rfl, hc'⟩ := Cy.out j hltj
          have c2 := (hB2.cell (p := ⟨b', off' + j, none⟩) (by rw [Hg.out]; exact block_lt_of_cell hc')).trans hc'
          have c3 := hrow2.cell (j := k + j) (by rw [Hql.out, Hpl.out]; omega)
          have f3 := hrow2.frozen (k + j)
          have hyj := sy.nth R_pos j
          have hpj := hin.2.1.nth R_pos (k + j)
          have hcc := hin.2.2.1
          have hm := mul_le' Hxk.out hyj
          have hmi : ((nth us k : Nat) : Int) * ((nth vs j : Nat) : Int) ≤ 18446744065119617025 := by rw [← Int.natCast_mul]; omega
          have hmp : 0 ≤ ((nth us k : Nat) : Int) * ((nth vs j : Nat) : Int) := by rw [← Int.natCast_mul]; omega
          rw [R_eq] at hyj hpj hcc
          clear hc' hm
          go_wp2
          go_roundw
          case rel => exact ⟨j + 1, _, _, by omega, by go_num, rfl, hin.step Hxk.out sy (by rw [Hpl.out]; omega), hrow2.set _ _, hB2.setCell (p := ⟨g, k + j, none⟩) (Nat.le_refl _) _⟩
          case measure => simp [intOf]; omega
        · obtain rfl : j = vs.length := by omega
          have c3 := hrow2.cell (j := k + vs.length) (by rw [Hql.out, Hpl.out]; omega)
          have f3 := hrow2.frozen (k + vs.length)
          have hcc := hin.2.2.1
          rw [R_eq] at hcc
          go_wp2
          go_roundw
          case rel => exact ⟨k + 1, _, by omega, by go_num, hout.step hlt hin, hrow2.set _ _, hB2.setCell (p := ⟨g, k + vs.length, none⟩) (Nat.le_refl _) _⟩
          case measure => simp [intOf]; omega
    · obtain rfl : k = us.length := by omega
      go_wp2_with fail
      have hval : val R ps = val R xs * val R ys := by rw [hout.2.2.1, List.take_length, evx.out, evy.out]
      refine (trim_made w _ _ _ (us.length + vs.length) _ hrow hout.2.1 hout.1 hgw (by omega) hval).mono ?_
      rintro e w5 ⟨bo, m, dap, rfl, hA, hb5⟩
      clear hval
      go_wp2
      go_ret
      exact ⟨_, rfl, hA, hb02.trans ((hB.mono hgw).trans (hb5.mono (by have := hB.size; omega)))⟩

end Go.Proofs.YtkdhcpfmlelfcaaDoor
