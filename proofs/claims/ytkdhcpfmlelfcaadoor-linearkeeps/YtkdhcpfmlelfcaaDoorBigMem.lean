/- Numbers with a sign, as arguments and as answers; the contracts of signed, Sign, Norm, Neg and Abs. -/
import Derived.Test.YtkdhcpfmlelfcaaDoorLaw0
import Derived.Test.YtkdhcpfmlelfcaaDoorSmall2
import Derived.Deep.RegionHeld3
import Derived.Handy
namespace Go.Proofs.YtkdhcpfmlelfcaaDoor
set_option linter.unusedVariables false
set_option linter.unusedSimpArgs false
open Go Go.RowKit Go.Shelf Go.Lib

/-- A number by its sign and its worth. -/
def sgn (neg : Bool) (n : Nat) : Int := if neg then -(n : Int) else (n : Int)

/-- A number with a sign as an argument: in whatever form. -/
def BArg (W : World) (v : Value) (z : Int) : Prop := ∃ neg mv n, v = .agg #[.bool neg, mv] ∧ Arg W mv n ∧ z = sgn neg n
/-- A number with a sign as an answer: in its one form. -/
def BRes (W : World) (v : Value) (z : Int) : Prop := ∃ mv, v = .agg #[.bool (decide (z < 0)), mv] ∧ Res W mv z.natAbs

theorem BArg.below {W W' : World} {v : Value} {z : Int} (h : BArg W v z) (hb : Below W.heap.size W W') : BArg W' v z := by
  obtain ⟨neg, mv, n, h1, h2, h3⟩ := h
  exact ⟨neg, mv, n, h1, h2.below hb, h3⟩
theorem BRes.below {W W' : World} {v : Value} {z : Int} (h : BRes W v z) (hb : Below W.heap.size W W') : BRes W' v z := by
  obtain ⟨mv, h1, h2⟩ := h
  exact ⟨mv, h1, h2.below hb⟩

theorem BArg.drew {W : World} {v : Value} {z : Int} (h : BArg W v z) : BArg W.drew v z := h.below ((Below.refl _ _).drew)

theorem bel (w : World) (o : Obj) : Below w.heap.size w (w.alloc o) := (Below.refl _ w).alloc (Nat.le_refl _) o

theorem Arg.shape {W : World} {v : Value} {n : Nat} (h : Arg W v n) : ∃ a L c, v = .slice a L c := by
  obtain ⟨xs, hl, _⟩ := h
  obtain ⟨a, c, rfl⟩ := hl.len
  exact ⟨a, _, c, rfl⟩

theorem Res.shape {W : World} {v : Value} {n : Nat} (h : Res W v n) : ∃ a L c, v = .slice a L c ∧ (L = 0 ↔ n = 0) := by
  obtain ⟨xs, hl, hc, rfl⟩ := h
  obtain ⟨a, c, rfl⟩ := hl.len
  exact ⟨a, _, c, rfl, fun e => by rw [List.eq_nil_of_length_eq_zero e]; rfl, fun e => by rw [hc.val_zero R_pos e]; rfl⟩

theorem BRes.form {W : World} {v : Value} {z : Int} (h : BRes W v z) : ∃ b a L c, v = .agg #[.bool b, .slice a L c] := by
  obtain ⟨mv, rfl, hm⟩ := h
  obtain ⟨a, L, c, rfl, _⟩ := hm.shape
  exact ⟨_, _, _, _, rfl⟩

theorem sgn_abs (z : Int) : sgn (decide (z < 0)) z.natAbs = z := by
  unfold sgn
  by_cases h : z < 0
  · simp [h]; omega
  · simp [h]; omega

theorem BRes.arg {W : World} {v : Value} {z : Int} {k : Nat} (h : BRes W v z) (hz : z.natAbs < R ^ k) (hk : k ≤ 1048576) : BArg W v z := by
  obtain ⟨mv, h1, h2⟩ := h
  exact ⟨_, mv, z.natAbs, h1, h2.arg hz hk, (sgn_abs z).symm⟩

theorem bres_mk {W : World} {mv : Value} {n : Nat} (hm : Res W mv n) (neg b : Bool) (hb : b = (neg && decide (n ≠ 0))) : BRes W (.agg #[.bool b, mv]) (sgn neg n) := by
  have e1 : (sgn neg n).natAbs = n := by
    unfold sgn
    cases neg <;> simp
  have e2 : decide (sgn neg n < 0) = b := by
    rw [hb]
    unfold sgn
    cases neg
    · simp
    · by_cases h : n = 0
      · subst h; rfl
      · simp [h]; omega
  exact ⟨mv, by rw [e2], by rw [e1]; exact hm⟩

set_option maxRecDepth 100000 in
set_option maxHeartbeats 1000000 in
theorem signed_calls {w : World} {neg : Bool} {mv : Value} {n : Nat} (hm : Res w mv n) :
    Calls Tryd.prog 27 #[.bool neg, mv] w fun e w' => ∃ v, e = .returned v ∧ BRes w' v (sgn neg n) ∧ Below w.heap.size w w' := by
  obtain ⟨a, L, c, rfl, hL⟩ := hm.shape
  have Hm := hide hm
  clear hm
  cases neg with
  | true =>
    by_cases hz : n = 0
    · obtain rfl : L = 0 := hL.2 hz
      have Hz := hide hz
      clear hz hL
      go_enter Tryd.func27, Tryd.ntmps27
      go_wp2
      go_returns
      exact ⟨_, rfl, bres_mk (Hm.out.below (bel w _)) true false (by rw [Hz.out]; rfl), bel w _⟩
    · have hL0 : 0 < L := by
        have : L ≠ 0 := fun e => hz (hL.1 e)
        omega
      have Hz := hide hz
      have HL0 := hide hL0
      clear hz hL hL0
      go_enter Tryd.func27, Tryd.ntmps27
      go_wp2
      go_returns
      exact ⟨_, rfl, bres_mk (Hm.out.below (bel w _)) true _ (by simp [Hz.out, HL0.out]), bel w _⟩
  | false =>
    clear hL
    go_enter Tryd.func27, Tryd.ntmps27
    go_wp2
    go_returns
    exact ⟨_, rfl, bres_mk (Hm.out.below (bel w _)) false false rfl, bel w _⟩

/-- -1, 0 or 1 by the sign. -/
def sg (z : Int) : Int := if z < 0 then -1 else if z = 0 then 0 else 1

theorem isZero_is {w : World} {sv : Value} {m : Nat} (hx : Arg w sv m) (b : Bool) (hb : b = decide (m = 0)) :
    Calls Tryd.prog 53 #[sv] w fun e w' => e = .returned (.bool b) ∧ Below w.heap.size w w' := by
  obtain ⟨xs, h1, h2, rfl⟩ := hx
  rw [hb]
  exact isZero_calls w sv xs h1

set_option maxRecDepth 100000 in
set_option maxHeartbeats 1000000 in
theorem sign_calls {w : World} {v : Value} {z : Int} (hv : BArg w v z) :
    Calls Tryd.prog 34 #[v] w fun e w' => e = .returned (.int .i64 (sg z)) ∧ Below w.heap.size w w' := by
  obtain ⟨neg, mv, n, rfl, hm, rfl⟩ := hv
  obtain ⟨a, L, c, rfl⟩ := hm.shape
  have Hm := hide (hm.below (bel w (.cells #[.bool neg, .slice a L c] 24)))
  clear hm
  by_cases hz : n = 0
  · have Hz := hide hz
    clear hz
    go_enter Tryd.func34, Tryd.ntmps34
    go_wp2_with fail
    refine (isZero_is Hm.out true (by rw [Hz.out]; rfl)).mono ?_
    rintro e w1 ⟨rfl, hb1⟩
    go_wp2
    go_ret
    refine ⟨?_, bgo (bel w _) hb1⟩
    rw [Hz.out]
    cases neg <;> rfl
  · have Hz := hide hz
    clear hz
    cases neg with
    | true =>
      go_enter Tryd.func34, Tryd.ntmps34
      go_wp2_with fail
      refine (isZero_is Hm.out false (by simp [Hz.out])).mono ?_
      rintro e w1 ⟨rfl, hb1⟩
      have c1 := hb1.cell (p := ⟨w.heap.size, 0, none⟩) (by simp)
      go_wp2
      go_ret
      refine ⟨?_, bgo (bel w _) hb1⟩
      have : sg (sgn true n) = -1 := by
        have := Hz.out
        unfold sg sgn
        rw [if_pos rfl, if_pos (by omega)]
      rw [this]
      rfl
    | false =>
      go_enter Tryd.func34, Tryd.ntmps34
      go_wp2_with fail
      refine (isZero_is Hm.out false (by simp [Hz.out])).mono ?_
      rintro e w1 ⟨rfl, hb1⟩
      have c1 := hb1.cell (p := ⟨w.heap.size, 0, none⟩) (by simp)
      go_wp2
      go_ret
      refine ⟨?_, bgo (bel w _) hb1⟩
      have : sg (sgn false n) = 1 := by
        have := Hz.out
        show (if ((n : Nat) : Int) < 0 then (-1 : Int) else if ((n : Nat) : Int) = 0 then 0 else 1) = 1
        rw [if_neg (by omega), if_neg (by omega)]
      rw [this]
      rfl

theorem norm_big {w : World} {sv : Value} {m : Nat} (hx : Arg w sv m) :
    Calls Tryd.prog 36 #[sv] w fun e w' => ∃ rv, e = .returned rv ∧ Res w' rv m ∧ Below w.heap.size w w' := by
  obtain ⟨xs, h1, h2, rfl⟩ := hx
  refine (norm_calls w sv xs h1 h2).mono ?_
  rintro e w' ⟨rv, rfl, hA, hb⟩
  exact ⟨rv, rfl, hA.res, hb⟩

/-- A block of two cells: what it holds, and that it may be written. -/
def Two (W : World) (b : Nat) (x y : Value) (t : TypeId) : Prop := W.heap[b]? = some (.cells #[x, y] t (0, 0))

theorem Two.keep {W W' : World} {b : Nat} {x y : Value} {t : TypeId} (h : Two W b x y t) (hb : Below W.heap.size W W') : Two W' b x y t := (hb.block b (Array.getElem?_eq_some_iff.1 h).1).trans h
theorem Two.c0 {W : World} {b : Nat} {x y : Value} {t : TypeId} (h : Two W b x y t) : W.cell? ⟨b, 0, none⟩ = some x := by rw [cell_of_row W b 0 _ _ _ h]; rfl
theorem Two.c1 {W : World} {b : Nat} {x y : Value} {t : TypeId} (h : Two W b x y t) : W.cell? ⟨b, 1, none⟩ = some y := by rw [cell_of_row W b 1 _ _ _ h]; rfl
theorem Two.f0 {W : World} {b : Nat} {x y : Value} {t : TypeId} (h : Two W b x y t) (j : Nat) : W.frozen? ⟨b, j, none⟩ = false := frozen_of_row W b j _ _ h
theorem Two.new (W : World) (x y : Value) (t : TypeId) : Two (W.alloc (.cells #[x, y] t)) W.heap.size x y t := World.alloc_heap_new W _
theorem Two.alloc {W : World} {b : Nat} {x y : Value} {t : TypeId} (h : Two W b x y t) (o : Obj) : Two (W.alloc o) b x y t := h.keep (bel W o)
theorem Two.drew {W : World} {b : Nat} {x y : Value} {t : TypeId} (h : Two W b x y t) : Two W.drew b x y t := h

theorem Two.put {W : World} {b : Nat} {x y : Value} {t : TypeId} (h : Two W b x y t) (p q : Value) : Two ((W.setCell ⟨b, 0, none⟩ p).setCell ⟨b, 1, none⟩ q) b p q t := by
  have h1 := heap_setCell_same W b 0 _ _ p h
  have h2 := heap_setCell_same (W.setCell ⟨b, 0, none⟩ p) b 1 _ _ q h1
  exact h2

theorem results_big {fn : Func} {k : Tmp} (h : fn.results = #[.cell k 24]) {tmps : Array Value} {W : World} {b : Nat} {x y : Value} {t : TypeId} (hp : tmps.getD k undef = .pointer (some ⟨b, 0, none⟩)) (T : Two W b x y t) :
    (results fn tmps).run Tryd.prog W = .ok (.agg #[x, y]) W := by
  have c0 := T.c0
  have c1 := T.c1
  have hp' : tmps[k]?.getD undef = .pointer (some ⟨b, 0, none⟩) := by simpa using hp
  simp [results, h, hp', go_sem, c0, c1]

theorem cell_set {W : World} {b : Nat} {bx : Bool} {ay : Option Addr} {Ly cy : Nat} {t : TypeId} (h : Two W b (.bool bx) (.slice ay Ly cy) t) (p q : Value) {a : Addr} {k : IntKind} {x : Int} (hc : W.cell? a = some (.int k x)) :
    ((W.setCell ⟨b, 0, none⟩ p).setCell ⟨b, 1, none⟩ q).cell? a = some (.int k x) := by
  have hne : a.block ≠ b := by
    intro e
    obtain ⟨ab, ao, asp⟩ := a
    have hs : asp = none := World.cell?_spot hc
    subst hs
    simp only at e
    subst e
    rw [cell_of_row W ab ao _ _ _ h] at hc
    match ao, hc with
    | 0, hc => simp at hc
    | 1, hc => simp at hc
    | n + 2, hc => simp at hc
  have e1 := World.cell?_of_block (w := W) (w' := (W.setCell ⟨b, 0, none⟩ p).setCell ⟨b, 1, none⟩ q) (a := a) ((heap_setCell_other _ ⟨b, 1, none⟩ a.block q hne).trans (heap_setCell_other W ⟨b, 0, none⟩ a.block p hne))
  rw [e1, hc]

theorem Limbs.put {W : World} {b : Nat} {bx : Bool} {ay : Option Addr} {Ly cy : Nat} {t : TypeId} {v : Value} {zs : List Nat} (h : Limbs W v zs) (T : Two W b (.bool bx) (.slice ay Ly cy) t) (p q : Value) :
    Limbs ((W.setCell ⟨b, 0, none⟩ p).setCell ⟨b, 1, none⟩ q) v zs := by
  obtain ⟨ao, cap, e, h1, h2, h3, h4⟩ := h
  refine ⟨ao, cap, e, h1, h2, h3, fun j hj => ?_⟩
  obtain ⟨bb, off, e2, hc⟩ := h4 j hj
  exact ⟨bb, off, e2, cell_set T p q hc⟩

theorem Res.put {W : World} {b : Nat} {bx : Bool} {ay : Option Addr} {Ly cy : Nat} {t : TypeId} {v : Value} {n : Nat} (h : Res W v n) (T : Two W b (.bool bx) (.slice ay Ly cy) t) (p q : Value) :
    Res ((W.setCell ⟨b, 0, none⟩ p).setCell ⟨b, 1, none⟩ q) v n := by
  obtain ⟨xs, h1, h2⟩ := h
  exact ⟨xs, h1.put T p q, h2⟩

theorem BRes.put {W : World} {b : Nat} {bx : Bool} {ay : Option Addr} {Ly cy : Nat} {t : TypeId} {v : Value} {z : Int} (h : BRes W v z) (T : Two W b (.bool bx) (.slice ay Ly cy) t) (p q : Value) :
    BRes ((W.setCell ⟨b, 0, none⟩ p).setCell ⟨b, 1, none⟩ q) v z := by
  obtain ⟨mv, h1, h2⟩ := h
  exact ⟨mv, h1, h2.put T p q⟩

theorem Arg.put {W : World} {b : Nat} {bx : Bool} {ay : Option Addr} {Ly cy : Nat} {t : TypeId} {v : Value} {n : Nat} (h : Arg W v n) (T : Two W b (.bool bx) (.slice ay Ly cy) t) (p q : Value) :
    Arg ((W.setCell ⟨b, 0, none⟩ p).setCell ⟨b, 1, none⟩ q) v n := by
  obtain ⟨xs, h1, h2⟩ := h
  exact ⟨xs, h1.put T p q, h2⟩

theorem Two.other {W : World} {b g : Nat} {x y : Value} {t : TypeId} (h : Two W b x y t) (hne : b ≠ g) (p q : Value) : Two ((W.setCell ⟨g, 0, none⟩ p).setCell ⟨g, 1, none⟩ q) b x y t :=
  ((heap_setCell_other _ ⟨g, 1, none⟩ b q hne).trans (heap_setCell_other W ⟨g, 0, none⟩ b p hne)).trans h

theorem below_put {w W : World} {n b : Nat} (h : Below n w W) (hb : n ≤ b) (p q : Value) : Below n w ((W.setCell ⟨b, 0, none⟩ p).setCell ⟨b, 1, none⟩ q) :=
  (h.setCell (p := ⟨b, 0, none⟩) hb p).setCell (p := ⟨b, 1, none⟩) hb q

theorem neg_sgn (neg : Bool) (n : Nat) : sgn (!neg) n = - sgn neg n := by
  unfold sgn
  cases neg <;> simp

end Go.Proofs.YtkdhcpfmlelfcaaDoor
