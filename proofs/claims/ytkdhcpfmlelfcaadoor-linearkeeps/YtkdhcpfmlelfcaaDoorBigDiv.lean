/- The contracts of DivMod and Divides of numbers with a sign. -/
import Derived.Test.YtkdhcpfmlelfcaaDoorBigCmp
namespace Go.Proofs.YtkdhcpfmlelfcaaDoor
set_option linter.unusedVariables false
set_option linter.unusedSimpArgs false
set_option maxRecDepth 100000
open Go Go.RowKit Go.Shelf Go.Lib

theorem div_mod_cast (m n : Nat) : (n : Int) * ((m / n : Nat) : Int) + ((m % n : Nat) : Int) = (m : Int) := by
  have := Nat.div_add_mod m n
  have h2 : ((n * (m / n) + m % n : Nat) : Int) = (m : Int) := by rw [this]
  rw [Int.natCast_add, Int.natCast_mul] at h2
  exact h2

theorem spec_up {nb : Bool} {m n : Nat} (hn : n ≠ 0) (hr : m % n ≠ 0) : sgn (true != nb) (m / n + 1) = sgn true m / sgn nb n ∧ sgn false (n - m % n) = sgn true m % sgn nb n := by
  have hlt := Nat.mod_lt m (Nat.pos_of_ne_zero hn)
  have hd := div_mod_cast m n
  have hu := (Int.ediv_emod_unique (a := -(m : Int)) (b := (n : Int)) (r := ((n - m % n : Nat) : Int)) (q := -((m / n + 1 : Nat) : Int)) (by omega)).2 ⟨by
    rw [Int.natCast_add, Int.mul_neg, Int.mul_add]
    have : ((n - m % n : Nat) : Int) = (n : Int) - ((m % n : Nat) : Int) := by omega
    rw [this]
    generalize (n : Int) * ((m / n : Nat) : Int) = P at *
    generalize ((m % n : Nat) : Int) = r at *
    simp
    omega, by omega, by omega⟩
  cases nb
  · exact ⟨hu.1.symm, hu.2.symm⟩
  · refine ⟨?_, ?_⟩
    · show ((m / n + 1 : Nat) : Int) = -(m : Int) / -(n : Int)
      rw [Int.ediv_neg, hu.1]
      omega
    · show ((n - m % n : Nat) : Int) = -(m : Int) % -(n : Int)
      rw [Int.emod_neg, hu.2]

theorem spec_down {na nb : Bool} {m n : Nat} (hn : n ≠ 0) (hr : na = true → m % n = 0) : sgn (na != nb) (m / n) = sgn na m / sgn nb n ∧ sgn false (m % n) = sgn na m % sgn nb n := by
  have hlt := Nat.mod_lt m (Nat.pos_of_ne_zero hn)
  have hd := div_mod_cast m n
  have h1 : (m : Int) / (n : Int) = ((m / n : Nat) : Int) := rfl
  have h2 : (m : Int) % (n : Int) = ((m % n : Nat) : Int) := rfl
  have key : sgn na m / (n : Int) = sgn na (m / n) ∧ sgn na m % (n : Int) = ((m % n : Nat) : Int) := by
    cases na with
    | false => exact ⟨h1, h2⟩
    | true =>
      have h0 := hr rfl
      have hu := (Int.ediv_emod_unique (a := -(m : Int)) (b := (n : Int)) (r := 0) (q := -((m / n : Nat) : Int)) (by omega)).2 ⟨by
        rw [h0] at hd
        rw [Int.mul_neg]
        generalize (n : Int) * ((m / n : Nat) : Int) = P at *
        simp at hd ⊢
        omega, by omega, by omega⟩
      refine ⟨hu.1, ?_⟩
      show -(m : Int) % (n : Int) = _
      rw [hu.2, h0]
      rfl
  cases nb with
  | false => exact ⟨by rw [Bool.bne_false]; exact key.1.symm, key.2.symm⟩
  | true =>
    refine ⟨?_, ?_⟩
    · show sgn (na != true) (m / n) = sgn na m / -(n : Int)
      rw [Int.ediv_neg, key.1, Bool.bne_true, neg_sgn]
    · show ((m % n : Nat) : Int) = sgn na m % -(n : Int)
      rw [Int.emod_neg, key.2]

theorem results_big3 {fn : Func} {i j k : Tmp} (h : fn.results = #[.cell i 24, .cell j 24, .tmp k]) {tmps : Array Value} {W : World} {b b' : Nat} {x y x' y' : Value} {t : TypeId} {ev : Value} (hp : tmps.getD i undef = .pointer (some ⟨b, 0, none⟩)) (hq : tmps.getD j undef = .pointer (some ⟨b', 0, none⟩)) (he : tmps.getD k undef = ev) (T : Two W b x y t) (T' : Two W b' x' y' t) :
    (results fn tmps).run Tryd.prog W = .ok (.tuple #[.agg #[x, y], .agg #[x', y'], ev]) W := by
  have c0 := T.c0
  have c1 := T.c1
  have d0 := T'.c0
  have d1 := T'.c1
  have hp' : tmps[i]?.getD undef = .pointer (some ⟨b, 0, none⟩) := by simpa using hp
  have hq' : tmps[j]?.getD undef = .pointer (some ⟨b', 0, none⟩) := by simpa using hq
  have he' : tmps[k]?.getD undef = ev := by simpa using he
  simp [results, h, hp', hq', he', go_sem, c0, c1, d0, d1]

theorem boxes4 (w : World) (x0 y0 x1 y1 x2 y2 x3 y3 : Value) (t : TypeId) :
    let W := ((((w.alloc (.cells #[x0, y0] t)).alloc (.cells #[x1, y1] t)).alloc (.cells #[x2, y2] t)).alloc (.cells #[x3, y3] t))
    Two W w.heap.size x0 y0 t ∧ Two W (w.heap.size + 1) x1 y1 t ∧ Two W (w.heap.size + 1 + 1) x2 y2 t ∧ Two W (w.heap.size + 1 + 1 + 1) x3 y3 t ∧ Below w.heap.size w W := by
  obtain ⟨t0, t1, t2, hb⟩ := boxes w x0 y0 x1 y1 x2 y2 t
  refine ⟨t0.alloc _, t1.alloc _, t2.alloc _, ?_, hb.alloc (by simp; omega) _⟩
  have := Two.new (((w.alloc (.cells #[x0, y0] t)).alloc (.cells #[x1, y1] t)).alloc (.cells #[x2, y2] t)) x3 y3 t
  rw [World.size_alloc, World.size_alloc, World.size_alloc] at this
  exact this

theorem sg_ne {z : Int} (h : z ≠ 0) : sg z ≠ 0 := by
  rcases Int.lt_trichotomy z 0 with h1 | h1 | h1
  · rw [sg_neg h1]; decide
  · exact absurd h1 h
  · rw [sg_pos h1]; decide

theorem sg_true {m : Nat} (h : m ≠ 0) : sg (sgn true m) = -1 := sg_neg (by unfold sgn; rw [if_pos rfl]; omega)

end Go.Proofs.YtkdhcpfmlelfcaaDoor
