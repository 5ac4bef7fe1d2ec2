/- What the laws on numbers with a sign share: bounds, comparisons that are known. -/
import Derived.Test.YtnfplceadkelaaaGreatDoorBigSigned
namespace Go.Proofs.YtnfplceadkelaaaGreatDoor
set_option linter.unusedVariables false
set_option linter.unusedSimpArgs false
set_option maxRecDepth 100000
open Go Go.RowKit Go.Shelf Go.Lib Go.ChangeShapes Go.WideShapes

theorem bl_add {x y : Int} {k : Nat} (h : x.natAbs < R ^ k) (g : y.natAbs < R ^ k) : (x + y).natAbs < R ^ (k + 1) :=
  Nat.lt_of_le_of_lt (Int.natAbs_add_le x y) (lt_add h g)
theorem bl_neg {x : Int} {k : Nat} (h : x.natAbs < R ^ k) : (-x).natAbs < R ^ k := by rw [Int.natAbs_neg]; exact h
theorem bl_sub {x y : Int} {k : Nat} (h : x.natAbs < R ^ k) (g : y.natAbs < R ^ k) : (x - y).natAbs < R ^ (k + 1) := by
  rw [Int.sub_eq_add_neg]
  exact bl_add h (bl_neg g)
theorem bl_mul {x y : Int} {j k : Nat} (h : x.natAbs < R ^ j) (g : y.natAbs < R ^ k) : (x * y).natAbs < R ^ (j + k) := by
  rw [Int.natAbs_mul]
  exact lt_mul h g
theorem bl_up {x : Int} {k : Nat} (h : x.natAbs < R ^ k) : x.natAbs < R ^ (k + 1) := lt_up h (by omega)
theorem bl_zero : (0 : Int).natAbs < R ^ 1 := by decide
theorem bl_limbs {na : Bool} {xs : List Nat} (hs : Small R xs) (hl : xs.length ≤ 8) : (sgn na (val R xs)).natAbs < R ^ 8 := by
  have e : (sgn na (val R xs)).natAbs = val R xs := by unfold sgn; split <;> simp
  rw [e]
  exact Nat.lt_of_lt_of_le (val_lt hs) (Nat.pow_le_pow_right R_pos hl)

theorem bcmp_same {w : World} {u v : Value} {x y : Int} (hu : BArg w u x) (hv : BArg w v y) (h : x = y) :
    Calls Tryz.prog 46 #[u, v] w fun e w' => e = .returned (.int .i64 0) ∧ Below w.heap.size w w' := by
  subst h
  refine (bcmp_calls hu hv).mono ?_
  rintro e w' ⟨rfl, hb⟩
  exact ⟨by rw [cmpI_eq], hb⟩

theorem bcmp_ge {w : World} {u v : Value} {x y : Int} (hu : BArg w u x) (hv : BArg w v y) (h : y ≤ x) :
    Calls Tryz.prog 46 #[u, v] w fun e w' => ∃ c : Int, e = .returned (.int .i64 c) ∧ c ≥ 0 ∧ Below w.heap.size w w' := by
  refine (bcmp_calls hu hv).mono ?_
  rintro e w' ⟨rfl, hb⟩
  exact ⟨_, rfl, by unfold cmpI; split <;> (try split) <;> omega, hb⟩

theorem sign_zero {w : World} {v : Value} {z : Int} (hv : BArg w v z) (h : z = 0) :
    Calls Tryz.prog 65 #[v] w fun e w' => e = .returned (.int .i64 0) ∧ Below w.heap.size w w' := by
  subst h
  exact sign_calls hv

theorem sq_sum (x y : Int) : 0 ≤ x * x + y * y := by
  have h1 : 0 ≤ x * x := by
    rcases Int.le_total 0 x with h | h
    · exact Int.mul_nonneg h h
    · exact Int.mul_nonneg_of_nonpos_of_nonpos h h
  have h2 : 0 ≤ y * y := by
    rcases Int.le_total 0 y with h | h
    · exact Int.mul_nonneg h h
    · exact Int.mul_nonneg_of_nonpos_of_nonpos h h
  omega

theorem cellsBig : Tryz.prog.cellsOf 24 = 2 := by kernel_rfl
theorem cellsSl : Tryz.prog.cellsOf 22 = 1 := by kernel_rfl
theorem cellsBool : Tryz.prog.cellsOf 4 = 1 := by kernel_rfl

/-- A slice of limbs that came in as a part of a struct. -/
theorem limbs_part {H : Type} {enc : TypeId × Value → H} {W : World} {fuel : Nat} {c : Value} {x : DataW H × List MemPlace}
    (hf : DataW.trod enc Tryz.prog W 0 (fun _ => true) true fuel 22 [c] = some x)
    (hsz : ∀ elems spare, x.1 = .slice elems spare → (elems.length + spare.length) * 4 ≤ reachBytes) : ∃ xs, Limbs W c xs := by
  rcases open_ints Tryz.underlying22 Tryz.underlying141 cellsU32 hf with ⟨hcs, _⟩ | ⟨y, len0, cap0, zs, hcs, _, hl, hm, hz, hx, hcell, hwz⟩
  · simp at hcs
    subst hcs
    exact ⟨[], Limbs.nil W⟩
  · simp at hcs
    subst hcs
    simp only [if_true] at hz
    have hx1 : x.1 = .slice (lits .u32 (zs.take len0)) (lits .u32 (zs.drop len0)) := congrArg Prod.fst hx
    have hb := hsz _ _ hx1
    simp only [lits, List.length_map, List.length_take, List.length_drop] at hb
    have hr := reachBytes_lt
    have hl0 : ((zs.take len0).map Int.toNat).length = len0 := by simp; omega
    have hw : ∀ n ∈ zs, 0 ≤ n ∧ n < 4294967296 := fun n hn => by
      have := hwz n hn
      simp [Lit.wf, IntKind.min, IntKind.max, IntKind.signed, IntKind.bits] at this
      omega
    refine ⟨(zs.take len0).map Int.toNat, some y, cap0, by rw [hl0], by rw [hl0]; exact hl, by omega, ?_, fun j hj => ?_⟩
    · intro u hu
      obtain ⟨n, hn, rfl⟩ := List.mem_map.1 hu
      have := hw n (List.mem_of_mem_take hn)
      rw [R_eq]
      omega
    · rw [hl0] at hj
      have hc := hcell j (by omega)
      have hc0 := hcell 0 (by omega)
      obtain ⟨b, off, spot⟩ := y
      have hspot : spot = none := by simpa [Addr.add] using World.cell?_spot hc0
      subst hspot
      have ha : (⟨b, off, none⟩ : Addr).add j = ⟨b, off + j, none⟩ := by
        unfold Addr.add
        split
        · rename_i h0; simp [h0]
        · rfl
      rw [ha] at hc
      refine ⟨b, off, rfl, ?_⟩
      have hjz : j < zs.length := by omega
      have hmem := hw zs[j] (List.getElem_mem hjz)
      have e1 : nth ((zs.take len0).map Int.toNat) j = (zs[j]).toNat := by
        rw [nth_eq (by simp; omega)]
        simp
      rw [e1, Int.toNat_of_nonneg hmem.1]
      simpa [List.getD, hjz] using hc

/-- A number with a sign that came in. -/
theorem big_in {H : Type} {enc : TypeId × Value → H} {W : World} {base : Nat} {v : Value} {d : DataW H} {ps : List MemPlace}
    (hval : Value.okWide Tryz.prog W .any base 24 v) (h : DataW.Trod enc Tryz.prog W 0 (fun _ => true) true 24 v d ps)
    (hsz : ∀ n ∈ DataW.weights Tryz.prog 24 d, n ≤ reachBytes) : ∃ neg sv xs, v = .agg #[.bool neg, sv] ∧ Limbs W sv xs := by
  obtain ⟨cs, rfl, hcl⟩ := okWide_struct Tryz.underlying24 hval
  rw [cellsBig] at hcl
  obtain ⟨l⟩ := cs
  match l, hcl with
  | [c0, c1], _ =>
    obtain ⟨fuel, hf⟩ := h
    obtain ⟨y0, y1, m, hx, _, hy0, hy1⟩ := trod_struct2 Tryz.underlying24 hf
    simp [Value.cells, cellsBool, cellsSl] at hy0 hy1
    obtain ⟨b, e0, _⟩ := DataW.trod_bool Tryz.underlying4 hy0
    simp at e0
    subst e0
    have hd : d = .agg [y0.1, y1.1] := congrArg Prod.fst hx
    obtain ⟨xs, hl⟩ := limbs_part hy1 (fun elems spare e => by
      have := hsz ((elems.length + spare.length) * 4) (by
        rw [hd]
        simp [DataW.weights, Tryz.underlying24, DataW.weightsEach, e, Tryz.underlying22, bytesU32])
      exact this)
    exact ⟨b, c1, xs, rfl, hl⟩

/-- A number that lies in a block. -/
def BoxA (W : World) (b : Nat) (n : Bool) (a : Option Addr) (L c : Nat) (z : Int) : Prop := Two W b (.bool n) (.slice a L c) 24 ∧ BArg W (.agg #[.bool n, .slice a L c]) z
theorem BoxA.keep {W W' : World} {b : Nat} {n : Bool} {a : Option Addr} {L c : Nat} {z : Int} (h : BoxA W b n a L c z) (hb : Below W.heap.size W W') : BoxA W' b n a L c z := ⟨h.1.keep hb, h.2.below hb⟩
theorem BoxA.c0 {W : World} {b : Nat} {n : Bool} {a : Option Addr} {L c : Nat} {z : Int} (h : BoxA W b n a L c z) : W.cell? ⟨b, 0, none⟩ = some (.bool n) := h.1.c0
theorem BoxA.c1 {W : World} {b : Nat} {n : Bool} {a : Option Addr} {L c : Nat} {z : Int} (h : BoxA W b n a L c z) : W.cell? ⟨b, 1, none⟩ = some (.slice a L c) := h.1.c1
theorem BoxA.lt {W : World} {b : Nat} {n : Bool} {a : Option Addr} {L c : Nat} {z : Int} (h : BoxA W b n a L c z) : b < W.heap.size := (Array.getElem?_eq_some_iff.1 h.1).1
theorem BoxA.arg {W : World} {b : Nat} {n : Bool} {a : Option Addr} {L c : Nat} {z : Int} (h : BoxA W b n a L c z) : BArg W (.agg #[.bool n, .slice a L c]) z := h.2
theorem BoxA.new {W : World} {n : Bool} {a : Option Addr} {L c : Nat} {z : Int} (h : BArg W (.agg #[.bool n, .slice a L c]) z) : BoxA (W.alloc (.cells #[.bool n, .slice a L c] 24)) W.heap.size n a L c z := ⟨Two.new W _ _ _, h.below (bel W _)⟩
theorem BoxA.drew {W : World} {b : Nat} {n : Bool} {a : Option Addr} {L c : Nat} {z : Int} (h : BoxA W b n a L c z) : BoxA W.drew b n a L c z := ⟨h.1, h.2.drew⟩
theorem BoxA.alloc {W : World} {b : Nat} {n : Bool} {a : Option Addr} {L c : Nat} {z : Int} (h : BoxA W b n a L c z) (o : Obj) : BoxA (W.alloc o) b n a L c z := h.keep (bel W o)

theorem BoxA.new2 {W : World} {n : Bool} {a : Option Addr} {L c : Nat} {z : Int} {m : Bool} {b : Option Addr} {M d : Nat} {y : Int} (h : BArg W (.agg #[.bool n, .slice a L c]) z) (g : BArg W (.agg #[.bool m, .slice b M d]) y) :
    BoxA ((W.alloc (.cells #[.bool n, .slice a L c] 24)).alloc (.cells #[.bool m, .slice b M d] 24)) W.heap.size n a L c z ∧ BoxA ((W.alloc (.cells #[.bool n, .slice a L c] 24)).alloc (.cells #[.bool m, .slice b M d] 24)) (W.heap.size + 1) m b M d y := by
  refine ⟨(BoxA.new h).alloc _, ?_⟩
  have := BoxA.new (W := W.alloc (.cells #[.bool n, .slice a L c] 24)) (g.below (bel W _))
  rw [World.size_alloc] at this
  exact this

theorem kalloc {n : Nat} {w W : World} (h : Below n w W) (hn : n ≤ w.heap.size) (o : Obj) : Below n w (W.alloc o) := h.alloc (Nat.le_trans hn h.size) o

theorem box_arg {W : World} {na : Bool} {a : Option Addr} {L c : Nat} {xs : List Nat} (h : Limbs W (.slice a L c) xs) (hl : xs.length ≤ 8) : BArg W (.agg #[.bool na, .slice a L c]) (sgn na (val R xs)) := ⟨na, _, _, rfl, ⟨xs, h, by omega, rfl⟩, rfl⟩

theorem sign_is {w : World} {v : Value} {z s : Int} (hv : BArg w v z) (h : sg z = s) :
    Calls Tryz.prog 65 #[v] w fun e w' => e = .returned (.int .i64 s) ∧ Below w.heap.size w w' := by
  subst h
  exact sign_calls hv

theorem bcmp_lt {w : World} {u v : Value} {x y : Int} (hu : BArg w u x) (hv : BArg w v y) (h : x < y) :
    Calls Tryz.prog 46 #[u, v] w fun e w' => e = .returned (.int .i64 (-1)) ∧ Below w.heap.size w w' := by
  refine (bcmp_calls hu hv).mono ?_
  rintro e w' ⟨rfl, hb⟩
  exact ⟨by rw [cmpI_lt h], hb⟩

/-- Four numbers in blocks. -/
def Quad (W : World) (b1 : Nat) (n1 : Bool) (a1 : Option Addr) (L1 c1 : Nat) (z1 : Int) (b2 : Nat) (n2 : Bool) (a2 : Option Addr) (L2 c2 : Nat) (z2 : Int) (b3 : Nat) (n3 : Bool) (a3 : Option Addr) (L3 c3 : Nat) (z3 : Int) (b4 : Nat) (n4 : Bool) (a4 : Option Addr) (L4 c4 : Nat) (z4 : Int) : Prop :=
  BoxA W b1 n1 a1 L1 c1 z1 ∧ BoxA W b2 n2 a2 L2 c2 z2 ∧ BoxA W b3 n3 a3 L3 c3 z3 ∧ BoxA W b4 n4 a4 L4 c4 z4
theorem Quad.keep {W W' : World} {b1 : Nat} {n1 : Bool} {a1 : Option Addr} {L1 c1 : Nat} {z1 : Int} {b2 : Nat} {n2 : Bool} {a2 : Option Addr} {L2 c2 : Nat} {z2 : Int} {b3 : Nat} {n3 : Bool} {a3 : Option Addr} {L3 c3 : Nat} {z3 : Int} {b4 : Nat} {n4 : Bool} {a4 : Option Addr} {L4 c4 : Nat} {z4 : Int} (h : Quad W b1 n1 a1 L1 c1 z1 b2 n2 a2 L2 c2 z2 b3 n3 a3 L3 c3 z3 b4 n4 a4 L4 c4 z4) (hb : Below W.heap.size W W') : Quad W' b1 n1 a1 L1 c1 z1 b2 n2 a2 L2 c2 z2 b3 n3 a3 L3 c3 z3 b4 n4 a4 L4 c4 z4 :=
  ⟨h.1.keep hb, h.2.1.keep hb, h.2.2.1.keep hb, h.2.2.2.keep hb⟩
theorem Quad.cells {W : World} {b1 : Nat} {n1 : Bool} {a1 : Option Addr} {L1 c1 : Nat} {z1 : Int} {b2 : Nat} {n2 : Bool} {a2 : Option Addr} {L2 c2 : Nat} {z2 : Int} {b3 : Nat} {n3 : Bool} {a3 : Option Addr} {L3 c3 : Nat} {z3 : Int} {b4 : Nat} {n4 : Bool} {a4 : Option Addr} {L4 c4 : Nat} {z4 : Int} (h : Quad W b1 n1 a1 L1 c1 z1 b2 n2 a2 L2 c2 z2 b3 n3 a3 L3 c3 z3 b4 n4 a4 L4 c4 z4) :
    W.cell? ⟨b1, 0, none⟩ = some (.bool n1) ∧ W.cell? ⟨b1, 1, none⟩ = some (.slice a1 L1 c1) ∧ W.cell? ⟨b2, 0, none⟩ = some (.bool n2) ∧ W.cell? ⟨b2, 1, none⟩ = some (.slice a2 L2 c2) ∧ W.cell? ⟨b3, 0, none⟩ = some (.bool n3) ∧ W.cell? ⟨b3, 1, none⟩ = some (.slice a3 L3 c3) ∧ W.cell? ⟨b4, 0, none⟩ = some (.bool n4) ∧ W.cell? ⟨b4, 1, none⟩ = some (.slice a4 L4 c4) :=
  ⟨h.1.c0, h.1.c1, h.2.1.c0, h.2.1.c1, h.2.2.1.c0, h.2.2.1.c1, h.2.2.2.c0, h.2.2.2.c1⟩

end Go.Proofs.YtnfplceadkelaaaGreatDoor
