/- What the laws about numbers with a sign and the reference's have in common: Norm, Min and Max; both numbers and the reference's in blocks. -/
import Derived.Test.YtnfplceadkelaaaGreatDoorBigRef2
namespace Go.Proofs.YtnfplceadkelaaaGreatDoor
set_option linter.unusedVariables false
set_option linter.unusedSimpArgs false
set_option maxRecDepth 100000
open Go Go.RowKit Go.Shelf Go.Lib

/-- A number that came in, in a block. -/
def BoxL (W : World) (b : Nat) (n : Bool) (a : Option Addr) (L c : Nat) (xs : List Nat) : Prop := Two W b (.bool n) (.slice a L c) 24 ∧ Limbs W (.slice a L c) xs ∧ xs.length ≤ 8
theorem BoxL.keep {W W' : World} {b : Nat} {n : Bool} {a : Option Addr} {L c : Nat} {xs : List Nat} (h : BoxL W b n a L c xs) (hb : Below W.heap.size W W') : BoxL W' b n a L c xs := ⟨h.1.keep hb, h.2.1.below hb, h.2.2⟩
theorem BoxL.arg {W : World} {b : Nat} {n : Bool} {a : Option Addr} {L c : Nat} {xs : List Nat} (h : BoxL W b n a L c xs) : BArg W (.agg #[.bool n, .slice a L c]) (sgn n (val R xs)) := box_arg h.2.1 h.2.2
/-- A number of the reference's, in a block. -/
def BoxN (W : World) (b : Nat) (n : Bool) (a : Option Addr) (L c : Nat) (z : Int) : Prop := Two W b (.bool n) (.slice a L c) 32 ∧ NRes W (.agg #[.bool n, .slice a L c]) z
theorem BoxN.keep {W W' : World} {b : Nat} {n : Bool} {a : Option Addr} {L c : Nat} {z : Int} (h : BoxN W b n a L c z) (hb : Below W.heap.size W W') : BoxN W' b n a L c z := ⟨h.1.keep hb, h.2.below hb⟩
theorem bl10 {z : Int} (h : z.natAbs < R ^ 8) : z.natAbs < 10 ^ 80 := Nat.lt_of_lt_of_le h (pow_R_le 8)

/-- Two numbers that came in, and two of the reference's. -/
def Four (W : World) (b1 : Nat) (n1 : Bool) (a1 : Option Addr) (L1 c1 : Nat) (l1 : List Nat) (b2 : Nat) (n2 : Bool) (a2 : Option Addr) (L2 c2 : Nat) (l2 : List Nat) (b3 : Nat) (n3 : Bool) (a3 : Option Addr) (L3 c3 : Nat) (z3 : Int) (b4 : Nat) (n4 : Bool) (a4 : Option Addr) (L4 c4 : Nat) (z4 : Int) : Prop := BoxL W b1 n1 a1 L1 c1 l1 ∧ BoxL W b2 n2 a2 L2 c2 l2 ∧ BoxN W b3 n3 a3 L3 c3 z3 ∧ BoxN W b4 n4 a4 L4 c4 z4
theorem Four.keep {W W' : World} {b1 : Nat} {n1 : Bool} {a1 : Option Addr} {L1 c1 : Nat} {l1 : List Nat} {b2 : Nat} {n2 : Bool} {a2 : Option Addr} {L2 c2 : Nat} {l2 : List Nat} {b3 : Nat} {n3 : Bool} {a3 : Option Addr} {L3 c3 : Nat} {z3 : Int} {b4 : Nat} {n4 : Bool} {a4 : Option Addr} {L4 c4 : Nat} {z4 : Int} (h : Four W b1 n1 a1 L1 c1 l1 b2 n2 a2 L2 c2 l2 b3 n3 a3 L3 c3 z3 b4 n4 a4 L4 c4 z4) (hb : Below W.heap.size W W') : Four W' b1 n1 a1 L1 c1 l1 b2 n2 a2 L2 c2 l2 b3 n3 a3 L3 c3 z3 b4 n4 a4 L4 c4 z4 := ⟨h.1.keep hb, h.2.1.keep hb, h.2.2.1.keep hb, h.2.2.2.keep hb⟩
theorem Four.drew {W : World} {b1 : Nat} {n1 : Bool} {a1 : Option Addr} {L1 c1 : Nat} {l1 : List Nat} {b2 : Nat} {n2 : Bool} {a2 : Option Addr} {L2 c2 : Nat} {l2 : List Nat} {b3 : Nat} {n3 : Bool} {a3 : Option Addr} {L3 c3 : Nat} {z3 : Int} {b4 : Nat} {n4 : Bool} {a4 : Option Addr} {L4 c4 : Nat} {z4 : Int} (h : Four W b1 n1 a1 L1 c1 l1 b2 n2 a2 L2 c2 l2 b3 n3 a3 L3 c3 z3 b4 n4 a4 L4 c4 z4) : Four W.drew b1 n1 a1 L1 c1 l1 b2 n2 a2 L2 c2 l2 b3 n3 a3 L3 c3 z3 b4 n4 a4 L4 c4 z4 := h.keep ((Below.refl _ _).drew)
theorem Four.cells {W : World} {b1 : Nat} {n1 : Bool} {a1 : Option Addr} {L1 c1 : Nat} {l1 : List Nat} {b2 : Nat} {n2 : Bool} {a2 : Option Addr} {L2 c2 : Nat} {l2 : List Nat} {b3 : Nat} {n3 : Bool} {a3 : Option Addr} {L3 c3 : Nat} {z3 : Int} {b4 : Nat} {n4 : Bool} {a4 : Option Addr} {L4 c4 : Nat} {z4 : Int} (h : Four W b1 n1 a1 L1 c1 l1 b2 n2 a2 L2 c2 l2 b3 n3 a3 L3 c3 z3 b4 n4 a4 L4 c4 z4) :
    W.cell? ⟨b1, 0, none⟩ = some (.bool n1) ∧ W.cell? ⟨b1, 1, none⟩ = some (.slice a1 L1 c1) ∧ W.cell? ⟨b2, 0, none⟩ = some (.bool n2) ∧ W.cell? ⟨b2, 1, none⟩ = some (.slice a2 L2 c2) ∧ W.cell? ⟨b3, 0, none⟩ = some (.bool n3) ∧ W.cell? ⟨b3, 1, none⟩ = some (.slice a3 L3 c3) ∧ W.cell? ⟨b4, 0, none⟩ = some (.bool n4) ∧ W.cell? ⟨b4, 1, none⟩ = some (.slice a4 L4 c4) :=
  ⟨h.1.1.c0, h.1.1.c1, h.2.1.1.c0, h.2.1.1.c1, h.2.2.1.1.c0, h.2.2.1.1.c1, h.2.2.2.1.c0, h.2.2.2.1.c1⟩

theorem fresh1 (W : World) (o : Obj) (x y : Value) (t : TypeId) : Two ((W.alloc o).alloc (.cells #[x, y] t)) (W.heap.size + 1) x y t := two_second W o x y t
theorem fresh0 (W : World) (x y : Value) (t : TypeId) : Two (W.alloc (.cells #[x, y] t)) W.heap.size x y t := Two.new W x y t
theorem Two.lt' {W : World} {b : Nat} {x y : Value} {t : TypeId} (h : Two W b x y t) : b < W.heap.size := (Array.getElem?_eq_some_iff.1 h).1
theorem Two.every {W : World} {b : Nat} {x y : Value} {t : TypeId} (h : Two W b x y t) : W.cell? ⟨b, 0, none⟩ = some x ∧ W.cell? ⟨b, 1, none⟩ = some y ∧ W.frozen? ⟨b, 0, none⟩ = false ∧ W.frozen? ⟨b, 1, none⟩ = false ∧ b < W.heap.size ∧ b < W.heap.size + 1 :=
  ⟨h.c0, h.c1, h.f0 0, h.f0 1, h.lt', Nat.lt_succ_of_lt h.lt'⟩
theorem NRes.alloc {W : World} {v : Value} {z : Int} (h : NRes W v z) (o : Obj) : NRes (W.alloc o) v z := h.below (bel W o)
theorem fresh_at {W : World} {b : Nat} (h : b = W.heap.size) (x y : Value) (t : TypeId) : Two (W.alloc (.cells #[x, y] t)) b x y t := by subst h; exact Two.new W x y t

theorem nleaf1 {W : World} {n m : Bool} {a b : Option Addr} {L c M d : Nat} {zx zy : Int} (X : NRes W (.agg #[.bool n, .slice a L c]) zx) (Y : NRes W (.agg #[.bool m, .slice b M d]) zy) : BoxN ((W.alloc (.cells #[.bool n, .slice a L c] 32)).alloc (.cells #[.bool m, .slice b M d] 32)) (W.heap.size) n a L c zx ∧ BoxN ((W.alloc (.cells #[.bool n, .slice a L c] 32)).alloc (.cells #[.bool m, .slice b M d] 32)) (W.heap.size + 1) m b M d zy ∧ W.heap.size ≠ W.heap.size + 1 :=
  ⟨⟨(Two.new _ _ _ _).alloc _, (X.alloc _).alloc _⟩, ⟨fresh1 _ _ _ _ _, (Y.alloc _).alloc _⟩, by omega⟩
theorem nleaf2 {W : World} {n m : Bool} {a b : Option Addr} {L c M d : Nat} {zx zy : Int} (X : NRes W (.agg #[.bool n, .slice a L c]) zx) (Y : NRes W (.agg #[.bool m, .slice b M d]) zy) : BoxN ((W.alloc (.cells #[.bool m, .slice b M d] 32)).alloc (.cells #[.bool n, .slice a L c] 32)) (W.heap.size + 1) n a L c zx ∧ BoxN ((W.alloc (.cells #[.bool m, .slice b M d] 32)).alloc (.cells #[.bool n, .slice a L c] 32)) (W.heap.size) m b M d zy ∧ W.heap.size + 1 ≠ W.heap.size :=
  ⟨⟨fresh1 _ _ _ _ _, (X.alloc _).alloc _⟩, ⟨(Two.new _ _ _ _).alloc _, (Y.alloc _).alloc _⟩, by omega⟩
theorem nleaf3 {W : World} {n m : Bool} {a b : Option Addr} {L c M d : Nat} {zx zy : Int} (X : NRes W (.agg #[.bool n, .slice a L c]) zx) (Y : NRes W (.agg #[.bool m, .slice b M d]) zy) {g : Nat} (T : Two W g (.bool false) (.slice none 0 0) 32) : BoxN (((W.setCell ⟨g, 0, none⟩ (.bool n)).setCell ⟨g, 1, none⟩ (.slice a L c)).alloc (.cells #[.bool m, .slice b M d] 32)) (g) n a L c zx ∧ BoxN (((W.setCell ⟨g, 0, none⟩ (.bool n)).setCell ⟨g, 1, none⟩ (.slice a L c)).alloc (.cells #[.bool m, .slice b M d] 32)) (W.heap.size) m b M d zy ∧ g ≠ W.heap.size :=
  ⟨⟨(T.put _ _).alloc _, (X.put T _ _).alloc _⟩, ⟨fresh_at (by simp only [World.size_setCell]) _ _ _, (Y.put T _ _).alloc _⟩, by have := T.lt'; omega⟩
theorem nleaf4 {W : World} {n m : Bool} {a b : Option Addr} {L c M d : Nat} {zx zy : Int} (X : NRes W (.agg #[.bool n, .slice a L c]) zx) (Y : NRes W (.agg #[.bool m, .slice b M d]) zy) {g : Nat} (T : Two W g (.bool false) (.slice none 0 0) 32) : BoxN (((W.setCell ⟨g, 0, none⟩ (.bool m)).setCell ⟨g, 1, none⟩ (.slice b M d)).alloc (.cells #[.bool n, .slice a L c] 32)) (W.heap.size) n a L c zx ∧ BoxN (((W.setCell ⟨g, 0, none⟩ (.bool m)).setCell ⟨g, 1, none⟩ (.slice b M d)).alloc (.cells #[.bool n, .slice a L c] 32)) (g) m b M d zy ∧ W.heap.size ≠ g :=
  ⟨⟨fresh_at (by simp only [World.size_setCell]) _ _ _, (X.put T _ _).alloc _⟩, ⟨(T.put _ _).alloc _, (Y.put T _ _).alloc _⟩, by have := T.lt'; omega⟩
theorem nleaf5 {W : World} {n m : Bool} {a b : Option Addr} {L c M d : Nat} {zx zy : Int} (X : NRes W (.agg #[.bool n, .slice a L c]) zx) (Y : NRes W (.agg #[.bool m, .slice b M d]) zy) {g h : Nat} (T : Two W g (.bool false) (.slice none 0 0) 32) (U : Two W h (.bool false) (.slice none 0 0) 32) (hne : g ≠ h) : BoxN ((((W.setCell ⟨g, 0, none⟩ (.bool n)).setCell ⟨g, 1, none⟩ (.slice a L c)).setCell ⟨h, 0, none⟩ (.bool m)).setCell ⟨h, 1, none⟩ (.slice b M d)) (g) n a L c zx ∧ BoxN ((((W.setCell ⟨g, 0, none⟩ (.bool n)).setCell ⟨g, 1, none⟩ (.slice a L c)).setCell ⟨h, 0, none⟩ (.bool m)).setCell ⟨h, 1, none⟩ (.slice b M d)) (h) m b M d zy ∧ g ≠ h :=
  ⟨⟨(T.put _ _).other hne _ _, (X.put T _ _).put (U.other (Ne.symm hne) _ _) _ _⟩, ⟨(U.other (Ne.symm hne) _ _).put _ _, (Y.put T _ _).put (U.other (Ne.symm hne) _ _) _ _⟩, hne⟩
theorem nleaf_meet {w W : World} {k b5 b6 bA bB : Nat} {n5 n6 nA nB : Bool} {a5 a6 aA aB : Option Addr} {L5 k5 L6 k6 LA cA LB cB : Nat} {x y : Int} {xs ys : List Nat} (h : BoxN W b5 n5 a5 L5 k5 x ∧ BoxN W b6 n6 a6 L6 k6 y ∧ b5 ≠ b6) (ha : BoxL W bA nA aA LA cA xs) (hb : BoxL W bB nB aB LB cB ys) (hk : Below k w W) :
    ∃ b5' n5 a5 L5 k5 b6' n6 a6 L6 k6, Value.pointer (some ⟨b5, 0, none⟩) = .pointer (some ⟨b5', 0, none⟩) ∧ Value.pointer (some ⟨b6, 0, none⟩) = .pointer (some ⟨b6', 0, none⟩) ∧ b5' ≠ b6' ∧ Four W bA nA aA LA cA xs bB nB aB LB cB ys b5' n5 a5 L5 k5 x b6' n6 a6 L6 k6 y ∧ Below k w W :=
  ⟨_, _, _, _, _, _, _, _, _, _, rfl, rfl, h.2.2, ⟨ha, hb, h.1, h.2.1⟩, hk⟩
theorem held_ab {W W' : World} {b0 b1 : Nat} {n0 n1 : Bool} {a0 a1 : Option Addr} {L0 L1 c0 c1 : Nat} {z0 z1 : List Nat} (A : BoxL W b0 n0 a0 L0 c0 z0) (B : BoxL W b1 n1 a1 L1 c1 z1) (h : Below W.heap.size W W') :
    W'.cell? ⟨b0, 0, none⟩ = some (.bool n0) ∧ W'.cell? ⟨b0, 1, none⟩ = some (.slice a0 L0 c0) ∧ W'.cell? ⟨b1, 0, none⟩ = some (.bool n1) ∧ W'.cell? ⟨b1, 1, none⟩ = some (.slice a1 L1 c1) ∧ Below W.heap.size W W' :=
  ⟨(A.keep h).1.c0, (A.keep h).1.c1, (B.keep h).1.c0, (B.keep h).1.c1, h⟩

set_option maxHeartbeats 2000000 in
theorem bnorm_calls {w : World} {u : Value} {x : Int} (hu : BArg w u x) :
    Calls Tryz.prog 52 #[u] w fun e w' => ∃ rv, e = .returned rv ∧ BRes w' rv x ∧ Below w.heap.size w w' := by
  obtain ⟨na, mu, m, rfl, hm, rfl⟩ := hu
  obtain ⟨a, L, c, rfl⟩ := hm.shape
  obtain ⟨t0, t1, hb⟩ := boxes2 w (.bool na) (.slice a L c) (.bool false) (.slice none 0 0) 24
  have T0 := hide t0.drew
  have T2 := hide t1.drew
  have HB := hide hb.drew
  have Hm := hide (hm.below hb.drew)
  clear hm t0 t1 hb
  have ne1 : ¬ w.heap.size + 1 = w.heap.size := by omega
  have ne2 : ¬ w.heap.size = w.heap.size + 1 := by omega
  go_enter Tryz.func52, Tryz.ntmps52
  go_wp2
  go_region_held3 (fun w' => w'.cell? ⟨w.heap.size, 0, none⟩ = some (.bool na) ∧ w'.cell? ⟨w.heap.size, 1, none⟩ = some (.slice a L c)) (go_keep)
    (first
      | (go_at_call 88; refine (norm_big Hm.out).mono ?_; rintro e w1 ⟨r1, rfl, q1, hb1⟩; have c0 := (T0.out.keep hb1).c0; have c1 := (T0.out.keep hb1).c1)
      | (go_at_call 83; refine (signed_calls q1).mono ?_; rintro e w2 ⟨r2, rfl, q2, hb2⟩; obtain ⟨b2, a2, L2, k2, rfl⟩ := q2.form; have c0' := ((T0.out.keep hb1).keep hb2).c0; have c1' := ((T0.out.keep hb1).keep hb2).c1; have d0 := ((T2.out.keep hb1).keep hb2).c0; have d1 := ((T2.out.keep hb1).keep hb2).c1; have f0 := ((T2.out.keep hb1).keep hb2).f0 0; have f1 := ((T2.out.keep hb1).keep hb2).f0 1))
  have TZ := (T2.out.keep hb1).keep hb2
  have KZ := bafter (bafter HB.out hb1 (Nat.le_refl _)) hb2 (Nat.le_refl _)
  go_wp2
  refine bodyPost_ret (results_big rfl rfl (TZ.put _ _)) rfl ?_
  exact ⟨_, rfl, q2.put TZ _ _, below_put KZ (by omega) _ _⟩

end Go.Proofs.YtnfplceadkelaaaGreatDoor
