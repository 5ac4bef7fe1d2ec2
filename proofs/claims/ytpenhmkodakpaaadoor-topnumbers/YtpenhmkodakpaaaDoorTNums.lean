/- The law TopNumbers: the walk. -/
import Derived.Test.YtpenhmkodakpaaaDoorBigLaw0
import Derived.Test.YtpenhmkodakpaaaDoorBigFloor
import Derived.Test.YtpenhmkodakpaaaDoorNumBack
import Derived.Deep.RegionWith
import Derived.Deep.DeepMust
namespace Go.Proofs.YtpenhmkodakpaaaDoor
set_option linter.unusedVariables false
set_option linter.unusedSimpArgs false
set_option maxRecDepth 100000
open Go Go.RowKit Go.Shelf Go.Lib

/-- A number whose two cells lie somewhere. -/
def BoxC (W : World) (b : Nat) (n : Bool) (a : Option Addr) (L c : Nat) (z : Int) : Prop := W.cell? ⟨b, 0, none⟩ = some (.bool n) ∧ W.cell? ⟨b, 1, none⟩ = some (.slice a L c) ∧ b < W.heap.size ∧ BArg W (.agg #[.bool n, .slice a L c]) z
theorem BoxC.keep {W W' : World} {b : Nat} {n : Bool} {a : Option Addr} {L c : Nat} {z : Int} (h : BoxC W b n a L c z) (hb : Below W.heap.size W W') : BoxC W' b n a L c z :=
  ⟨(hb.cell (p := ⟨b, 0, none⟩) h.2.2.1).trans h.1, (hb.cell (p := ⟨b, 1, none⟩) h.2.2.1).trans h.2.1, Nat.lt_of_lt_of_le h.2.2.1 hb.size, h.2.2.2.below hb⟩
theorem BoxC.drew {W : World} {b : Nat} {n : Bool} {a : Option Addr} {L c : Nat} {z : Int} (h : BoxC W b n a L c z) : BoxC W.drew b n a L c z := h.keep ((Below.refl _ _).drew)
theorem BoxA.boxC {W : World} {b : Nat} {n : Bool} {a : Option Addr} {L c : Nat} {z : Int} (h : BoxA W b n a L c z) : BoxC W b n a L c z := ⟨h.c0, h.c1, h.lt, h.arg⟩
theorem two_new (W : World) (x y : Value) (t : TypeId) : Two (W.alloc (.cells #[x, y] t)) W.heap.size x y t := Two.new W x y t
theorem Two.lt {W : World} {b : Nat} {x y : Value} {t : TypeId} (h : Two W b x y t) : b < W.heap.size := (Array.getElem?_eq_some_iff.1 h).1
theorem Two.all {W : World} {b : Nat} {x y : Value} {t : TypeId} (h : Two W b x y t) : W.cell? ⟨b, 0, none⟩ = some x ∧ W.cell? ⟨b, 1, none⟩ = some y ∧ W.frozen? ⟨b, 0, none⟩ = false ∧ W.frozen? ⟨b, 1, none⟩ = false ∧ b < W.heap.size ∧ b < W.heap.size + 1 :=
  ⟨h.c0, h.c1, h.f0 0, h.f0 1, h.lt, Nat.lt_succ_of_lt h.lt⟩
theorem BArg.put {W : World} {b : Nat} {bx : Bool} {ay : Option Addr} {Ly cy : Nat} {t : TypeId} {v : Value} {z : Int} (h : BArg W v z) (T : Two W b (.bool bx) (.slice ay Ly cy) t) (p q : Value) :
    BArg ((W.setCell ⟨b, 0, none⟩ p).setCell ⟨b, 1, none⟩ q) v z := by
  obtain ⟨neg, mv, n, h1, h2, h3⟩ := h
  exact ⟨neg, mv, n, h1, h2.put T p q, h3⟩
theorem BArg.alloc {W : World} {v : Value} {z : Int} (h : BArg W v z) (o : Obj) : BArg (W.alloc o) v z := h.below (bel W o)
theorem boxC_of {W : World} {b : Nat} {n : Bool} {a : Option Addr} {L c : Nat} {z : Int} {t : TypeId} (T : Two W b (.bool n) (.slice a L c) t) (h : BArg W (.agg #[.bool n, .slice a L c]) z) : BoxC W b n a L c z := ⟨T.c0, T.c1, T.lt, h⟩
theorem BoxC.arg {W : World} {b : Nat} {n : Bool} {a : Option Addr} {L c : Nat} {z : Int} (h : BoxC W b n a L c z) : BArg W (.agg #[.bool n, .slice a L c]) z := h.2.2.2
theorem BoxC.facts {W : World} {b : Nat} {n : Bool} {a : Option Addr} {L c : Nat} {z : Int} (h : BoxC W b n a L c z) : W.cell? ⟨b, 0, none⟩ = some (.bool n) ∧ W.cell? ⟨b, 1, none⟩ = some (.slice a L c) ∧ b < W.heap.size ∧ b < W.heap.size + 1 := ⟨h.1, h.2.1, h.2.2.1, Nat.lt_succ_of_lt h.2.2.1⟩

theorem tip1 {W : World} {n : Bool} {a : Option Addr} {L c : Nat} {z : Int} (X : BArg W (.agg #[.bool n, .slice a L c]) z) : BoxC (W.alloc (.cells #[.bool n, .slice a L c] 24)) W.heap.size n a L c z :=
  boxC_of (Two.new _ _ _ _) (X.alloc _)
theorem tip2 {W : World} {n : Bool} {a : Option Addr} {L c : Nat} {z : Int} (X : BArg W (.agg #[.bool n, .slice a L c]) z) {g : Nat} (T : Two W g (.bool false) (.slice none 0 0) 24) : BoxC ((W.setCell ⟨g, 0, none⟩ (.bool n)).setCell ⟨g, 1, none⟩ (.slice a L c)) g n a L c z :=
  boxC_of (T.put _ _) (X.put T _ _)
theorem tip_meet {w W : World} {k b9 ba bb bc : Nat} {n9 na nb nc : Bool} {a9 aa ab ac : Option Addr} {L9 k9 La ca Lb cb Lc cc : Nat} {zs x y z : Int} (h : BoxC W b9 n9 a9 L9 k9 zs) (ha : BoxC W ba na aa La ca x) (hb : BoxC W bb nb ab Lb cb y) (hc : BoxC W bc nc ac Lc cc z) (hk : Below k w W) :
    ∃ b9' n9 a9 L9 k9, Value.pointer (some ⟨b9, 0, none⟩) = .pointer (some ⟨b9', 0, none⟩) ∧ BoxC W b9' n9 a9 L9 k9 zs ∧ BoxC W ba na aa La ca x ∧ BoxC W bb nb ab Lb cb y ∧ BoxC W bc nc ac Lc cc z ∧ Below k w W :=
  ⟨_, _, _, _, _, rfl, h, ha, hb, hc, hk⟩

theorem held_abc {W W' : World} {b0 b1 b2 : Nat} {n0 n1 n2 : Bool} {a0 a1 a2 : Option Addr} {L0 L1 L2 c0 c1 c2 : Nat} {z0 z1 z2 : Int} (A : BoxA W b0 n0 a0 L0 c0 z0) (B : BoxA W b1 n1 a1 L1 c1 z1) (C : BoxA W b2 n2 a2 L2 c2 z2) (h : Below W.heap.size W W') :
    W'.cell? ⟨b0, 0, none⟩ = some (.bool n0) ∧ W'.cell? ⟨b0, 1, none⟩ = some (.slice a0 L0 c0) ∧ W'.cell? ⟨b1, 0, none⟩ = some (.bool n1) ∧ W'.cell? ⟨b1, 1, none⟩ = some (.slice a1 L1 c1) ∧ W'.cell? ⟨b2, 0, none⟩ = some (.bool n2) ∧ W'.cell? ⟨b2, 1, none⟩ = some (.slice a2 L2 c2) ∧ Below W.heap.size W W' :=
  ⟨(A.keep h).c0, (A.keep h).c1, (B.keep h).c0, (B.keep h).c1, (C.keep h).c0, (C.keep h).c1, h⟩

theorem BArg.mag {W : World} {n : Bool} {mv : Value} {z : Int} (h : BArg W (.agg #[.bool n, mv]) z) : Arg W mv z.natAbs := by
  obtain ⟨neg, mu, m, e, hm, rfl⟩ := h
  injection e with e
  simp only [Array.mk.injEq, List.cons.injEq, Value.bool.injEq, and_true] at e
  obtain ⟨rfl, rfl⟩ := e
  have e2 : (sgn n m).natAbs = m := by unfold sgn; cases n <;> simp
  rw [e2]
  exact hm

theorem neg64 : decide (sgn true 18446744073709551616 < 0) = true := by decide
theorem abs64 : (sgn true 18446744073709551616).natAbs = 18446744073709551616 := by decide
theorem lt64 : 18446744073709551616 < R ^ 3 := by decide
theorem str64 : ((⟨[49, 56, 52, 52, 54, 55, 52, 52, 48, 55, 51, 55, 48, 57, 53, 53, 49, 54, 49, 54].toArray⟩ : ByteArray) != ⟨#[49, 56, 52, 52, 54, 55, 52, 52, 48, 55, 51, 55, 48, 57, 53, 53, 49, 54, 49, 54]⟩) = false := by decide
theorem big_mod (x y z : Int) : (x * y + z) % y = z % y := by rw [Int.add_comm, Int.add_mul_emod_self_right]
theorem big_div (x y z : Int) (h : y ≠ 0) : (x * y + z) / y = x + z / y := by rw [Int.add_comm, Int.add_mul_ediv_right _ _ h, Int.add_comm]
theorem big_sub (x y z : Int) : x * y + z - z = y * x := by rw [Int.mul_comm y x]; omega

/-- Five numbers whose cells lie somewhere. -/
def F5 (W : World) (b1 : Nat) (n1 : Bool) (a1 : Option Addr) (L1 c1 : Nat) (z1 : Int) (b2 : Nat) (n2 : Bool) (a2 : Option Addr) (L2 c2 : Nat) (z2 : Int) (b3 : Nat) (n3 : Bool) (a3 : Option Addr) (L3 c3 : Nat) (z3 : Int) (b4 : Nat) (n4 : Bool) (a4 : Option Addr) (L4 c4 : Nat) (z4 : Int) (b5 : Nat) (n5 : Bool) (a5 : Option Addr) (L5 c5 : Nat) (z5 : Int) : Prop :=
  BoxC W b1 n1 a1 L1 c1 z1 ∧ BoxC W b2 n2 a2 L2 c2 z2 ∧ BoxC W b3 n3 a3 L3 c3 z3 ∧ BoxC W b4 n4 a4 L4 c4 z4 ∧ BoxC W b5 n5 a5 L5 c5 z5
theorem F5.keep {W W' : World} {b1 : Nat} {n1 : Bool} {a1 : Option Addr} {L1 c1 : Nat} {z1 : Int} {b2 : Nat} {n2 : Bool} {a2 : Option Addr} {L2 c2 : Nat} {z2 : Int} {b3 : Nat} {n3 : Bool} {a3 : Option Addr} {L3 c3 : Nat} {z3 : Int} {b4 : Nat} {n4 : Bool} {a4 : Option Addr} {L4 c4 : Nat} {z4 : Int} {b5 : Nat} {n5 : Bool} {a5 : Option Addr} {L5 c5 : Nat} {z5 : Int} (h : F5 W b1 n1 a1 L1 c1 z1 b2 n2 a2 L2 c2 z2 b3 n3 a3 L3 c3 z3 b4 n4 a4 L4 c4 z4 b5 n5 a5 L5 c5 z5) (hb : Below W.heap.size W W') : F5 W' b1 n1 a1 L1 c1 z1 b2 n2 a2 L2 c2 z2 b3 n3 a3 L3 c3 z3 b4 n4 a4 L4 c4 z4 b5 n5 a5 L5 c5 z5 :=
  ⟨h.1.keep hb, h.2.1.keep hb, h.2.2.1.keep hb, h.2.2.2.1.keep hb, h.2.2.2.2.keep hb⟩
theorem F5.cells {W : World} {b1 : Nat} {n1 : Bool} {a1 : Option Addr} {L1 c1 : Nat} {z1 : Int} {b2 : Nat} {n2 : Bool} {a2 : Option Addr} {L2 c2 : Nat} {z2 : Int} {b3 : Nat} {n3 : Bool} {a3 : Option Addr} {L3 c3 : Nat} {z3 : Int} {b4 : Nat} {n4 : Bool} {a4 : Option Addr} {L4 c4 : Nat} {z4 : Int} {b5 : Nat} {n5 : Bool} {a5 : Option Addr} {L5 c5 : Nat} {z5 : Int} (h : F5 W b1 n1 a1 L1 c1 z1 b2 n2 a2 L2 c2 z2 b3 n3 a3 L3 c3 z3 b4 n4 a4 L4 c4 z4 b5 n5 a5 L5 c5 z5) :
    W.cell? ⟨b1, 0, none⟩ = some (.bool n1) ∧ W.cell? ⟨b1, 1, none⟩ = some (.slice a1 L1 c1) ∧ W.cell? ⟨b2, 0, none⟩ = some (.bool n2) ∧ W.cell? ⟨b2, 1, none⟩ = some (.slice a2 L2 c2) ∧ W.cell? ⟨b3, 0, none⟩ = some (.bool n3) ∧ W.cell? ⟨b3, 1, none⟩ = some (.slice a3 L3 c3) ∧ W.cell? ⟨b4, 0, none⟩ = some (.bool n4) ∧ W.cell? ⟨b4, 1, none⟩ = some (.slice a4 L4 c4) ∧ W.cell? ⟨b5, 0, none⟩ = some (.bool n5) ∧ W.cell? ⟨b5, 1, none⟩ = some (.slice a5 L5 c5) :=
  ⟨h.1.1, h.1.2.1, h.2.1.1, h.2.1.2.1, h.2.2.1.1, h.2.2.1.2.1, h.2.2.2.1.1, h.2.2.2.1.2.1, h.2.2.2.2.1, h.2.2.2.2.2.1⟩

theorem rem_lt {x y : Int} {k : Nat} (h0 : y ≠ 0) (h : y.natAbs < R ^ k) : (x % y).natAbs < R ^ k := by
  refine Nat.lt_trans ?_ h
  have h1 := Int.emod_nonneg x h0
  have h2 := Int.emod_lt x h0
  omega

set_option maxHeartbeats 8000000 in
theorem tnums_calls (w : World) (na nb nc : Bool) (sa sb sc : Value) (xs ys zs : List Nat) (ha0 : Limbs w sa xs) (hb0 : Limbs w sb ys) (hc0 : Limbs w sc zs) (htab : TabIs Tryd.prog w "internal/strconv.uint64pow10" .u64 pow10Tab) :
    Calls Tryd.prog 3 #[.agg #[.bool na, sa], .agg #[.bool nb, sb], .agg #[.bool nc, sc]] w fun e w' => e = .returned (.bool true) ∧ Below w.heap.size w w' := by
  obtain ⟨aa, ca, rfl⟩ := ha0.len
  obtain ⟨ab, cb, rfl⟩ := hb0.len
  obtain ⟨ac, cc, rfl⟩ := hc0.len
  obtain ⟨t0, t1, t2, hb⟩ := boxes w (.bool na) (.slice aa xs.length ca) (.bool nb) (.slice ab ys.length cb) (.bool nc) (.slice ac zs.length cc) 24
  have G : Hid (Tri _ w.heap.size (w.heap.size + 1) (w.heap.size + 1 + 1) (.bool na) (.slice aa xs.length ca) (.bool nb) (.slice ab ys.length cb) (.bool nc) (.slice ac zs.length cc)) := ⟨t0, t1, t2⟩
  have K := hide hb
  have A := hide (ha0.below hb)
  have B := hide (hb0.below hb)
  have C := hide (hc0.below hb)
  have Ht := hide htab
  clear t0 t1 t2 hb ha0 hb0 hc0 htab
  generalize hLa : xs.length = La at *
  generalize hLb : ys.length = Lb at *
  generalize hLc : zs.length = Lc at *
  have HLa := hide hLa
  have HLb := hide hLb
  have HLc := hide hLc
  clear hLa hLb hLc
  go_enter Tryd.func3, Tryd.ntmps3
  go_wp2_with fail
  refine (bparse_reads reads64 _ (by decide)).mono ?_
  rintro e w1 ⟨v1, rfl, q1, k1⟩
  obtain ⟨m1, rfl, p1⟩ := q1
  rw [abs64] at p1
  rw [neg64]
  obtain ⟨a1, L1, c1, rfl, _⟩ := p1.shape
  obtain rfl : L1 = 3 := res64 p1
  have o := bel w1 (.cells #[.bool true, .slice a1 3 c1] 24)
  have G1 := hide ((G.out.keep k1).keep o)
  have K1 := hide (bafter (bafter K.out k1 (Nat.le_refl _)) o (Nat.le_refl _))
  have A1 := hide ((A.out.below k1).below o)
  have B1 := hide ((B.out.below k1).below o)
  have C1 := hide ((C.out.below k1).below o)
  have P1 := hide ((p1.below o).arg lt64 (by decide))
  clear G K A B C k1 o p1
  go_wp2_with fail
  refine (text_res P1.out (tab_keep Ht.out K1.out)).mono ?_
  rintro e w2 ⟨rfl, k2⟩
  rw [text64]
  have hstr := str64
  have G2 := hide (G1.out.keep k2)
  have K0 := hide (bafter K1.out k2 (Nat.le_refl _))
  have A2 := hide (A1.out.below k2)
  have B2 := hide (B1.out.below k2)
  have C2 := hide (C1.out.below k2)
  obtain ⟨c0, c1', c2, c3, c4, c5⟩ := G2.out.cells
  clear G1 K1 A1 B1 C1 P1 k2
  by_cases ha : (La : Int) > 8
  · go_wp2
    go_ret
    exact ⟨rfl, K0.out⟩
  have ha' : decide ((La : Int) > 8) = false := decide_eq_false ha
  by_cases hb : (Lb : Int) > 8
  · go_wp2
    go_ret
    exact ⟨rfl, K0.out⟩
  have hb' : decide ((Lb : Int) > 8) = false := decide_eq_false hb
  by_cases hc : (Lc : Int) > 8
  · go_wp2
    go_ret
    exact ⟨rfl, K0.out⟩
  have hc' : decide ((Lc : Int) > 8) = false := decide_eq_false hc
  have HA := hide (bl_limbs (na := na) A2.out.small (by rw [HLa.out]; omega))
  have HB := hide (bl_limbs (na := nb) B2.out.small (by rw [HLb.out]; omega))
  have HC := hide (bl_limbs (na := nc) C2.out.small (by rw [HLc.out]; omega))
  have A0 : Hid (BoxA w2 w.heap.size na aa La ca (sgn na (val R xs))) := ⟨G2.out.1, box_arg A2.out (by rw [HLa.out]; omega)⟩
  have B0 : Hid (BoxA w2 (w.heap.size + 1) nb ab Lb cb (sgn nb (val R ys))) := ⟨G2.out.2.1, box_arg B2.out (by rw [HLb.out]; omega)⟩
  have C0 : Hid (BoxA w2 (w.heap.size + 1 + 1) nc ac Lc cc (sgn nc (val R zs))) := ⟨G2.out.2.2, box_arg C2.out (by rw [HLc.out]; omega)⟩
  generalize sgn na (val R xs) = x at *
  generalize sgn nb (val R ys) = y at *
  generalize sgn nc (val R zs) = z at *
  clear A2 B2 C2 G2
  have HS : Hid ((x * y + z).natAbs < R ^ 17) := bl_add (bl_mul HA.out HB.out) (lt_up HC.out (by decide))
  go_upto_region 6 with fail
  go_cut [9] from 58 to 146 (fun s9 wx => ∃ b9 n9 a9 L9 k9, s9 = .pointer (some ⟨b9, 0, none⟩) ∧ BoxC wx b9 n9 a9 L9 k9 (x * y + z) ∧ BoxC wx w.heap.size na aa La ca x ∧ BoxC wx (w.heap.size + 1) nb ab Lb cb y ∧ BoxC wx (w.heap.size + 1 + 1) nc ac Lc cc z ∧ Below w.heap.size w wx)
  case first =>
    go_region_held3 (fun w' => w'.cell? ⟨w.heap.size, 0, none⟩ = some (.bool na) ∧ w'.cell? ⟨w.heap.size, 1, none⟩ = some (.slice aa La ca) ∧ w'.cell? ⟨w.heap.size + 1, 0, none⟩ = some (.bool nb) ∧ w'.cell? ⟨w.heap.size + 1, 1, none⟩ = some (.slice ab Lb cb) ∧ w'.cell? ⟨w.heap.size + 1 + 1, 0, none⟩ = some (.bool nc) ∧ w'.cell? ⟨w.heap.size + 1 + 1, 1, none⟩ = some (.slice ac Lc cc) ∧ Below w2.heap.size w2 w')
      (first | (refine held_abc A0.out B0.out C0.out ?_; go_grown; done) | (trace_state; fail))
      (first
        | (go_at_call 11; have g := X1; clear g; have hB : Below w2.heap.size w2 _ := And.right (And.right (And.right (And.right (And.right (And.right (by with_reducible assumption)))))); refine (badd_calls (X1.out.below (by go_grown)) (C0.out.arg.below hB)).mono ?_; rintro e x2 ⟨y2, rfl, q2, f2⟩; obtain ⟨b2, a2, L2, k2, rfl⟩ := q2.form; have X2 := hide (q2.arg HS.out (by decide)); have N2 : Below w2.heap.size w2 x2 := bafter hB f2 (Nat.le_refl _); have z2 := N2.size; have G3 : Below x1.heap.size x1 x2 := bthn (by go_grown) f2; have z3 := G3.size; (try (have T2a : Two x2 w2.heap.size (.bool false) (.slice none 0 0) 24 := Two.keep T1a G3; obtain ⟨T2ac0, T2ac1, T2af0, T2af1, T2al0, T2al1⟩ := T2a.all)); (try (have T2c : Two x2 x1.heap.size (.bool false) (.slice none 0 0) 24 := Two.keep (two_new x1 _ _ _) f2; obtain ⟨T2cc0, T2cc1, T2cf0, T2cf1, T2cl0, T2cl1⟩ := T2c.all)); clear hB f2 q2)
        | (go_at_call 12; have hB : Below w2.heap.size w2 _ := And.right (And.right (And.right (And.right (And.right (And.right (by with_reducible assumption)))))); refine (bmul_calls (A0.out.arg.below hB) (B0.out.arg.below hB)).mono ?_; rintro e x1 ⟨y1, rfl, q1, f1⟩; obtain ⟨b1, a1', L1, k1, rfl⟩ := q1.form; have X1 := hide (q1.arg (bl_mul HA.out HB.out) (by decide)); have N1 : Below w2.heap.size w2 x1 := bafter hB f1 (Nat.le_refl _); have z1 := N1.size; (try (have T1a : Two x1 w2.heap.size (.bool false) (.slice none 0 0) 24 := Two.keep (two_new w2 _ _ _).drew f1; obtain ⟨T1ac0, T1ac1, T1af0, T1af1, T1al0, T1al1⟩ := T1a.all)); clear hB f1 q1))
    all_goals
      go_wp2_with fail
      go_meet
      have X2' := X2.out
      refine tip_meet (n9 := b2) (a9 := a2) (L9 := L2) (k9 := k2) ?_ (A0.out.boxC.keep ?_) (B0.out.boxC.keep ?_) (C0.out.boxC.keep ?_) (bafter K0.out ?_ (Nat.le_refl _))
      · first
          | (with_reducible exact tip1 X2')
          | (with_reducible exact tip2 X2' T2a)
          | (with_reducible exact tip2 X2' T2c)
      · go_grown
      · go_grown
      · go_grown
      · go_grown
  case rest =>
    obtain ⟨b9, n9, a9, L9, k9, rfl, p9, pa, pb, pc, hB⟩ := hcut
    have P9 := hide p9
    have PA := hide pa
    have PB := hide pb
    have PC := hide pc
    have KB := hide hB
    obtain ⟨u0, u1, u2, u3⟩ := p9.facts
    clear p9 pa pb pc hB A0 B0 C0 K0 c0 c1' c2 c3 c4 c5
    go_wp2_with fail
    refine (btext_calls P9.out.arg (tab_keep Ht.out KB.out)).mono ?_
    rintro e w3 ⟨rfl, j3⟩
    clear u0 u1 u2 u3
    go_wp2_with fail
    refine (bparse_text HS.out (by decide) (by decide) _).mono ?_
    rintro e w4 ⟨r4, rfl, q4, j4⟩
    obtain ⟨n4, a4, L4, k4, rfl⟩ := q4.form
    have J4 := bthn j3 j4
    have o := bel w4 (.cells #[.bool n4, .slice a4 L4 k4] 24)
    have J5 := bthn J4 o
    have Y5 := hide (BoxA.new (q4.arg HS.out (by decide))).boxC
    have S4 := P9.out.keep J4
    obtain ⟨u0, u1, u2, u3⟩ := S4.facts
    have S5 := hide (S4.keep o)
    have A5 := hide (PA.out.keep J5)
    have B5 := hide (PB.out.keep J5)
    have C5 := hide (PC.out.keep J5)
    have K5 := hide (bafter KB.out J5 (Nat.le_refl _))
    clear S4 J4 J5 o j3 j4 q4 P9 PA PB PC KB
    go_wp2_with fail
    refine (text_res S5.out.arg.mag (tab_keep Ht.out K5.out)).mono ?_
    rintro e w6 ⟨rfl, j6⟩
    clear u0 u1 u2 u3
    go_wp2_with fail
    refine (parse_text HS.out (by decide) (by decide) _).mono ?_
    rintro e w7 ⟨r7, rfl, q7, j7⟩
    have J7 := bthn j6 j7
    have M0 := hide ((q7.arg HS.out (by decide)).below ((Below.refl _ w7).drew))
    have X0 : Hid (F5 w7.drew _ _ _ _ _ _ _ _ _ _ _ _ _ _ _ _ _ _ _ _ _ _ _ _ _ _ _ _ _ _) := ⟨(Y5.out.keep J7).drew, (S5.out.keep J7).drew, (A5.out.keep J7).drew, (B5.out.keep J7).drew, (C5.out.keep J7).drew⟩
    have Kx0 := hide (bafter K5.out J7 (Nat.le_refl _)).drew
    have Esub := hide (big_sub x y z)
    clear Y5 S5 A5 B5 C5 K5 J7 j6 j7 q7
    go_wp2
    go_region_held3 (fun w' => w'.cell? ⟨w4.heap.size, 0, none⟩ = some (.bool n4) ∧ w'.cell? ⟨w4.heap.size, 1, none⟩ = some (.slice a4 L4 k4) ∧ w'.cell? ⟨b9, 0, none⟩ = some (.bool n9) ∧ w'.cell? ⟨b9, 1, none⟩ = some (.slice a9 L9 k9) ∧ w'.cell? ⟨w.heap.size, 0, none⟩ = some (.bool na) ∧ w'.cell? ⟨w.heap.size, 1, none⟩ = some (.slice aa La ca) ∧ w'.cell? ⟨w.heap.size + 1, 0, none⟩ = some (.bool nb) ∧ w'.cell? ⟨w.heap.size + 1, 1, none⟩ = some (.slice ab Lb cb) ∧ w'.cell? ⟨w.heap.size + 1 + 1, 0, none⟩ = some (.bool nc) ∧ w'.cell? ⟨w.heap.size + 1 + 1, 1, none⟩ = some (.slice ac Lc cc))
      (first | exact X5.out.cells | exact X4.out.cells | exact X3.out.cells | exact X2.out.cells | exact X1.out.cells | exact X0.out.cells)
      (first
        | (go_at_call 15; have g := X4; clear g; refine (bcmp_same d4.out m4.out Esub.out).mono ?_; rintro e y5 ⟨rfl, g5⟩; have X5 := hide (X4.out.keep g5); have Kx5 := hide (bafter Kx4.out g5 (Nat.le_refl _)))
        | (go_at_call 12; have g := X3; clear g; refine (bmul_calls X3.out.2.2.2.1.arg X3.out.2.2.1.arg).mono ?_; rintro e y4 ⟨v4, rfl, q4, g4⟩; have X4 := hide (X3.out.keep g4); have Kx4 := hide (bafter Kx3.out g4 (Nat.le_refl _)); have m4 := hide (q4.arg (bl_mul HB.out HA.out) (by decide)); have d4 := hide (d3.out.below g4))
        | (go_at_call 17; have g := X2; clear g; refine (bsub_calls X2.out.1.arg X2.out.2.2.2.2.arg).mono ?_; rintro e y3 ⟨v3, rfl, q3, g3⟩; have X3 := hide (X2.out.keep g3); have Kx3 := hide (bafter Kx2.out g3 (Nat.le_refl _)); have d3 := hide (q3.arg (bl_sub HS.out (lt_up HC.out (by decide))) (by decide)))
        | (go_at_call 16; have g := X1; clear g; refine (cmp_same M1.out X1.out.2.1.arg.mag rfl).mono ?_; rintro e y2 ⟨rfl, g2⟩; have X2 := hide (X1.out.keep g2); have Kx2 := hide (bafter Kx1.out g2 (Nat.le_refl _)))
        | (go_at_call 15; have g := X0; clear g; refine (bcmp_same X0.out.1.arg X0.out.2.1.arg rfl).mono ?_; rintro e y1 ⟨rfl, g1⟩; have X1 := hide (X0.out.keep g1); have Kx1 := hide (bafter Kx0.out g1 (Nat.le_refl _)); have M1 := hide (M0.out.below g1)))
    have S5 := hide X5.out.2.1
    have A5 := hide X5.out.2.2.1
    have B5 := hide X5.out.2.2.2.1
    have C5 := hide X5.out.2.2.2.2
    obtain ⟨v0, v1, v2, v3⟩ := B5.out.facts
    clear X0 X1 X2 X3 X4 X5 Esub
    by_cases hy : y = 0
    · have Hy := hide hy
      have Ec : Hid (x * y + z = z) := by show _ = _; rw [hy, Int.mul_zero]; omega
      clear hy
      go_wp2_with fail
      refine (sign_is (s := 0) B5.out.arg (by rw [Hy.out]; rfl)).mono ?_
      rintro e w8 ⟨rfl, j8⟩
      have S8 := hide (S5.out.keep j8)
      have C8 := hide (C5.out.keep j8)
      have K8 := hide (bafter Kx5.out j8 (Nat.le_refl _))
      obtain ⟨u0, u1, u2, u3⟩ := S8.out.facts
      obtain ⟨t0, t1, t2, t3⟩ := C8.out.facts
      clear v0 v1 v2 v3 S5 A5 B5 C5 j8
      go_wp2_with fail
      refine (bcmp_same S8.out.arg C8.out.arg Ec.out).mono ?_
      rintro e w9 ⟨rfl, j9⟩
      go_wp2
      go_ret
      exact ⟨rfl, bafter K8.out j9 (Nat.le_refl _)⟩
    · have H0 := hide hy
      have hsy : (sg y == 0) = false := beq_eq_false_iff_ne.2 (sg_ne hy)
      have Em := hide (big_mod x y z)
      have Ed := hide (big_div x y z hy)
      clear hy
      go_wp2_with fail
      refine (sign_calls B5.out.arg).mono ?_
      rintro e w8 ⟨rfl, j8⟩
      generalize sg y = sy at *
      have S8 := hide (S5.out.keep j8)
      have A8 := hide (A5.out.keep j8)
      have B8 := hide (B5.out.keep j8)
      have C8 := hide (C5.out.keep j8)
      have K8 := hide (bafter Kx5.out j8 (Nat.le_refl _))
      clear v0 v1 v2 v3 S5 A5 B5 C5 j8
      obtain ⟨u0, u1, u2, u3⟩ := S8.out.facts
      obtain ⟨v0, v1, v2, v3⟩ := B8.out.facts
      go_wp2_with fail
      refine (bdiv_calls S8.out.arg B8.out.arg H0.out).mono ?_
      rintro e w9 ⟨y9, r9, rfl, q9, t9, j9⟩
      rw [Ed.out] at q9
      rw [Em.out] at t9
      obtain ⟨nq, aq, Lq, kq, rfl⟩ := q9.form
      obtain ⟨nr, ar, Lr, kr, rfl⟩ := t9.form
      have HQ : Hid ((x + z / y).natAbs < R ^ 10) := bl_add (lt_up HA.out (by decide)) (quo_bound HC.out)
      have HR := hide (rem_lt (x := z) H0.out HB.out)
      have Dqr := BoxA.new2 (q9.arg HQ.out (by decide)) (t9.arg HR.out (by decide))
      have Dq := hide Dqr.1.boxC
      have Dr := hide Dqr.2.boxC
      have A9 := hide (A8.out.keep j9)
      have B9 := hide (B8.out.keep j9)
      have C9 := hide (C8.out.keep j9)
      have K9 := hide (bafter K8.out j9 (Nat.le_refl _))
      clear u0 u1 u2 u3 v0 v1 v2 v3 S8 A8 B8 C8 K8 j9 q9 t9 Dqr
      obtain ⟨u0, u1, u2, u3⟩ := C9.out.facts
      obtain ⟨v0, v1, v2, v3⟩ := B9.out.facts
      go_wp2_with fail
      refine (bdiv_calls (C9.out.arg.below (by go_grown)) (B9.out.arg.below (by go_grown)) H0.out).mono ?_
      rintro e wa ⟨ya, ra, rfl, qa, ta, ja⟩
      obtain ⟨nu, au, Lu, ku, rfl⟩ := qa.form
      obtain ⟨nv, av, Lv, kv, rfl⟩ := ta.form
      have Ja : Below w9.heap.size w9 wa := bthn (by go_grown) ja
      have o := bthn (bel wa (.cells #[.bool nu, .slice au Lu ku] 24)) (bel _ (.cells #[.bool nv, .slice av Lv kv] 24))
      have Duv := BoxA.new2 (qa.arg (quo_bound HC.out) (by decide)) (ta.arg HR.out (by decide))
      have X0 : Hid (F5 ((wa.alloc (.cells #[.bool nu, .slice au Lu ku] 24)).alloc (.cells #[.bool nv, .slice av Lv kv] 24)).drew _ _ _ _ _ _ _ _ _ _ _ _ _ _ _ _ _ _ _ _ _ _ _ _ _ _ _ _ _ _) := ⟨((Dr.out.keep ja).keep o).drew, Duv.2.boxC.drew, ((Dq.out.keep ja).keep o).drew, ((A9.out.keep Ja).keep o).drew, Duv.1.boxC.drew⟩
      have Kx0 := hide (bafter (bafter K9.out Ja (Nat.le_refl _)) o (Nat.le_refl _)).drew
      clear u0 u1 u2 u3 v0 v1 v2 v3 A9 B9 C9 K9 Dq Dr Duv o ja Ja qa ta
      go_wp2
      go_region_held3 (fun w' => w'.cell? ⟨w9.heap.size + 1, 0, none⟩ = some (.bool nr) ∧ w'.cell? ⟨w9.heap.size + 1, 1, none⟩ = some (.slice ar Lr kr) ∧ w'.cell? ⟨wa.heap.size + 1, 0, none⟩ = some (.bool nv) ∧ w'.cell? ⟨wa.heap.size + 1, 1, none⟩ = some (.slice av Lv kv) ∧ w'.cell? ⟨w9.heap.size, 0, none⟩ = some (.bool nq) ∧ w'.cell? ⟨w9.heap.size, 1, none⟩ = some (.slice aq Lq kq) ∧ w'.cell? ⟨w.heap.size, 0, none⟩ = some (.bool na) ∧ w'.cell? ⟨w.heap.size, 1, none⟩ = some (.slice aa La ca) ∧ w'.cell? ⟨wa.heap.size, 0, none⟩ = some (.bool nu) ∧ w'.cell? ⟨wa.heap.size, 1, none⟩ = some (.slice au Lu ku))
        (first | exact X3.out.cells | exact X2.out.cells | exact X1.out.cells | exact X0.out.cells)
        (first
          | (go_at_call 15; have g := X2; clear g; refine (bcmp_same X2.out.2.2.1.arg s2.out rfl).mono ?_; rintro e z3 ⟨rfl, g3⟩; have X3 := hide (X2.out.keep g3); have Kx3 := hide (bafter Kx2.out g3 (Nat.le_refl _)))
          | (go_at_call 11; have g := X1; clear g; refine (badd_calls X1.out.2.2.2.1.arg X1.out.2.2.2.2.arg).mono ?_; rintro e z2 ⟨v2, rfl, q2, g2⟩; have X2 := hide (X1.out.keep g2); have Kx2 := hide (bafter Kx1.out g2 (Nat.le_refl _)); have s2 := hide (q2.arg HQ.out (by decide)))
          | (go_at_call 15; have g := X0; clear g; refine (bcmp_same X0.out.1.arg X0.out.2.1.arg rfl).mono ?_; rintro e z1 ⟨rfl, g1⟩; have X1 := hide (X0.out.keep g1); have Kx1 := hide (bafter Kx0.out g1 (Nat.le_refl _))))
      go_wp2
      go_ret
      exact ⟨rfl, Kx3.out⟩

end Go.Proofs.YtpenhmkodakpaaaDoor
