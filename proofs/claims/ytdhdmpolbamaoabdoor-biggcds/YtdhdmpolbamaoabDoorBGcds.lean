/- The law BigGcds: the walk. -/
import Derived.Test.YtdhdmpolbamaoabDoorBigLaw0
import Derived.Test.YtdhdmpolbamaoabDoorBigFloor
namespace Go.Proofs.YtdhdmpolbamaoabDoor
set_option linter.unusedVariables false
set_option linter.unusedSimpArgs false
set_option maxRecDepth 100000
open Go Go.RowKit Go.Shelf Go.Lib

theorem bl_limbs4 {na : Bool} {xs : List Nat} (hs : Small R xs) (hl : xs.length ≤ 4) : (sgn na (val R xs)).natAbs < R ^ 4 := by
  have e : (sgn na (val R xs)).natAbs = val R xs := by unfold sgn; split <;> simp
  rw [e]
  exact Nat.lt_of_lt_of_le (val_lt hs) (Nat.pow_le_pow_right R_pos hl)

theorem gcd_bound {x y : Int} {k : Nat} (h : x.natAbs < R ^ k) (g : y.natAbs < R ^ k) : ((Nat.gcd x.natAbs y.natAbs : Nat) : Int).natAbs < R ^ k := by
  rw [Int.natAbs_natCast]
  rcases Nat.eq_zero_or_pos x.natAbs with e | e
  · rw [e, Nat.gcd_zero_left]; exact g
  · exact Nat.lt_of_le_of_lt (Nat.gcd_le_left _ e) h

theorem gcd_left (x y : Int) : ((Nat.gcd x.natAbs y.natAbs : Nat) : Int) ∣ x := by
  rw [← Int.natAbs_dvd_natAbs, Int.natAbs_natCast]
  exact Nat.gcd_dvd_left _ _
theorem gcd_right (x y : Int) : ((Nat.gcd x.natAbs y.natAbs : Nat) : Int) ∣ y := by
  rw [← Int.natAbs_dvd_natAbs, Int.natAbs_natCast]
  exact Nat.gcd_dvd_right _ _
theorem gcd_third (x y d : Int) : d ∣ ((Nat.gcd (x * d).natAbs (y * d).natAbs : Nat) : Int) := by
  rw [← Int.natAbs_dvd_natAbs, Int.natAbs_natCast, Int.natAbs_mul, Int.natAbs_mul]
  exact Nat.dvd_gcd (Nat.dvd_mul_left _ _) (Nat.dvd_mul_left _ _)
theorem gcd_one {x y : Int} {g : Nat} (hg : g = Nat.gcd x.natAbs y.natAbs) (h0 : g ≠ 0) : ((Nat.gcd (x / (g : Int)).natAbs (y / (g : Int)).natAbs : Nat) : Int) = 1 := by
  have hx : (g : Int) ∣ x := by rw [hg]; exact gcd_left x y
  have hy : (g : Int) ∣ y := by rw [hg]; exact gcd_right x y
  have e1 : (x / (g : Int)).natAbs = x.natAbs / g := by rw [Int.natAbs_ediv_of_dvd hx, Int.natAbs_natCast]
  have e2 : (y / (g : Int)).natAbs = y.natAbs / g := by rw [Int.natAbs_ediv_of_dvd hy, Int.natAbs_natCast]
  rw [e1, e2, hg, Nat.gcd_div (Nat.gcd_dvd_left _ _) (Nat.gcd_dvd_right _ _), Nat.div_self (by rw [← hg]; omega)]
  rfl

theorem divides_yes {w : World} {u v : Value} {x y : Int} (hu : BArg w u x) (hv : BArg w v y) (h : x ∣ y) :
    Calls Tryd.prog 21 #[u, v] w fun e w' => e = .returned (.bool true) ∧ Below w.heap.size w w' := by
  have := divides_calls hu hv
  rw [decide_eq_true h] at this
  exact this

/-- A number whose two cells lie somewhere. -/
def BoxC (W : World) (b : Nat) (n : Bool) (a : Option Addr) (L c : Nat) (z : Int) : Prop := W.cell? ⟨b, 0, none⟩ = some (.bool n) ∧ W.cell? ⟨b, 1, none⟩ = some (.slice a L c) ∧ b < W.heap.size ∧ BArg W (.agg #[.bool n, .slice a L c]) z
theorem BoxC.keep {W W' : World} {b : Nat} {n : Bool} {a : Option Addr} {L c : Nat} {z : Int} (h : BoxC W b n a L c z) (hb : Below W.heap.size W W') : BoxC W' b n a L c z :=
  ⟨(hb.cell (p := ⟨b, 0, none⟩) h.2.2.1).trans h.1, (hb.cell (p := ⟨b, 1, none⟩) h.2.2.1).trans h.2.1, Nat.lt_of_lt_of_le h.2.2.1 hb.size, h.2.2.2.below hb⟩
theorem BoxA.boxC {W : World} {b : Nat} {n : Bool} {a : Option Addr} {L c : Nat} {z : Int} (h : BoxA W b n a L c z) : BoxC W b n a L c z := ⟨h.c0, h.c1, h.lt, h.arg⟩

theorem two_new (W : World) (x y : Value) (t : TypeId) : Two (W.alloc (.cells #[x, y] t)) W.heap.size x y t := Two.new W x y t
theorem two_new1 (W : World) (o : Obj) (x y : Value) (t : TypeId) : Two ((W.alloc o).alloc (.cells #[x, y] t)) (W.heap.size + 1) x y t := by
  have := Two.new (W.alloc o) x y t
  rw [World.size_alloc] at this
  exact this
theorem Two.lt {W : World} {b : Nat} {x y : Value} {t : TypeId} (h : Two W b x y t) : b < W.heap.size := (Array.getElem?_eq_some_iff.1 h).1
theorem Two.all {W : World} {b : Nat} {x y : Value} {t : TypeId} (h : Two W b x y t) : W.cell? ⟨b, 0, none⟩ = some x ∧ W.cell? ⟨b, 1, none⟩ = some y ∧ W.frozen? ⟨b, 0, none⟩ = false ∧ W.frozen? ⟨b, 1, none⟩ = false ∧ b < W.heap.size ∧ b < W.heap.size + 1 :=
  ⟨h.c0, h.c1, h.f0 0, h.f0 1, h.lt, Nat.lt_succ_of_lt h.lt⟩
theorem BArg.put {W : World} {b : Nat} {bx : Bool} {ay : Option Addr} {Ly cy : Nat} {t : TypeId} {v : Value} {z : Int} (h : BArg W v z) (T : Two W b (.bool bx) (.slice ay Ly cy) t) (p q : Value) :
    BArg ((W.setCell ⟨b, 0, none⟩ p).setCell ⟨b, 1, none⟩ q) v z := by
  obtain ⟨neg, mv, n, h1, h2, h3⟩ := h
  exact ⟨neg, mv, n, h1, h2.put T p q, h3⟩
theorem BArg.alloc {W : World} {v : Value} {z : Int} (h : BArg W v z) (o : Obj) : BArg (W.alloc o) v z := h.below (bel W o)

theorem two_at {W : World} {b : Nat} (h : b = W.heap.size) (x y : Value) (t : TypeId) : Two (W.alloc (.cells #[x, y] t)) b x y t := by subst h; exact Two.new W x y t
theorem boxC_of {W : World} {b : Nat} {n : Bool} {a : Option Addr} {L c : Nat} {z : Int} {t : TypeId} (T : Two W b (.bool n) (.slice a L c) t) (h : BArg W (.agg #[.bool n, .slice a L c]) z) : BoxC W b n a L c z := ⟨T.c0, T.c1, T.lt, h⟩
theorem BoxC.arg {W : World} {b : Nat} {n : Bool} {a : Option Addr} {L c : Nat} {z : Int} (h : BoxC W b n a L c z) : BArg W (.agg #[.bool n, .slice a L c]) z := h.2.2.2
theorem BoxC.facts {W : World} {b : Nat} {n : Bool} {a : Option Addr} {L c : Nat} {z : Int} (h : BoxC W b n a L c z) : W.cell? ⟨b, 0, none⟩ = some (.bool n) ∧ W.cell? ⟨b, 1, none⟩ = some (.slice a L c) ∧ b < W.heap.size ∧ b < W.heap.size + 1 := ⟨h.1, h.2.1, h.2.2.1, Nat.lt_succ_of_lt h.2.2.1⟩

theorem leaf1 {W : World} {n m : Bool} {a b : Option Addr} {L c M d : Nat} {zx zy : Int} (X : BArg W (.agg #[.bool n, .slice a L c]) zx) (Y : BArg W (.agg #[.bool m, .slice b M d]) zy) : BoxC ((W.alloc (.cells #[.bool n, .slice a L c] 24)).alloc (.cells #[.bool m, .slice b M d] 24)) (W.heap.size) n a L c zx ∧ BoxC ((W.alloc (.cells #[.bool n, .slice a L c] 24)).alloc (.cells #[.bool m, .slice b M d] 24)) (W.heap.size + 1) m b M d zy :=
  ⟨boxC_of ((Two.new _ _ _ _).alloc _) ((X.alloc _).alloc _), boxC_of (two_new1 _ _ _ _ _) ((Y.alloc _).alloc _)⟩
theorem leaf2 {W : World} {n m : Bool} {a b : Option Addr} {L c M d : Nat} {zx zy : Int} (X : BArg W (.agg #[.bool n, .slice a L c]) zx) (Y : BArg W (.agg #[.bool m, .slice b M d]) zy) : BoxC ((W.alloc (.cells #[.bool m, .slice b M d] 24)).alloc (.cells #[.bool n, .slice a L c] 24)) (W.heap.size + 1) n a L c zx ∧ BoxC ((W.alloc (.cells #[.bool m, .slice b M d] 24)).alloc (.cells #[.bool n, .slice a L c] 24)) (W.heap.size) m b M d zy :=
  ⟨boxC_of (two_new1 _ _ _ _ _) ((X.alloc _).alloc _), boxC_of ((Two.new _ _ _ _).alloc _) ((Y.alloc _).alloc _)⟩
theorem leaf3 {W : World} {n m : Bool} {a b : Option Addr} {L c M d : Nat} {zx zy : Int} (X : BArg W (.agg #[.bool n, .slice a L c]) zx) (Y : BArg W (.agg #[.bool m, .slice b M d]) zy) {g : Nat} (T : Two W g (.bool false) (.slice none 0 0) 24) : BoxC (((W.setCell ⟨g, 0, none⟩ (.bool n)).setCell ⟨g, 1, none⟩ (.slice a L c)).alloc (.cells #[.bool m, .slice b M d] 24)) (g) n a L c zx ∧ BoxC (((W.setCell ⟨g, 0, none⟩ (.bool n)).setCell ⟨g, 1, none⟩ (.slice a L c)).alloc (.cells #[.bool m, .slice b M d] 24)) (W.heap.size) m b M d zy :=
  ⟨boxC_of ((T.put _ _).alloc _) ((X.put T _ _).alloc _), boxC_of (two_at (by simp only [World.size_setCell]) _ _ _) ((Y.put T _ _).alloc _)⟩
theorem leaf4 {W : World} {n m : Bool} {a b : Option Addr} {L c M d : Nat} {zx zy : Int} (X : BArg W (.agg #[.bool n, .slice a L c]) zx) (Y : BArg W (.agg #[.bool m, .slice b M d]) zy) {g : Nat} (T : Two W g (.bool false) (.slice none 0 0) 24) : BoxC (((W.setCell ⟨g, 0, none⟩ (.bool m)).setCell ⟨g, 1, none⟩ (.slice b M d)).alloc (.cells #[.bool n, .slice a L c] 24)) (W.heap.size) n a L c zx ∧ BoxC (((W.setCell ⟨g, 0, none⟩ (.bool m)).setCell ⟨g, 1, none⟩ (.slice b M d)).alloc (.cells #[.bool n, .slice a L c] 24)) (g) m b M d zy :=
  ⟨boxC_of (two_at (by simp only [World.size_setCell]) _ _ _) ((X.put T _ _).alloc _), boxC_of ((T.put _ _).alloc _) ((Y.put T _ _).alloc _)⟩
theorem leaf5 {W : World} {n m : Bool} {a b : Option Addr} {L c M d : Nat} {zx zy : Int} (X : BArg W (.agg #[.bool n, .slice a L c]) zx) (Y : BArg W (.agg #[.bool m, .slice b M d]) zy) {g h : Nat} (T : Two W g (.bool false) (.slice none 0 0) 24) (U : Two W h (.bool false) (.slice none 0 0) 24) (hne : g ≠ h) : BoxC (((((W.setCell ⟨g, 0, none⟩ (.bool n)).setCell ⟨g, 1, none⟩ (.slice a L c)).setCell ⟨h, 0, none⟩ (.bool m)).setCell ⟨h, 1, none⟩ (.slice b M d))) (g) n a L c zx ∧ BoxC (((((W.setCell ⟨g, 0, none⟩ (.bool n)).setCell ⟨g, 1, none⟩ (.slice a L c)).setCell ⟨h, 0, none⟩ (.bool m)).setCell ⟨h, 1, none⟩ (.slice b M d))) (h) m b M d zy :=
  ⟨boxC_of ((T.put _ _).other hne _ _) ((X.put T _ _).put (U.other (Ne.symm hne) _ _) _ _), boxC_of ((U.other (Ne.symm hne) _ _).put _ _) ((Y.put T _ _).put (U.other (Ne.symm hne) _ _) _ _)⟩
theorem leaf_meet {w W : World} {k b7 b8 bc : Nat} {n7 n8 nc : Bool} {a7 a8 ac : Option Addr} {L7 k7 L8 k8 Lc cc : Nat} {zx zy z : Int} (h : BoxC W b7 n7 a7 L7 k7 zx ∧ BoxC W b8 n8 a8 L8 k8 zy) (hc : BoxC W bc nc ac Lc cc z) (hk : Below k w W) :
    ∃ b7' n7 a7 L7 k7 b8' n8 a8 L8 k8, Value.pointer (some ⟨b7, 0, none⟩) = .pointer (some ⟨b7', 0, none⟩) ∧ Value.pointer (some ⟨b8, 0, none⟩) = .pointer (some ⟨b8', 0, none⟩) ∧ BoxC W b7' n7 a7 L7 k7 zx ∧ BoxC W b8' n8 a8 L8 k8 zy ∧ BoxC W bc nc ac Lc cc z ∧ Below k w W :=
  ⟨_, _, _, _, _, _, _, _, _, _, rfl, rfl, h.1, h.2, hc, hk⟩

theorem div_bound {x : Int} {g k : Nat} (hd : (g : Int) ∣ x) (h : x.natAbs < R ^ k) : (x / (g : Int)).natAbs < R ^ k := by
  rw [Int.natAbs_ediv_of_dvd hd, Int.natAbs_natCast]
  exact Nat.lt_of_le_of_lt (Nat.div_le_self _ _) h

theorem held_all {W W' : World} {b0 b1 b2 : Nat} {n0 n1 n2 : Bool} {a0 a1 a2 : Option Addr} {L0 L1 L2 c0 c1 c2 : Nat} {z0 z1 z2 : Int} (A : BoxA W b0 n0 a0 L0 c0 z0) (B : BoxA W b1 n1 a1 L1 c1 z1) (C : BoxA W b2 n2 a2 L2 c2 z2) (h : Below W.heap.size W W') :
    W'.cell? ⟨b0, 0, none⟩ = some (.bool n0) ∧ W'.cell? ⟨b0, 1, none⟩ = some (.slice a0 L0 c0) ∧ W'.cell? ⟨b1, 0, none⟩ = some (.bool n1) ∧ W'.cell? ⟨b1, 1, none⟩ = some (.slice a1 L1 c1) ∧ W'.cell? ⟨b2, 0, none⟩ = some (.bool n2) ∧ W'.cell? ⟨b2, 1, none⟩ = some (.slice a2 L2 c2) ∧ Below W.heap.size W W' :=
  ⟨(A.keep h).c0, (A.keep h).c1, (B.keep h).c0, (B.keep h).c1, (C.keep h).c0, (C.keep h).c1, h⟩

set_option maxHeartbeats 8000000 in
theorem bgcds_calls (w : World) (na nb nc : Bool) (sa sb sc : Value) (xs ys zs : List Nat) (ha0 : Limbs w sa xs) (hb0 : Limbs w sb ys) (hc0 : Limbs w sc zs) (htab : TabIs Tryd.prog w "internal/strconv.uint64pow10" .u64 pow10Tab) :
    Calls Tryd.prog 5 #[.agg #[.bool na, sa], .agg #[.bool nb, sb], .agg #[.bool nc, sc]] w fun e w' => e = .returned (.bool true) ∧ Below w.heap.size w w' := by
  obtain ⟨aa, ca, rfl⟩ := ha0.len
  obtain ⟨ab, cb, rfl⟩ := hb0.len
  obtain ⟨ac, cc, rfl⟩ := hc0.len
  obtain ⟨t0, t1, t2, hb⟩ := boxes w (.bool na) (.slice aa xs.length ca) (.bool nb) (.slice ab ys.length cb) (.bool nc) (.slice ac zs.length cc) 24
  have G : Hid (Tri _ w.heap.size (w.heap.size + 1) (w.heap.size + 1 + 1) (.bool na) (.slice aa xs.length ca) (.bool nb) (.slice ab ys.length cb) (.bool nc) (.slice ac zs.length cc)) := ⟨t0, t1, t2⟩
  have K := hide hb
  have A := hide (ha0.below hb)
  have B := hide (hb0.below hb)
  have C := hide (hc0.below hb)
  have Ht := hide (tab_keep htab hb)
  clear t0 t1 t2 hb ha0 hb0 hc0 htab
  generalize hLa : xs.length = La at *
  generalize hLb : ys.length = Lb at *
  generalize hLc : zs.length = Lc at *
  have HLa := hide hLa
  have HLb := hide hLb
  have HLc := hide hLc
  clear hLa hLb hLc
  go_enter Tryd.func5, Tryd.ntmps5
  go_wp2_with fail
  refine (msigned_calls _ Ht.out).mono ?_
  rintro e w1 ⟨rfl, k1⟩
  have G1 := hide (G.out.keep k1)
  have K1 := hide (bafter K.out k1 (Nat.le_refl _))
  have A1 := hide (A.out.below k1)
  have B1 := hide (B.out.below k1)
  have C1 := hide (C.out.below k1)
  have Ht1 := hide (tab_keep Ht.out k1)
  obtain ⟨c0, c1, c2, c3, c4, c5⟩ := G1.out.cells
  clear G K A B C Ht k1
  by_cases ha : (La : Int) > 4
  · go_wp2_with fail
    refine (msigned_calls _ Ht1.out).mono ?_
    rintro e v2 ⟨rfl, j2⟩
    go_wp2
    go_ret
    exact ⟨rfl, bafter K1.out j2 (Nat.le_refl _)⟩
  have ha' : decide ((La : Int) > 4) = false := decide_eq_false ha
  by_cases hb : (Lb : Int) > 4
  · go_wp2_with fail
    refine (msigned_calls _ Ht1.out).mono ?_
    rintro e v2 ⟨rfl, j2⟩
    go_wp2
    go_ret
    exact ⟨rfl, bafter K1.out j2 (Nat.le_refl _)⟩
  have hb' : decide ((Lb : Int) > 4) = false := decide_eq_false hb
  by_cases hc : (Lc : Int) > 4
  · go_wp2_with fail
    refine (msigned_calls _ Ht1.out).mono ?_
    rintro e v2 ⟨rfl, j2⟩
    go_wp2
    go_ret
    exact ⟨rfl, bafter K1.out j2 (Nat.le_refl _)⟩
  have hc' : decide ((Lc : Int) > 4) = false := decide_eq_false hc
  have HA := hide (bl_limbs4 (na := na) A1.out.small (by rw [HLa.out]; omega))
  have HB := hide (bl_limbs4 (na := nb) B1.out.small (by rw [HLb.out]; omega))
  have HC := hide (bl_limbs4 (na := nc) C1.out.small (by rw [HLc.out]; omega))
  have A0 : Hid (BoxA w1 w.heap.size na aa La ca (sgn na (val R xs))) := ⟨G1.out.1, box_arg A1.out (by rw [HLa.out]; omega)⟩
  have B0 : Hid (BoxA w1 (w.heap.size + 1) nb ab Lb cb (sgn nb (val R ys))) := ⟨G1.out.2.1, box_arg B1.out (by rw [HLb.out]; omega)⟩
  have C0 : Hid (BoxA w1 (w.heap.size + 1 + 1) nc ac Lc cc (sgn nc (val R zs))) := ⟨G1.out.2.2, box_arg C1.out (by rw [HLc.out]; omega)⟩
  have K0 := K1
  generalize sgn na (val R xs) = x at *
  generalize sgn nb (val R ys) = y at *
  generalize sgn nc (val R zs) = z at *
  clear A1 B1 C1 Ht1 G1 K1
  go_upto_region 3 with fail
  go_cut [7, 8] from 37 to 99 (fun s7 s8 wx => ∃ b7 n7 a7 L7 k7 b8 n8 a8 L8 k8, s7 = .pointer (some ⟨b7, 0, none⟩) ∧ s8 = .pointer (some ⟨b8, 0, none⟩) ∧ BoxC wx b7 n7 a7 L7 k7 (x * z) ∧ BoxC wx b8 n8 a8 L8 k8 (y * z) ∧ BoxC wx (w.heap.size + 1 + 1) nc ac Lc cc z ∧ Below w.heap.size w wx)
  case first =>
    go_region_held3 (fun w' => w'.cell? ⟨w.heap.size, 0, none⟩ = some (.bool na) ∧ w'.cell? ⟨w.heap.size, 1, none⟩ = some (.slice aa La ca) ∧ w'.cell? ⟨w.heap.size + 1, 0, none⟩ = some (.bool nb) ∧ w'.cell? ⟨w.heap.size + 1, 1, none⟩ = some (.slice ab Lb cb) ∧ w'.cell? ⟨w.heap.size + 1 + 1, 0, none⟩ = some (.bool nc) ∧ w'.cell? ⟨w.heap.size + 1 + 1, 1, none⟩ = some (.slice ac Lc cc) ∧ Below w1.heap.size w1 w')
      (first | (refine held_all A0.out B0.out C0.out ?_; go_grown; done) | (trace_state; fail))
      (first
        | (go_at_call 10; have g := X1; clear g; have hB : Below w1.heap.size w1 _ := And.right (And.right (And.right (And.right (And.right (And.right (by with_reducible assumption)))))); refine (bmul_calls (B0.out.arg.below hB) (C0.out.arg.below hB)).mono ?_; rintro e x2 ⟨y2, rfl, q2, f2⟩; obtain ⟨b2, a2, L2, k2, rfl⟩ := q2.form; have X2 := hide (q2.arg (bl_mul HB.out HC.out) (by decide)); have N2 : Below w1.heap.size w1 x2 := bafter hB f2 (Nat.le_refl _); have z2 := N2.size; have z2d : w1.heap.size ≤ x2.heap.size := N2.size; have G2 : Below x1.heap.size x1 x2 := bthn (by go_grown) f2; have X3 := hide (X1.out.below G2); (try (have T2a : Two x2 w1.heap.size (.bool false) (.slice none 0 0) 24 := Two.keep T1a G2; obtain ⟨T2ac0, T2ac1, T2af0, T2af1, T2al0, T2al1⟩ := T2a.all)); (try (have T2b : Two x2 (w1.heap.size + 1) (.bool false) (.slice none 0 0) 24 := Two.keep T1b G2; obtain ⟨T2bc0, T2bc1, T2bf0, T2bf1, T2bl0, T2bl1⟩ := T2b.all)); (try (have T2c : Two x2 x1.heap.size (.bool false) (.slice none 0 0) 24 := Two.keep (by first | exact two_new x1 _ _ _ | exact (two_new x1 _ _ _).alloc _) f2; obtain ⟨T2cc0, T2cc1, T2cf0, T2cf1, T2cl0, T2cl1⟩ := T2c.all)); (try (have T2d : Two x2 (x1.heap.size + 1) (.bool false) (.slice none 0 0) 24 := Two.keep (two_new1 x1 _ _ _ _) f2; obtain ⟨T2dc0, T2dc1, T2df0, T2df1, T2dl0, T2dl1⟩ := T2d.all)); clear hB f2 q2)
        | (go_at_call 10; have hB : Below w1.heap.size w1 _ := And.right (And.right (And.right (And.right (And.right (And.right (by with_reducible assumption)))))); refine (bmul_calls (A0.out.arg.below hB) (C0.out.arg.below hB)).mono ?_; rintro e x1 ⟨y1, rfl, q1, f1⟩; obtain ⟨b1, a1, L1, k1, rfl⟩ := q1.form; have X1 := hide (q1.arg (bl_mul HA.out HC.out) (by decide)); have N1 : Below w1.heap.size w1 x1 := bafter hB f1 (Nat.le_refl _); have z1 := N1.size; have z1d : w1.heap.size ≤ x1.heap.size := N1.size; (try (have T1a : Two x1 w1.heap.size (.bool false) (.slice none 0 0) 24 := Two.keep (by first | exact (two_new w1 _ _ _).drew | exact ((two_new w1 _ _ _).alloc _).drew) f1; obtain ⟨T1ac0, T1ac1, T1af0, T1af1, T1al0, T1al1⟩ := T1a.all)); (try (have T1b : Two x1 (w1.heap.size + 1) (.bool false) (.slice none 0 0) 24 := Two.keep ((two_new1 w1 _ _ _ _).drew) f1; obtain ⟨T1bc0, T1bc1, T1bf0, T1bf1, T1bl0, T1bl1⟩ := T1b.all)); clear hB f1 q1))
    all_goals
      go_wp2_with fail
      go_meet
      have X3' := X3.out
      have X2' := X2.out
      refine leaf_meet (n7 := b1) (a7 := a1) (L7 := L1) (k7 := k1) (n8 := b2) (a8 := a2) (L8 := L2) (k8 := k2) ?_ (C0.out.boxC.keep ?_) (bafter K0.out ?_ (Nat.le_refl _))
      · first
          | (with_reducible exact leaf1 X3' X2')
          | (with_reducible exact leaf2 X3' X2')
          | (with_reducible exact leaf3 X3' X2' T2a)
          | (with_reducible exact leaf3 X3' X2' T2b)
          | (with_reducible exact leaf3 X3' X2' T2c)
          | (with_reducible exact leaf3 X3' X2' T2d)
          | (with_reducible exact leaf4 X3' X2' T2a)
          | (with_reducible exact leaf4 X3' X2' T2b)
          | (with_reducible exact leaf4 X3' X2' T2c)
          | (with_reducible exact leaf4 X3' X2' T2d)
          | (with_reducible exact leaf5 X3' X2' T2a T2b (by omega))
          | (with_reducible exact leaf5 X3' X2' T2a T2c (by omega))
          | (with_reducible exact leaf5 X3' X2' T2a T2d (by omega))
          | (with_reducible exact leaf5 X3' X2' T2b T2a (by omega))
          | (with_reducible exact leaf5 X3' X2' T2b T2c (by omega))
          | (with_reducible exact leaf5 X3' X2' T2b T2d (by omega))
          | (with_reducible exact leaf5 X3' X2' T2c T2a (by omega))
          | (with_reducible exact leaf5 X3' X2' T2c T2b (by omega))
          | (with_reducible exact leaf5 X3' X2' T2c T2d (by omega))
          | (with_reducible exact leaf5 X3' X2' T2d T2a (by omega))
          | (with_reducible exact leaf5 X3' X2' T2d T2b (by omega))
          | (with_reducible exact leaf5 X3' X2' T2d T2c (by omega))
      · go_grown
      · go_grown
  case rest =>
    obtain ⟨b7, n7, a7, L7, k7, b8, n8, a8, L8, k8, rfl, rfl, p7, p8, pc, hB⟩ := hcut
    have P7 := hide p7
    have P8 := hide p8
    have PC := hide pc
    have KB := hide hB
    obtain ⟨u0, u1, u2, u3⟩ := p7.facts
    obtain ⟨v0, v1, v2, v3⟩ := p8.facts
    obtain ⟨s0, s1, s2, s3⟩ := pc.facts
    have HX := hide (bl_mul HA.out HC.out)
    have HY := hide (bl_mul HB.out HC.out)
    clear p7 p8 pc hB A0 B0 C0 K0 c0 c1 c2 c3 c4 c5
    go_wp2_with fail
    refine (bgcd_calls P7.out.arg P8.out.arg).mono ?_
    rintro e w2 ⟨r2, rfl, q2, j2⟩
    obtain ⟨b2, a2, L2, k2, rfl⟩ := q2.form
    clear u0 u1 u2 u3 v0 v1 v2 v3 s0 s1 s2 s3
    have D9 := hide (BoxA.new (q2.arg (gcd_bound HX.out HY.out) (by decide))).boxC
    have J2 := bthn j2 (bel w2 (.cells #[.bool b2, .slice a2 L2 k2] 24))
    have P7b := hide (P7.out.keep J2)
    have P8b := hide (P8.out.keep J2)
    have PCb := hide (PC.out.keep J2)
    have KBb := hide (bafter KB.out J2 (Nat.le_refl _))
    clear J2 P7 P8 PC KB q2 j2
    by_cases hg : Nat.gcd (x * z).natAbs (y * z).natAbs = 0
    · have hx0 : x * z = 0 := Int.natAbs_eq_zero.1 (Nat.gcd_eq_zero_iff.1 hg).1
      have hy0 : y * z = 0 := Int.natAbs_eq_zero.1 (Nat.gcd_eq_zero_iff.1 hg).2
      have Hg := hide hg
      have Hx0 := hide hx0
      have Hy0 := hide hy0
      clear hg hx0 hy0
      go_wp2_with fail
      refine (sign_is (s := 0) D9.out.arg (by rw [Hg.out]; rfl)).mono ?_
      rintro e w3 ⟨rfl, j3⟩
      have P7c := hide (P7b.out.keep j3)
      have P8c := hide (P8b.out.keep j3)
      have KBc := hide (bafter KBb.out j3 (Nat.le_refl _))
      obtain ⟨u0, u1, u2, u3⟩ := P7c.out.facts
      clear P7b P8b KBb j3 D9 PCb
      go_wp2_with fail
      refine (sign_is (s := 0) P7c.out.arg (by rw [Hx0.out]; rfl)).mono ?_
      rintro e w4 ⟨rfl, j4⟩
      have P8d := hide (P8c.out.keep j4)
      have KBd := hide (bafter KBc.out j4 (Nat.le_refl _))
      obtain ⟨v0, v1, v2, v3⟩ := P8d.out.facts
      clear u0 u1 u2 u3 P7c P8c KBc j4
      go_wp2_with fail
      refine (sign_is (s := 0) P8d.out.arg (by rw [Hy0.out]; rfl)).mono ?_
      rintro e w5 ⟨rfl, j5⟩
      go_wp2
      go_ret
      exact ⟨rfl, bafter KBd.out j5 (Nat.le_refl _)⟩
    have hgx := gcd_left (x * z) (y * z)
    have hgy := gcd_right (x * z) (y * z)
    have hgz := gcd_third x y z
    have hg1 := gcd_one rfl hg
    generalize hgg : Nat.gcd (x * z).natAbs (y * z).natAbs = g at *
    have Hgg := hide hgg
    have Hgx := hide hgx
    have Hgy := hide hgy
    have Hgz := hide hgz
    have Hg1 := hide hg1
    have Hg0 : Hid ((g : Int) ≠ 0) := by show (g : Int) ≠ 0; omega
    have Hgs : Hid (sg (g : Int) = 1) := by show sg (g : Int) = 1; unfold sg; rw [if_neg (by omega), if_neg (by omega)]
    clear hgg hgx hgy hgz hg1 hg
    go_wp2_with fail
    refine (sign_is (s := 1) D9.out.arg Hgs.out).mono ?_
    rintro e w3 ⟨rfl, j3⟩
    have P7c := hide (P7b.out.keep j3)
    have P8c := hide (P8b.out.keep j3)
    have PCc := hide (PCb.out.keep j3)
    have D9c := hide (D9.out.keep j3)
    have KBc := hide (bafter KBb.out j3 (Nat.le_refl _))
    obtain ⟨u0, u1, u2, u3⟩ := P7c.out.facts
    obtain ⟨d0, d1, d2, d3⟩ := D9c.out.facts
    clear P7b P8b PCb KBb j3 D9
    go_wp2_with fail
    refine (bdiv_calls P7c.out.arg D9c.out.arg Hg0.out).mono ?_
    rintro e w4 ⟨y4, r4, rfl, q4, t4, j4⟩
    rw [Int.emod_eq_zero_of_dvd Hgx.out] at t4
    obtain ⟨b4, a4, L4, k4, rfl⟩ := q4.form
    obtain ⟨m4, o4, M4, l4, rfl⟩ := t4.form
    have Dp := hide (BoxA.new2 (q4.arg (div_bound Hgx.out HX.out) (by decide)) (t4.arg bl_zero (by decide))).1.boxC
    have P7d := hide (P7c.out.keep j4)
    have P8d := hide (P8c.out.keep j4)
    have PCd := hide (PCc.out.keep j4)
    have D9d := hide (D9c.out.keep j4)
    have KBd := hide (bafter KBc.out j4 (Nat.le_refl _))
    clear u0 u1 u2 u3 d0 d1 d2 d3
    obtain ⟨v0, v1, v2, v3⟩ := P8d.out.facts
    obtain ⟨d0, d1, d2, d3⟩ := D9d.out.facts
    clear P7c P8c PCc KBc D9c j4 q4 t4
    go_wp2_with fail
    refine (bdiv_calls (P8d.out.arg.below (by go_grown)) (D9d.out.arg.below (by go_grown)) Hg0.out).mono ?_
    rintro e w5 ⟨y5, r5, rfl, q5, t5, j5⟩
    rw [Int.emod_eq_zero_of_dvd Hgy.out] at t5
    obtain ⟨b5, a5, L5, k5, rfl⟩ := q5.form
    obtain ⟨m5, o5, M5, l5, rfl⟩ := t5.form
    have J5 : Below w4.heap.size w4 w5 := bthn (by go_grown) j5
    have Dq := hide (BoxA.new2 (q5.arg (div_bound Hgy.out HY.out) (by decide)) (t5.arg bl_zero (by decide))).1.boxC
    have P7e := hide (P7d.out.keep J5)
    have P8e := hide (P8d.out.keep J5)
    have PCe := hide (PCd.out.keep J5)
    have D9e := hide (D9d.out.keep J5)
    have Dpe := hide (Dp.out.keep j5)
    have KBe := hide (bafter KBd.out J5 (Nat.le_refl _))
    clear v0 v1 v2 v3 d0 d1 d2 d3
    obtain ⟨u0, u1, u2, u3⟩ := P7e.out.facts
    obtain ⟨d0, d1, d2, d3⟩ := D9e.out.facts
    clear P7d P8d PCd KBd D9d Dp j5 J5 q5 t5
    go_wp2_with fail
    refine (divides_yes (D9e.out.arg.below (by go_grown)) (P7e.out.arg.below (by go_grown)) Hgx.out).mono ?_
    rintro e w6 ⟨rfl, j6⟩
    have J6 : Below w5.heap.size w5 w6 := bthn (by go_grown) j6
    have P8f := hide (P8e.out.keep J6)
    have PCf := hide (PCe.out.keep J6)
    have D9f := hide (D9e.out.keep J6)
    have Dpf := hide (Dpe.out.keep J6)
    have Dqf := hide (Dq.out.keep j6)
    have KBf := hide (bafter KBe.out J6 (Nat.le_refl _))
    clear u0 u1 u2 u3 d0 d1 d2 d3
    obtain ⟨u0, u1, u2, u3⟩ := P8f.out.facts
    obtain ⟨d0, d1, d2, d3⟩ := D9f.out.facts
    clear P7e P8e PCe KBe D9e Dpe Dq j6 J6
    go_wp2_with fail
    refine (divides_yes D9f.out.arg P8f.out.arg Hgy.out).mono ?_
    rintro e w7 ⟨rfl, j7⟩
    have PCg := hide (PCf.out.keep j7)
    have D9g := hide (D9f.out.keep j7)
    have Dpg := hide (Dpf.out.keep j7)
    have Dqg := hide (Dqf.out.keep j7)
    have KBg := hide (bafter KBf.out j7 (Nat.le_refl _))
    clear u0 u1 u2 u3 d0 d1 d2 d3
    obtain ⟨u0, u1, u2, u3⟩ := PCg.out.facts
    obtain ⟨d0, d1, d2, d3⟩ := D9g.out.facts
    clear P8f PCf KBf D9f Dpf Dqf j7
    go_wp2_with fail
    refine (divides_yes PCg.out.arg D9g.out.arg Hgz.out).mono ?_
    rintro e w8 ⟨rfl, j8⟩
    have Dph := hide (Dpg.out.keep j8)
    have Dqh := hide (Dqg.out.keep j8)
    have KBh := hide (bafter KBg.out j8 (Nat.le_refl _))
    clear u0 u1 u2 u3 d0 d1 d2 d3
    obtain ⟨u0, u1, u2, u3⟩ := Dph.out.facts
    obtain ⟨d0, d1, d2, d3⟩ := Dqh.out.facts
    clear PCg D9g KBg Dpg Dqg j8
    go_wp2_with fail
    refine (bgcd_calls Dph.out.arg Dqh.out.arg).mono ?_
    rintro e w9 ⟨y9, rfl, q9, j9⟩
    obtain ⟨b9, a9, L9, k9, rfl⟩ := q9.form
    rw [Hg1.out] at q9
    have KBi := hide (bafter KBh.out j9 (Nat.le_refl _))
    clear u0 u1 u2 u3 d0 d1 d2 d3 KBh j9
    have Q9 := hide (q9.arg (k := 1) (by decide) (by decide))
    clear q9
    go_wp2_with fail
    refine (bof_calls _ 1 (by decide) (by decide)).mono ?_
    rintro e wa ⟨ya, rfl, qa, ja⟩
    obtain ⟨ba, aa', La', ka, rfl⟩ := qa.form
    have Qa := hide (qa.arg (k := 1) (by decide) (by decide))
    have Q9' := hide (Q9.out.below ja)
    have KBj := hide (bafter KBi.out ja (Nat.le_refl _))
    clear Q9 qa ja KBi
    go_wp2_with fail
    refine (bcmp_same Q9'.out Qa.out rfl).mono ?_
    rintro e wb ⟨rfl, jb⟩
    go_wp2
    go_ret
    exact ⟨rfl, bafter KBj.out jb (Nat.le_refl _)⟩

end Go.Proofs.YtdhdmpolbamaoabDoor
