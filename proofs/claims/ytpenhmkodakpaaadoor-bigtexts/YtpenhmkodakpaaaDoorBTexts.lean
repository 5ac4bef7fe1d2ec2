/- The law BigTexts: the walk. -/
import Derived.Test.YtpenhmkodakpaaaDoorBigLaw2
import Derived.Test.YtpenhmkodakpaaaDoorBigRef4
import Derived.Deep.RegionHeld3
namespace Go.Proofs.YtpenhmkodakpaaaDoor
set_option linter.unusedVariables false
set_option linter.unusedSimpArgs false
set_option maxRecDepth 100000
open Go Go.RowKit Go.Shelf Go.Lib

/-- A number that was answered, in a block. -/
def BoxR (W : World) (b : Nat) (n : Bool) (a : Option Addr) (L c : Nat) (z : Int) : Prop := Two W b (.bool n) (.slice a L c) 24 ∧ BRes W (.agg #[.bool n, .slice a L c]) z
theorem BoxR.keep {W W' : World} {b : Nat} {n : Bool} {a : Option Addr} {L c : Nat} {z : Int} (h : BoxR W b n a L c z) (hb : Below W.heap.size W W') : BoxR W' b n a L c z := ⟨h.1.keep hb, h.2.below hb⟩
def Txt (W : World) (bA : Nat) (nA : Bool) (aA : Option Addr) (LA cA : Nat) (lA : List Nat) (bN : Nat) (nN : Bool) (aN : Option Addr) (LN cN : Nat) (zN : Int) (bM : Nat) (nM : Bool) (aM : Option Addr) (LM cM : Nat) (zM : Int) (bB : Nat) (nB : Bool) (aB : Option Addr) (LB cB : Nat) (zB : Int) : Prop := BoxL W bA nA aA LA cA lA ∧ BoxR W bN nN aN LN cN zN ∧ BoxN W bM nM aM LM cM zM ∧ BoxR W bB nB aB LB cB zB
theorem Txt.keep {W W' : World} {bA : Nat} {nA : Bool} {aA : Option Addr} {LA cA : Nat} {lA : List Nat} {bN : Nat} {nN : Bool} {aN : Option Addr} {LN cN : Nat} {zN : Int} {bM : Nat} {nM : Bool} {aM : Option Addr} {LM cM : Nat} {zM : Int} {bB : Nat} {nB : Bool} {aB : Option Addr} {LB cB : Nat} {zB : Int} (h : Txt W bA nA aA LA cA lA bN nN aN LN cN zN bM nM aM LM cM zM bB nB aB LB cB zB) (hb : Below W.heap.size W W') : Txt W' bA nA aA LA cA lA bN nN aN LN cN zN bM nM aM LM cM zM bB nB aB LB cB zB := ⟨h.1.keep hb, h.2.1.keep hb, h.2.2.1.keep hb, h.2.2.2.keep hb⟩
theorem Txt.drew {W : World} {bA : Nat} {nA : Bool} {aA : Option Addr} {LA cA : Nat} {lA : List Nat} {bN : Nat} {nN : Bool} {aN : Option Addr} {LN cN : Nat} {zN : Int} {bM : Nat} {nM : Bool} {aM : Option Addr} {LM cM : Nat} {zM : Int} {bB : Nat} {nB : Bool} {aB : Option Addr} {LB cB : Nat} {zB : Int} (h : Txt W bA nA aA LA cA lA bN nN aN LN cN zN bM nM aM LM cM zM bB nB aB LB cB zB) : Txt W.drew bA nA aA LA cA lA bN nN aN LN cN zN bM nM aM LM cM zM bB nB aB LB cB zB := h.keep ((Below.refl _ _).drew)
theorem Txt.cells {W : World} {bA : Nat} {nA : Bool} {aA : Option Addr} {LA cA : Nat} {lA : List Nat} {bN : Nat} {nN : Bool} {aN : Option Addr} {LN cN : Nat} {zN : Int} {bM : Nat} {nM : Bool} {aM : Option Addr} {LM cM : Nat} {zM : Int} {bB : Nat} {nB : Bool} {aB : Option Addr} {LB cB : Nat} {zB : Int} (h : Txt W bA nA aA LA cA lA bN nN aN LN cN zN bM nM aM LM cM zM bB nB aB LB cB zB) :
    W.cell? ⟨bA, 0, none⟩ = some (.bool nA) ∧ W.cell? ⟨bA, 1, none⟩ = some (.slice aA LA cA) ∧ W.cell? ⟨bN, 0, none⟩ = some (.bool nN) ∧ W.cell? ⟨bN, 1, none⟩ = some (.slice aN LN cN) ∧ W.cell? ⟨bM, 0, none⟩ = some (.bool nM) ∧ W.cell? ⟨bM, 1, none⟩ = some (.slice aM LM cM) ∧ W.cell? ⟨bB, 0, none⟩ = some (.bool nB) ∧ W.cell? ⟨bB, 1, none⟩ = some (.slice aB LB cB) :=
  ⟨h.1.1.c0, h.1.1.c1, h.2.1.1.c0, h.2.1.1.c1, h.2.2.1.1.c0, h.2.2.1.1.c1, h.2.2.2.1.c0, h.2.2.2.1.c1⟩
theorem takeD {P : Program} {md : Region.Mode} {ops : Array Oper} {Q : Exit → Act → World → Prop} {S : World → Prop} {i : Nat} {oi : Oper} {v : Value} {fuel : Nat} {listed : Array Bool} {a : Act} {w : World} (d : Option Tmp) (hi : ops[i]? = some oi)
    (hs : Region.noSelect ops = true) (hf : Region.free md ops listed i = true) (hr : (Region.ready md ops listed).contains i = true)
    (hQ : ∀ c a w, Q (.panic c) (a.put oi.dst v) w → Q (.panic c) a w) (hy : YieldsIf P ops S oi v a) (hS : S w) (hd : oi.dst = d)
    (h : wpAnyH P md ops Q S fuel (listed.setIfInBounds i true) (a.put d v) w) : wpAnyH P md ops Q S (fuel + 1) listed a w :=
  wpAnyH_take hi hs hf hr hQ hy hS (by rw [hd]; exact h)
theorem BRes.zero (W : World) : BRes W (.agg #[.bool false, .slice none 0 0]) 0 := ⟨_, rfl, Res.nil W⟩
theorem NRes.zero (W : World) : NRes W (.agg #[.bool false, .slice none 0 0]) 0 := ⟨_, rfl, RRes.nil W⟩
theorem sgn_lt10 {neg : Bool} {n : Nat} (h : n < 10 ^ 100) : (sgn neg n).natAbs < 10 ^ 100 := by rw [sgn_natAbs]; exact h
theorem sgn_ltR {neg : Bool} {n : Nat} (h : n < 10 ^ 100) : (sgn neg n).natAbs < R ^ 100 := by rw [sgn_natAbs]; exact Nat.lt_of_lt_of_le h (Nat.pow_le_pow_left (by decide) 100)
theorem zero_lt10 : (0 : Int).natAbs < 10 ^ 100 := by decide

set_option maxHeartbeats 8000000 in
theorem btexts_calls (w : World) (na : Bool) (s : ByteArray) (sa : Value) (xs : List Nat) (ha0 : Limbs w sa xs) (hs0 : s.size ≤ maxLen) (htab : TabIs Tryd.prog w "internal/strconv.uint64pow10" .u64 pow10Tab) :
    Calls Tryd.prog 8 #[.agg #[.bool na, sa], .string s] w fun e w' => e = .returned (.bool true) ∧ Below w.heap.size w w' := by
  obtain ⟨aa, ca, rfl⟩ := ha0.len
  have A0 := hide (Two.new w (.bool na) (.slice aa xs.length ca) 24)
  have K0 := hide (bel w (.cells #[.bool na, .slice aa xs.length ca] 24))
  have LA0 := hide (ha0.below K0.out)
  have Ht := hide htab
  clear ha0 htab hs0
  generalize hLa : xs.length = La at *
  have HLa := hide hLa
  clear hLa
  go_enter Tryd.func8, Tryd.ntmps8
  by_cases ha : La ≤ 8
  case neg =>
    go_wp2_with fail
    refine (small_no ha).mono ?_
    rintro e v1 ⟨rfl, j1⟩
    have J1 := hide (bafter K0.out j1 (Nat.le_refl _))
    clear j1
    go_wp2_with fail
    refine (msigned_calls _ (tab_keep Ht.out J1.out)).mono ?_
    rintro e v2 ⟨rfl, j2⟩
    go_wp2
    go_ret
    exact ⟨rfl, bafter J1.out j2 (Nat.le_refl _)⟩
  by_cases hs : s.size ≤ 100
  case neg =>
    have d1 : decide ((s.size : Int) > 100) = true := decide_eq_true (by omega)
    go_wp2_with fail
    refine (small_yes ha).mono ?_
    rintro e v1 ⟨rfl, j1⟩
    have J1 := hide (bafter K0.out j1 (Nat.le_refl _))
    clear j1
    go_wp2_with fail
    refine (msigned_calls _ (tab_keep Ht.out J1.out)).mono ?_
    rintro e v2 ⟨rfl, j2⟩
    go_wp2
    go_ret
    exact ⟨rfl, bafter J1.out j2 (Nat.le_refl _)⟩
  have d1 : decide ((s.size : Int) > 100) = false := decide_eq_false (by omega)
  go_wp2_with fail
  refine (small_yes ha).mono ?_
  rintro e w1 ⟨rfl, k1⟩
  have HA := hide (bl_limbs (na := na) LA0.out.small (by rw [HLa.out]; exact ha))
  have A1 : Hid (BoxL w1 w.heap.size na aa La ca xs) := ⟨A0.out.keep k1, LA0.out.below k1, by rw [HLa.out]; exact ha⟩
  have K1 := hide (bafter K0.out k1 (Nat.le_refl _))
  clear A0 LA0 K0 k1
  rcases both_parse2 s hs with ⟨neg, n, hr, hn, hp, hq⟩ | ⟨hp, hq⟩
  · have Hp := hide hp
    have Hq := hide hq
    have Hr := hide hr
    have Hn := hide hn
    clear hp hq hr hn
    go_wp2_with fail
    refine (Hp.out _).mono ?_
    rintro e w2 ⟨v2, rfl, q2, k2⟩
    obtain ⟨n2, a2, L2, c2, rfl⟩ := q2.form
    have o2 := bel w2 (.cells #[.bool n2, .slice a2 L2 c2] 24)
    have J2 := bthn k2 o2
    have A2 := hide (A1.out.keep J2)
    have N2 : Hid (BoxR (w2.alloc (.cells #[.bool n2, .slice a2 L2 c2] 24)) w2.heap.size _ _ _ _ _) := ⟨Two.new w2 _ _ _, q2.below o2⟩
    have K2 := hide (bafter K1.out J2 (Nat.le_refl _))
    clear A1 K1 k2 o2 J2 q2
    go_wp2_with fail
    refine (Hq.out _).mono ?_
    rintro e w3 ⟨v3, rfl, q3, k3⟩
    obtain ⟨n3, a3, L3, c3, rfl⟩ := q3.form
    have o3 := bel w3 (.cells #[.bool n3, .slice a3 L3 c3] 43)
    have J3 := bthn k3 o3
    have A3p := A2.out.keep k3
    have c0 := A3p.1.c0
    have c1 := A3p.1.c1
    have l0 : w.heap.size < w3.heap.size := A3p.1.lt'
    have A3 := hide (A2.out.keep J3)
    have N3 := hide (N2.out.keep J3)
    have M3 : Hid (BoxN (w3.alloc (.cells #[.bool n3, .slice a3 L3 c3] 43)) w3.heap.size _ _ _ _ _) := ⟨Two.new w3 _ _ _, q3.below o3⟩
    have K3 := hide (bafter K2.out J3 (Nat.le_refl _))
    clear A2 N2 K2 k3 o3 J3 q3 A3p
    go_wp2_with fail
    refine (btext_calls A3.out.arg (tab_keep Ht.out K3.out)).mono ?_
    rintro e w4 ⟨rfl, k4⟩
    have A4 := hide (A3.out.keep k4)
    have N4 := hide (N3.out.keep k4)
    have M4 := hide (M3.out.keep k4)
    have K4 := hide (bafter K3.out k4 (Nat.le_refl _))
    clear A3 N3 M3 K3 k4 c0 c1 l0
    go_wp2_with fail
    refine (bparse_text HA.out (by decide) (by decide) _).mono ?_
    rintro e w5 ⟨v5, rfl, q5, k5⟩
    obtain ⟨n5, a5, L5, c5, rfl⟩ := q5.form
    have o5 := bel w5 (.cells #[.bool n5, .slice a5 L5 c5] 24)
    have J5 := bthn k5 o5
    have X0 : Hid (Txt (w5.alloc (.cells #[.bool n5, .slice a5 L5 c5] 24)).drew _ _ _ _ _ _ _ _ _ _ _ _ _ _ _ _ _ _ _ _ _ _ _ _) := Txt.drew ⟨A4.out.keep J5, N4.out.keep J5, M4.out.keep J5, ⟨Two.new w5 _ _ _, q5.below o5⟩⟩
    have Kx0 := hide (bafter K4.out J5 (Nat.le_refl _)).drew
    have l5 : w3.heap.size < w5.heap.size := (M4.out.keep k5).1.lt'
    have l6 : w2.heap.size < w5.heap.size := (N4.out.keep k5).1.lt'
    have l7 : w.heap.size < w5.heap.size := (A4.out.keep k5).1.lt'
    have m0 := (A4.out.keep k5).1.c0
    have m1 := (A4.out.keep k5).1.c1
    have m2 := (N4.out.keep k5).1.c0
    have m3 := (N4.out.keep k5).1.c1
    have m4 := (M4.out.keep k5).1.c0
    have m5 := (M4.out.keep k5).1.c1
    clear A4 N4 M4 K4 k5 o5 J5 q5
    go_wp2
    go_region_held3 (fun w' => w'.cell? ⟨w.heap.size, 0, none⟩ = some (.bool na) ∧ w'.cell? ⟨w.heap.size, 1, none⟩ = some (.slice aa La ca) ∧ w'.cell? ⟨w2.heap.size, 0, none⟩ = some (.bool n2) ∧ w'.cell? ⟨w2.heap.size, 1, none⟩ = some (.slice a2 L2 c2) ∧ w'.cell? ⟨w3.heap.size, 0, none⟩ = some (.bool n3) ∧ w'.cell? ⟨w3.heap.size, 1, none⟩ = some (.slice a3 L3 c3) ∧ w'.cell? ⟨w5.heap.size, 0, none⟩ = some (.bool n5) ∧ w'.cell? ⟨w5.heap.size, 1, none⟩ = some (.slice a5 L5 c5))
      (first | exact X7.out.cells | exact X6.out.cells | exact X5.out.cells | exact X4.out.cells | exact X3.out.cells | exact X2.out.cells | exact X1.out.cells | exact X0.out.cells)
      (first
        | (go_at_call 13; have g := X6; clear g; refine (btext_calls (X6.out.2.1.2.arg (sgn_ltR Hn.out) (by decide)) (tab_keep Ht.out Kx6.out)).mono ?_; rintro e y7 ⟨rfl, g7⟩; rw [reads_text Hr.out]; have X7 := hide (X6.out.keep g7); have Kx7 := hide (bafter Kx6.out g7 (Nat.le_refl _)))
        | (go_at_call 23; have g := X5; clear g; refine (same_true (X5.out.2.2.2.2) (P5.out.arg (bl10 HA.out)) (by decide)).mono ?_; rintro e y6 ⟨rfl, g6⟩; have X6 := hide (X5.out.keep g6); have Kx6 := hide (bafter Kx5.out g6 (Nat.le_refl _)))
        | (go_at_call 22; have g := X4; clear g; refine (mof_calls (neg := na) X4.out.1.2.1 X4.out.1.2.2).mono ?_; rintro e y5 ⟨v5, rfl, p5, g5⟩; obtain ⟨pn5, pa5, pL5, pc5, rfl⟩ := p5.form; have P5 := hide p5; have X5 := hide (X4.out.keep g5); have Kx5 := hide (bafter Kx4.out g5 (Nat.le_refl _)))
        | (go_at_call 23; have g := X3; clear g; refine (same_true X3.out.2.1.2 (X3.out.2.2.1.2.arg (sgn_lt10 Hn.out)) (by decide)).mono ?_; rintro e y4 ⟨rfl, g4⟩; have X4 := hide (X3.out.keep g4); have Kx4 := hide (bafter Kx3.out g4 (Nat.le_refl _)))
        | (go_at_call 46; have g := X2; clear g; refine (rntext_calls (P2.out.arg (bl10 HA.out)) (by decide)).mono ?_; rintro e y3 ⟨rfl, g3⟩; have X3 := hide (X2.out.keep g3); have Kx3 := hide (bafter Kx2.out g3 (Nat.le_refl _)))
        | (go_at_call 22; have g := X1; clear g; refine (mof_calls (neg := na) X1.out.1.2.1 X1.out.1.2.2).mono ?_; rintro e y2 ⟨v2, rfl, p2, g2⟩; obtain ⟨pn2, pa2, pL2, pc2, rfl⟩ := p2.form; have P2 := hide p2; have X2 := hide (X1.out.keep g2); have Kx2 := hide (bafter Kx1.out g2 (Nat.le_refl _)))
        | (go_at_call 21; have g := X0; clear g; refine (msigned_calls _ (tab_keep Ht.out Kx0.out)).mono ?_; rintro e y1 ⟨rfl, g1⟩; have X1 := hide (X0.out.keep g1); have Kx1 := hide (bafter Kx0.out g1 (Nat.le_refl _))))
    go_wp2
    go_ret
    exact ⟨rfl, Kx7.out⟩
  · have Hp := hide hp
    have Hq := hide hq
    skip
    skip
    clear hp hq
    go_wp2_with fail
    refine (Hp.out _).mono ?_
    rintro e w2 ⟨rfl, k2⟩
    have q2 := BRes.zero w2
    have o2 := bel w2 (.cells #[.bool false, .slice none 0 0] 24)
    have J2 := bthn k2 o2
    have A2 := hide (A1.out.keep J2)
    have N2 : Hid (BoxR (w2.alloc (.cells #[.bool false, .slice none 0 0] 24)) w2.heap.size _ _ _ _ _) := ⟨Two.new w2 _ _ _, q2.below o2⟩
    have K2 := hide (bafter K1.out J2 (Nat.le_refl _))
    clear A1 K1 k2 o2 J2 q2
    go_wp2_with fail
    refine (Hq.out _).mono ?_
    rintro e w3 ⟨rfl, k3⟩
    have q3 := NRes.zero w3
    have o3 := bel w3 (.cells #[.bool false, .slice none 0 0] 43)
    have J3 := bthn k3 o3
    have A3p := A2.out.keep k3
    have c0 := A3p.1.c0
    have c1 := A3p.1.c1
    have l0 : w.heap.size < w3.heap.size := A3p.1.lt'
    have A3 := hide (A2.out.keep J3)
    have N3 := hide (N2.out.keep J3)
    have M3 : Hid (BoxN (w3.alloc (.cells #[.bool false, .slice none 0 0] 43)) w3.heap.size _ _ _ _ _) := ⟨Two.new w3 _ _ _, q3.below o3⟩
    have K3 := hide (bafter K2.out J3 (Nat.le_refl _))
    clear A2 N2 K2 k3 o3 J3 q3 A3p
    go_wp2_with fail
    refine (btext_calls A3.out.arg (tab_keep Ht.out K3.out)).mono ?_
    rintro e w4 ⟨rfl, k4⟩
    have A4 := hide (A3.out.keep k4)
    have N4 := hide (N3.out.keep k4)
    have M4 := hide (M3.out.keep k4)
    have K4 := hide (bafter K3.out k4 (Nat.le_refl _))
    clear A3 N3 M3 K3 k4 c0 c1 l0
    go_wp2_with fail
    refine (bparse_text HA.out (by decide) (by decide) _).mono ?_
    rintro e w5 ⟨v5, rfl, q5, k5⟩
    obtain ⟨n5, a5, L5, c5, rfl⟩ := q5.form
    have o5 := bel w5 (.cells #[.bool n5, .slice a5 L5 c5] 24)
    have J5 := bthn k5 o5
    have X0 : Hid (Txt (w5.alloc (.cells #[.bool n5, .slice a5 L5 c5] 24)).drew _ _ _ _ _ _ _ _ _ _ _ _ _ _ _ _ _ _ _ _ _ _ _ _) := Txt.drew ⟨A4.out.keep J5, N4.out.keep J5, M4.out.keep J5, ⟨Two.new w5 _ _ _, q5.below o5⟩⟩
    have Kx0 := hide (bafter K4.out J5 (Nat.le_refl _)).drew
    have l5 : w3.heap.size < w5.heap.size := (M4.out.keep k5).1.lt'
    have l6 : w2.heap.size < w5.heap.size := (N4.out.keep k5).1.lt'
    have l7 : w.heap.size < w5.heap.size := (A4.out.keep k5).1.lt'
    have m0 := (A4.out.keep k5).1.c0
    have m1 := (A4.out.keep k5).1.c1
    have m2 := (N4.out.keep k5).1.c0
    have m3 := (N4.out.keep k5).1.c1
    have m4 := (M4.out.keep k5).1.c0
    have m5 := (M4.out.keep k5).1.c1
    clear A4 N4 M4 K4 k5 o5 J5 q5
    clear m0 m1 m2 m3 m4 m5 l5 l6 l7 Hp Hq
    go_wp2
    refine wp_region_held_drew (S := fun w' => w'.cell? ⟨w.heap.size, 0, none⟩ = some (.bool na) ∧ w'.cell? ⟨w.heap.size, 1, none⟩ = some (.slice aa La ca) ∧ w'.cell? ⟨w2.heap.size, 0, none⟩ = some (.bool false) ∧ w'.cell? ⟨w2.heap.size, 1, none⟩ = some (.slice none 0 0) ∧ w'.cell? ⟨w3.heap.size, 0, none⟩ = some (.bool false) ∧ w'.cell? ⟨w3.heap.size, 1, none⟩ = some (.slice none 0 0) ∧ w'.cell? ⟨w5.heap.size, 0, none⟩ = some (.bool n5) ∧ w'.cell? ⟨w5.heap.size, 1, none⟩ = some (.slice a5 L5 c5)) (by kernel_rfl) ?_ (fun hHeld => ?_)
    · exact X0.out.cells
    refine wpAnyH_ready (rs := [0]) (by kernel_rfl) (by simp) ?_
    refine AllReadyH.cons rfl (fun K hK => ?_) AllReadyH.nil
    go_simp
    refine (msigned_calls _ (tab_keep Ht.out Kx0.out)).mono ?_
    rintro e y1 ⟨rfl, g1⟩
    have X1 := hide (X0.out.keep g1)
    have Kx1 := hide (bafter Kx0.out g1 (Nat.le_refl _))
    clear g1 X0 Kx0 hHeld
    go_wp2_with fail
    refine hK.out _ _ ?_ (fun hHeld => ?_)
    · exact X1.out.cells
    clear hK K
    try simp only [Act.put, List.setIfInBounds_toArray, List.set_cons_zero, List.set_cons_succ]
    refine takeD (i := 1) (v := ?v1) (some 39) rfl (by kernel_rfl) (by kernel_rfl) (by kernel_rfl) (fun _ _ _ h => h) (Or.inl ⟨by rfl, ?hy1⟩) (by assumption) (by rfl) ?rest1
    case hy1 => first | (intro w hSw; (try dsimp only at hSw); go_simp; done) | (intro w hSw; (try dsimp only at hSw); go_simp; with_reducible rfl)
    try simp only [Act.put, List.setIfInBounds_toArray, List.set_cons_zero, List.set_cons_succ]
    refine takeD (i := 2) (v := ?v2) (some 40) rfl (by kernel_rfl) (by kernel_rfl) (by kernel_rfl) (fun _ _ _ h => h) (Or.inl ⟨by rfl, ?hy2⟩) (by assumption) (by rfl) ?rest2
    case hy2 => first | (intro w hSw; (try dsimp only at hSw); go_simp; done) | (intro w hSw; (try dsimp only at hSw); go_simp; with_reducible rfl)
    try simp only [Act.put, List.setIfInBounds_toArray, List.set_cons_zero, List.set_cons_succ]
    refine takeD (i := 3) (v := ?v3) (some 41) rfl (by kernel_rfl) (by kernel_rfl) (by kernel_rfl) (fun _ _ _ h => h) (Or.inl ⟨by rfl, ?hy3⟩) (by assumption) (by rfl) ?rest3
    case hy3 => first | (intro w hSw; (try dsimp only at hSw); go_simp; done) | (intro w hSw; (try dsimp only at hSw); go_simp; with_reducible rfl)
    try simp only [Act.put, List.setIfInBounds_toArray, List.set_cons_zero, List.set_cons_succ]
    refine wpAnyH_ready (rs := [4]) (by kernel_rfl) (by simp) ?_
    refine AllReadyH.cons rfl (fun K hK => ?_) AllReadyH.nil
    go_simp
    refine (mof_calls (neg := na) X1.out.1.2.1 X1.out.1.2.2).mono ?_
    rintro e y2 ⟨v2, rfl, p2, g2⟩
    obtain ⟨pn2, pa2, pL2, pc2, rfl⟩ := p2.form
    have P2 := hide p2
    clear p2
    have X2 := hide (X1.out.keep g2)
    have Kx2 := hide (bafter Kx1.out g2 (Nat.le_refl _))
    clear g2 X1 Kx1 hHeld
    go_wp2_with fail
    refine hK.out _ _ ?_ (fun hHeld => ?_)
    · exact X2.out.cells
    clear hK K
    try simp only [Act.put, List.setIfInBounds_toArray, List.set_cons_zero, List.set_cons_succ]
    refine wpAnyH_ready (rs := [5]) (by kernel_rfl) (by simp) ?_
    refine AllReadyH.cons rfl (fun K hK => ?_) AllReadyH.nil
    go_simp
    refine (rntext_calls (P2.out.arg (bl10 HA.out)) (by decide)).mono ?_
    rintro e y3 ⟨rfl, g3⟩
    have X3 := hide (X2.out.keep g3)
    have Kx3 := hide (bafter Kx2.out g3 (Nat.le_refl _))
    clear g3 X2 Kx2 hHeld
    go_wp2_with fail
    refine hK.out _ _ ?_ (fun hHeld => ?_)
    · exact X3.out.cells
    clear hK K
    try simp only [Act.put, List.setIfInBounds_toArray, List.set_cons_zero, List.set_cons_succ]
    refine takeD (i := 6) (v := ?v6) (some 44) rfl (by kernel_rfl) (by kernel_rfl) (by kernel_rfl) (fun _ _ _ h => h) (Or.inl ⟨by rfl, ?hy6⟩) (by assumption) (by rfl) ?rest6
    case hy6 => first | (intro w hSw; (try dsimp only at hSw); go_simp; done) | (intro w hSw; (try dsimp only at hSw); go_simp; with_reducible rfl)
    try simp only [Act.put, List.setIfInBounds_toArray, List.set_cons_zero, List.set_cons_succ]
    refine takeD (i := 7) (v := ?v7) (some 45) rfl (by kernel_rfl) (by kernel_rfl) (by kernel_rfl) (fun _ _ _ h => h) (Or.inl ⟨by rfl, ?hy7⟩) (by assumption) (by rfl) ?rest7
    case hy7 => first | (intro w hSw; (try dsimp only at hSw); go_simp; done) | (intro w hSw; (try dsimp only at hSw); go_simp; with_reducible rfl)
    try simp only [Act.put, List.setIfInBounds_toArray, List.set_cons_zero, List.set_cons_succ]
    refine takeD (i := 8) (v := ?v8) (some 46) rfl (by kernel_rfl) (by kernel_rfl) (by kernel_rfl) (fun _ _ _ h => h) (Or.inl ⟨by rfl, ?hy8⟩) (by assumption) (by rfl) ?rest8
    case hy8 => first | (intro w hSw; (try dsimp only at hSw); go_simp; done) | (intro w hSw; (try dsimp only at hSw); go_simp; with_reducible rfl)
    try simp only [Act.put, List.setIfInBounds_toArray, List.set_cons_zero, List.set_cons_succ]
    refine takeD (i := 9) (v := ?v9) (some 47) rfl (by kernel_rfl) (by kernel_rfl) (by kernel_rfl) (fun _ _ _ h => h) (Or.inl ⟨by rfl, ?hy9⟩) (by assumption) (by rfl) ?rest9
    case hy9 => first | (intro w hSw; (try dsimp only at hSw); go_simp; done) | (intro w hSw; (try dsimp only at hSw); go_simp; with_reducible rfl)
    try simp only [Act.put, List.setIfInBounds_toArray, List.set_cons_zero, List.set_cons_succ]
    refine takeD (i := 10) (v := ?v10) (some 48) rfl (by kernel_rfl) (by kernel_rfl) (by kernel_rfl) (fun _ _ _ h => h) (Or.inl ⟨by rfl, ?hy10⟩) (by assumption) (by rfl) ?rest10
    case hy10 => first | (intro w hSw; (try dsimp only at hSw); go_simp; done) | (intro w hSw; (try dsimp only at hSw); go_simp; with_reducible rfl)
    try simp only [Act.put, List.setIfInBounds_toArray, List.set_cons_zero, List.set_cons_succ]
    refine wpAnyH_ready (rs := [11]) (by kernel_rfl) (by simp) ?_
    refine AllReadyH.cons rfl (fun K hK => ?_) AllReadyH.nil
    go_simp
    refine (same_true X3.out.2.1.2 (X3.out.2.2.1.2.arg zero_lt10) (by decide)).mono ?_
    rintro e y4 ⟨rfl, g4⟩
    have X4 := hide (X3.out.keep g4)
    have Kx4 := hide (bafter Kx3.out g4 (Nat.le_refl _))
    clear g4 X3 Kx3 hHeld
    go_wp2_with fail
    refine hK.out _ _ ?_ (fun hHeld => ?_)
    · exact X4.out.cells
    clear hK K
    try simp only [Act.put, List.setIfInBounds_toArray, List.set_cons_zero, List.set_cons_succ]
    refine takeD (i := 12) (v := ?v12) (some 50) rfl (by kernel_rfl) (by kernel_rfl) (by kernel_rfl) (fun _ _ _ h => h) (Or.inl ⟨by rfl, ?hy12⟩) (by assumption) (by rfl) ?rest12
    case hy12 => first | (intro w hSw; (try dsimp only at hSw); go_simp; done) | (intro w hSw; (try dsimp only at hSw); go_simp; with_reducible rfl)
    try simp only [Act.put, List.setIfInBounds_toArray, List.set_cons_zero, List.set_cons_succ]
    refine takeD (i := 13) (v := ?v13) (some 51) rfl (by kernel_rfl) (by kernel_rfl) (by kernel_rfl) (fun _ _ _ h => h) (Or.inl ⟨by rfl, ?hy13⟩) (by assumption) (by rfl) ?rest13
    case hy13 => first | (intro w hSw; (try dsimp only at hSw); go_simp; done) | (intro w hSw; (try dsimp only at hSw); go_simp; with_reducible rfl)
    try simp only [Act.put, List.setIfInBounds_toArray, List.set_cons_zero, List.set_cons_succ]
    refine takeD (i := 14) (v := ?v14) (some 52) rfl (by kernel_rfl) (by kernel_rfl) (by kernel_rfl) (fun _ _ _ h => h) (Or.inl ⟨by rfl, ?hy14⟩) (by assumption) (by rfl) ?rest14
    case hy14 => first | (intro w hSw; (try dsimp only at hSw); go_simp; done) | (intro w hSw; (try dsimp only at hSw); go_simp; with_reducible rfl)
    try simp only [Act.put, List.setIfInBounds_toArray, List.set_cons_zero, List.set_cons_succ]
    refine takeD (i := 15) (v := ?v15) (some 53) rfl (by kernel_rfl) (by kernel_rfl) (by kernel_rfl) (fun _ _ _ h => h) (Or.inl ⟨by rfl, ?hy15⟩) (by assumption) (by rfl) ?rest15
    case hy15 => first | (intro w hSw; (try dsimp only at hSw); go_simp; done) | (intro w hSw; (try dsimp only at hSw); go_simp; with_reducible rfl)
    try simp only [Act.put, List.setIfInBounds_toArray, List.set_cons_zero, List.set_cons_succ]
    refine takeD (i := 16) (v := ?v16) (some 54) rfl (by kernel_rfl) (by kernel_rfl) (by kernel_rfl) (fun _ _ _ h => h) (Or.inl ⟨by rfl, ?hy16⟩) (by assumption) (by rfl) ?rest16
    case hy16 => first | (intro w hSw; (try dsimp only at hSw); go_simp; done) | (intro w hSw; (try dsimp only at hSw); go_simp; with_reducible rfl)
    try simp only [Act.put, List.setIfInBounds_toArray, List.set_cons_zero, List.set_cons_succ]
    refine takeD (i := 17) (v := ?v17) (some 55) rfl (by kernel_rfl) (by kernel_rfl) (by kernel_rfl) (fun _ _ _ h => h) (Or.inl ⟨by rfl, ?hy17⟩) (by assumption) (by rfl) ?rest17
    case hy17 => first | (intro w hSw; (try dsimp only at hSw); go_simp; done) | (intro w hSw; (try dsimp only at hSw); go_simp; with_reducible rfl)
    try simp only [Act.put, List.setIfInBounds_toArray, List.set_cons_zero, List.set_cons_succ]
    refine takeD (i := 18) (v := ?v18) (some 56) rfl (by kernel_rfl) (by kernel_rfl) (by kernel_rfl) (fun _ _ _ h => h) (Or.inl ⟨by rfl, ?hy18⟩) (by assumption) (by rfl) ?rest18
    case hy18 => first | (intro w hSw; (try dsimp only at hSw); go_simp; done) | (intro w hSw; (try dsimp only at hSw); go_simp; with_reducible rfl)
    try simp only [Act.put, List.setIfInBounds_toArray, List.set_cons_zero, List.set_cons_succ]
    refine takeD (i := 19) (v := ?v19) (some 57) rfl (by kernel_rfl) (by kernel_rfl) (by kernel_rfl) (fun _ _ _ h => h) (Or.inl ⟨by rfl, ?hy19⟩) (by assumption) (by rfl) ?rest19
    case hy19 => first | (intro w hSw; (try dsimp only at hSw); go_simp; done) | (intro w hSw; (try dsimp only at hSw); go_simp; with_reducible rfl)
    try simp only [Act.put, List.setIfInBounds_toArray, List.set_cons_zero, List.set_cons_succ]
    refine takeD (i := 20) (v := ?v20) (some 58) rfl (by kernel_rfl) (by kernel_rfl) (by kernel_rfl) (fun _ _ _ h => h) (Or.inl ⟨by rfl, ?hy20⟩) (by assumption) (by rfl) ?rest20
    case hy20 => first | (intro w hSw; (try dsimp only at hSw); go_simp; done) | (intro w hSw; (try dsimp only at hSw); go_simp; with_reducible rfl)
    try simp only [Act.put, List.setIfInBounds_toArray, List.set_cons_zero, List.set_cons_succ]
    refine takeD (i := 21) (v := ?v21) (some 59) rfl (by kernel_rfl) (by kernel_rfl) (by kernel_rfl) (fun _ _ _ h => h) (Or.inl ⟨by rfl, ?hy21⟩) (by assumption) (by rfl) ?rest21
    case hy21 => first | (intro w hSw; (try dsimp only at hSw); go_simp; done) | (intro w hSw; (try dsimp only at hSw); go_simp; with_reducible rfl)
    try simp only [Act.put, List.setIfInBounds_toArray, List.set_cons_zero, List.set_cons_succ]
    refine takeD (i := 22) (v := ?v22) (some 60) rfl (by kernel_rfl) (by kernel_rfl) (by kernel_rfl) (fun _ _ _ h => h) (Or.inl ⟨by rfl, ?hy22⟩) (by assumption) (by rfl) ?rest22
    case hy22 => first | (intro w hSw; (try dsimp only at hSw); go_simp; done) | (intro w hSw; (try dsimp only at hSw); go_simp; with_reducible rfl)
    try simp only [Act.put, List.setIfInBounds_toArray, List.set_cons_zero, List.set_cons_succ]
    refine takeD (i := 23) (v := ?v23) (some 61) rfl (by kernel_rfl) (by kernel_rfl) (by kernel_rfl) (fun _ _ _ h => h) (Or.inl ⟨by rfl, ?hy23⟩) (by assumption) (by rfl) ?rest23
    case hy23 => first | (intro w hSw; (try dsimp only at hSw); go_simp; done) | (intro w hSw; (try dsimp only at hSw); go_simp; with_reducible rfl)
    try simp only [Act.put, List.setIfInBounds_toArray, List.set_cons_zero, List.set_cons_succ]
    refine takeD (i := 24) (v := ?v24) (some 62) rfl (by kernel_rfl) (by kernel_rfl) (by kernel_rfl) (fun _ _ _ h => h) (Or.inl ⟨by rfl, ?hy24⟩) (by assumption) (by rfl) ?rest24
    case hy24 => first | (intro w hSw; (try dsimp only at hSw); go_simp; done) | (intro w hSw; (try dsimp only at hSw); go_simp; with_reducible rfl)
    try simp only [Act.put, List.setIfInBounds_toArray, List.set_cons_zero, List.set_cons_succ]
    refine wpAnyH_ready (rs := [25]) (by kernel_rfl) (by simp) ?_
    refine AllReadyH.cons rfl (fun K hK => ?_) AllReadyH.nil
    go_simp
    refine (mof_calls (neg := na) X4.out.1.2.1 X4.out.1.2.2).mono ?_
    rintro e y5 ⟨v5, rfl, p5, g5⟩
    obtain ⟨pn5, pa5, pL5, pc5, rfl⟩ := p5.form
    have P5 := hide p5
    clear p5
    have X5 := hide (X4.out.keep g5)
    have Kx5 := hide (bafter Kx4.out g5 (Nat.le_refl _))
    clear g5 X4 Kx4 hHeld
    go_wp2_with fail
    refine hK.out _ _ ?_ (fun hHeld => ?_)
    · exact X5.out.cells
    clear hK K
    try simp only [Act.put, List.setIfInBounds_toArray, List.set_cons_zero, List.set_cons_succ]
    refine wpAnyH_ready (rs := [26]) (by kernel_rfl) (by simp) ?_
    refine AllReadyH.cons rfl (fun K hK => ?_) AllReadyH.nil
    go_simp
    refine (same_true (X5.out.2.2.2.2) (P5.out.arg (bl10 HA.out)) (by decide)).mono ?_
    rintro e y6 ⟨rfl, g6⟩
    have X6 := hide (X5.out.keep g6)
    have Kx6 := hide (bafter Kx5.out g6 (Nat.le_refl _))
    clear g6 X5 Kx5 hHeld
    go_wp2_with fail
    refine hK.out _ _ ?_ (fun hHeld => ?_)
    · exact X6.out.cells
    clear hK K
    try simp only [Act.put, List.setIfInBounds_toArray, List.set_cons_zero, List.set_cons_succ]
    refine takeD (i := 27) (v := ?v27) (some 65) rfl (by kernel_rfl) (by kernel_rfl) (by kernel_rfl) (fun _ _ _ h => h) (Or.inl ⟨by rfl, ?hy27⟩) (by assumption) (by rfl) ?rest27
    case hy27 => first | (intro w hSw; (try dsimp only at hSw); go_simp; done) | (intro w hSw; (try dsimp only at hSw); go_simp; with_reducible rfl)
    try simp only [Act.put, List.setIfInBounds_toArray, List.set_cons_zero, List.set_cons_succ]
    refine takeD (i := 28) (v := ?v28) (some 66) rfl (by kernel_rfl) (by kernel_rfl) (by kernel_rfl) (fun _ _ _ h => h) (Or.inl ⟨by rfl, ?hy28⟩) (by assumption) (by rfl) ?rest28
    case hy28 => first | (intro w hSw; (try dsimp only at hSw); go_simp; done) | (intro w hSw; (try dsimp only at hSw); go_simp; with_reducible rfl)
    try simp only [Act.put, List.setIfInBounds_toArray, List.set_cons_zero, List.set_cons_succ]
    refine takeD (i := 29) (v := ?v29) (some 67) rfl (by kernel_rfl) (by kernel_rfl) (by kernel_rfl) (fun _ _ _ h => h) (Or.inl ⟨by rfl, ?hy29⟩) (by assumption) (by rfl) ?rest29
    case hy29 => first | (intro w hSw; (try dsimp only at hSw); go_simp; done) | (intro w hSw; (try dsimp only at hSw); go_simp; with_reducible rfl)
    try simp only [Act.put, List.setIfInBounds_toArray, List.set_cons_zero, List.set_cons_succ]
    refine takeD (i := 30) (v := ?v30) (some 68) rfl (by kernel_rfl) (by kernel_rfl) (by kernel_rfl) (fun _ _ _ h => h) (Or.inl ⟨by rfl, ?hy30⟩) (by assumption) (by rfl) ?rest30
    case hy30 => first | (intro w hSw; (try dsimp only at hSw); go_simp; done) | (intro w hSw; (try dsimp only at hSw); go_simp; with_reducible rfl)
    try simp only [Act.put, List.setIfInBounds_toArray, List.set_cons_zero, List.set_cons_succ]
    refine takeD (i := 31) (v := ?v31) (some 69) rfl (by kernel_rfl) (by kernel_rfl) (by kernel_rfl) (fun _ _ _ h => h) (Or.inl ⟨by rfl, ?hy31⟩) (by assumption) (by rfl) ?rest31
    case hy31 => first | (intro w hSw; (try dsimp only at hSw); go_simp; done) | (intro w hSw; (try dsimp only at hSw); go_simp; with_reducible rfl)
    try simp only [Act.put, List.setIfInBounds_toArray, List.set_cons_zero, List.set_cons_succ]
    refine takeD (i := 32) (v := undef) (some 70) rfl (by kernel_rfl) (by kernel_rfl) (by kernel_rfl) (fun _ _ _ h => h) (Or.inr ⟨by rfl, rfl⟩) (by assumption) (by rfl) ?rest32
    try simp only [Act.put, List.setIfInBounds_toArray, List.set_cons_zero, List.set_cons_succ]
    refine takeD (i := 33) (v := undef) (some 71) rfl (by kernel_rfl) (by kernel_rfl) (by kernel_rfl) (fun _ _ _ h => h) (Or.inr ⟨by rfl, rfl⟩) (by assumption) (by rfl) ?rest33
    try simp only [Act.put, List.setIfInBounds_toArray, List.set_cons_zero, List.set_cons_succ]
    refine takeD (i := 34) (v := undef) (some 72) rfl (by kernel_rfl) (by kernel_rfl) (by kernel_rfl) (fun _ _ _ h => h) (Or.inr ⟨by rfl, rfl⟩) (by assumption) (by rfl) ?rest34
    try simp only [Act.put, List.setIfInBounds_toArray, List.set_cons_zero, List.set_cons_succ]
    refine takeD (i := 35) (v := undef) (some 73) rfl (by kernel_rfl) (by kernel_rfl) (by kernel_rfl) (fun _ _ _ h => h) (Or.inr ⟨by rfl, rfl⟩) (by assumption) (by rfl) ?rest35
    try simp only [Act.put, List.setIfInBounds_toArray, List.set_cons_zero, List.set_cons_succ]
    refine takeD (i := 36) (v := ?v36) (some 74) rfl (by kernel_rfl) (by kernel_rfl) (by kernel_rfl) (fun _ _ _ h => h) (Or.inl ⟨by rfl, ?hy36⟩) (by assumption) (by rfl) ?rest36
    case hy36 => first | (intro w hSw; (try dsimp only at hSw); go_simp; done) | (intro w hSw; (try dsimp only at hSw); go_simp; with_reducible rfl)
    try simp only [Act.put, List.setIfInBounds_toArray, List.set_cons_zero, List.set_cons_succ]
    refine takeD (i := 37) (v := ?v37) (some 75) rfl (by kernel_rfl) (by kernel_rfl) (by kernel_rfl) (fun _ _ _ h => h) (Or.inl ⟨by rfl, ?hy37⟩) (by assumption) (by rfl) ?rest37
    case hy37 => first | (intro w hSw; (try dsimp only at hSw); go_simp; done) | (intro w hSw; (try dsimp only at hSw); go_simp; with_reducible rfl)
    try simp only [Act.put, List.setIfInBounds_toArray, List.set_cons_zero, List.set_cons_succ]
    refine takeD (i := 38) (v := ?v38) (some 4) rfl (by kernel_rfl) (by kernel_rfl) (by kernel_rfl) (fun _ _ _ h => h) (Or.inl ⟨by rfl, ?hy38⟩) (by assumption) (by rfl) ?rest38
    case hy38 => first | (intro w hSw; (try dsimp only at hSw); go_simp; done) | (intro w hSw; (try dsimp only at hSw); go_simp; with_reducible rfl)
    try simp only [Act.put, List.setIfInBounds_toArray, List.set_cons_zero, List.set_cons_succ]
    refine wpAnyH_done (by kernel_rfl) ?_ _
    go_wp2
    go_ret
    exact ⟨rfl, Kx6.out⟩

end Go.Proofs.YtpenhmkodakpaaaDoor
