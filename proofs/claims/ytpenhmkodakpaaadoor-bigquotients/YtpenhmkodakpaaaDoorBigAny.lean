/- Quotients, whatever the divisor; numbers in blocks that are kept. -/
import Derived.Test.YtpenhmkodakpaaaDoorBigLaw2
import Derived.Test.YtpenhmkodakpaaaDoorBigRef5
namespace Go.Proofs.YtpenhmkodakpaaaDoor
set_option linter.unusedVariables false
set_option linter.unusedSimpArgs false
set_option maxRecDepth 100000
open Go Go.RowKit Go.Shelf Go.Lib

/-- The rest, and the number of the error. -/
def divR (x y : Int) : Int := if y = 0 then 0 else x % y
def divE (y : Int) : Int := if y = 0 then 4 else 0
theorem divR_lt {x y : Int} {B k : Nat} (h : y.natAbs < B ^ k) (hB : 0 < B) : (divR x y).natAbs < B ^ k := by
  unfold divR
  split
  · exact Nat.pow_pos hB
  · rename_i h0
    refine Nat.lt_trans ?_ h
    have h1 := Int.emod_nonneg x h0
    have h2 := Int.emod_lt x h0
    omega
theorem floor_any {x y : Int} (h : y = 0) : floorZ x y = 0 := by
  subst h
  unfold floorZ
  rw [if_neg (fun k => by omega), Int.ediv_zero]
theorem ceil_any {x y : Int} (h : y = 0) : ceilZ x y = 0 := by
  subst h
  unfold ceilZ
  rw [if_neg (fun k => by omega), Int.ediv_zero]
theorem bres_zero (W : World) : BRes W (.agg #[.bool false, .slice none 0 0]) 0 := ⟨_, rfl, Res.nil W⟩
theorem nres_zero (W : World) : NRes W (.agg #[.bool false, .slice none 0 0]) 0 := ⟨_, rfl, RRes.nil W⟩

theorem bdiv_any {w : World} {u v : Value} {x y : Int} (hu : BArg w u x) (hv : BArg w v y) :
    Calls Tryd.prog 19 #[u, v] w fun e w' => ∃ q r, e = .returned (.tuple #[q, r, .int .i64 (divE y)]) ∧ BRes w' q (x / y) ∧ BRes w' r (divR x y) ∧ Below w.heap.size w w' := by
  by_cases h : y = 0
  · refine (bdiv_zero hu hv h).mono ?_
    rintro e w' ⟨rfl, hb⟩
    refine ⟨.agg #[.bool false, .slice none 0 0], .agg #[.bool false, .slice none 0 0], ?_, ?_, ?_, hb⟩
    · unfold divE; rw [if_pos h]
    · rw [h, Int.ediv_zero]; exact bres_zero _
    · unfold divR; rw [if_pos h]; exact bres_zero _
  · refine (bdiv_calls hu hv h).mono ?_
    rintro e w' ⟨q, r, rfl, h1, h2, hb⟩
    refine ⟨q, r, ?_, h1, ?_, hb⟩
    · unfold divE; rw [if_neg h]
    · unfold divR; rw [if_neg h]; exact h2
theorem rndiv_any {K : Nat} {w : World} {u v : Value} {x y : Int} (hu : NArg K w u x) (hv : NArg K w v y) (hK : K ≤ 300) :
    Calls Tryd.prog 38 #[u, v] w fun e w' => ∃ q r, e = .returned (.tuple #[q, r, .int .i64 (divE y)]) ∧ NRes w' q (x / y) ∧ NRes w' r (divR x y) ∧ Below w.heap.size w w' := by
  by_cases h : y = 0
  · refine (rndiv_zero hu hv (by omega) h).mono ?_
    rintro e w' ⟨rfl, hb⟩
    refine ⟨.agg #[.bool false, .slice none 0 0], .agg #[.bool false, .slice none 0 0], ?_, ?_, ?_, hb⟩
    · unfold divE; rw [if_pos h]
    · rw [h, Int.ediv_zero]; exact nres_zero _
    · unfold divR; rw [if_pos h]; exact nres_zero _
  · refine (rndiv_calls hu hv (by omega) h).mono ?_
    rintro e w' ⟨q, r, rfl, h1, h2, hb⟩
    refine ⟨q, r, ?_, h1, ?_, hb⟩
    · unfold divE; rw [if_neg h]
    · unfold divR; rw [if_neg h]; exact h2
theorem bfloor_any {w : World} {u v : Value} {x y : Int} {k : Nat} (hu : BArg w u x) (hv : BArg w v y) (hbx : x.natAbs < R ^ k) (hby : y.natAbs < R ^ k) (hk : k ≤ 1000) :
    Calls Tryd.prog 39 #[u, v] w fun e w' => ∃ q, e = .returned (.tuple #[q, .int .i64 (divE y)]) ∧ BRes w' q (floorZ x y) ∧ Below w.heap.size w w' := by
  by_cases h : y = 0
  · refine (bfloor_zero hu hv h).mono ?_
    rintro e w' ⟨rfl, hb⟩
    refine ⟨.agg #[.bool false, .slice none 0 0], ?_, ?_, hb⟩
    · unfold divE; rw [if_pos h]
    · rw [floor_any h]; exact bres_zero _
  · refine (floor_calls hu hv h hbx hby hk).mono ?_
    rintro e w' ⟨q, rfl, h1, hb⟩
    refine ⟨q, ?_, h1, hb⟩
    unfold divE; rw [if_neg h]
theorem rnfloor_any {K : Nat} {w : World} {u v : Value} {x y : Int} (hu : NArg K w u x) (hv : NArg K w v y) (hK : K ≤ 300) :
    Calls Tryd.prog 40 #[u, v] w fun e w' => ∃ q, e = .returned (.tuple #[q, .int .i64 (divE y)]) ∧ NRes w' q (floorZ x y) ∧ Below w.heap.size w w' := by
  by_cases h : y = 0
  · refine (rnfloor_zero hu hv (by omega) h).mono ?_
    rintro e w' ⟨rfl, hb⟩
    refine ⟨.agg #[.bool false, .slice none 0 0], ?_, ?_, hb⟩
    · unfold divE; rw [if_pos h]
    · rw [floor_any h]; exact nres_zero _
  · refine (rnfloor_calls hu hv h hK).mono ?_
    rintro e w' ⟨q, rfl, h1, hb⟩
    refine ⟨q, ?_, h1, hb⟩
    unfold divE; rw [if_neg h]
theorem bceil_any {w : World} {u v : Value} {x y : Int} {k : Nat} (hu : BArg w u x) (hv : BArg w v y) (hbx : x.natAbs < R ^ k) (hby : y.natAbs < R ^ k) (hk : k ≤ 1000) :
    Calls Tryd.prog 41 #[u, v] w fun e w' => ∃ q, e = .returned (.tuple #[q, .int .i64 (divE y)]) ∧ BRes w' q (ceilZ x y) ∧ Below w.heap.size w w' := by
  by_cases h : y = 0
  · refine (bceil_zero hu hv h).mono ?_
    rintro e w' ⟨rfl, hb⟩
    refine ⟨.agg #[.bool false, .slice none 0 0], ?_, ?_, hb⟩
    · unfold divE; rw [if_pos h]
    · rw [ceil_any h]; exact bres_zero _
  · refine (ceil_calls hu hv h hbx hby hk).mono ?_
    rintro e w' ⟨q, rfl, h1, hb⟩
    refine ⟨q, ?_, h1, hb⟩
    unfold divE; rw [if_neg h]
theorem rnceil_any {K : Nat} {w : World} {u v : Value} {x y : Int} (hu : NArg K w u x) (hv : NArg K w v y) (hK : K ≤ 300) :
    Calls Tryd.prog 42 #[u, v] w fun e w' => ∃ q, e = .returned (.tuple #[q, .int .i64 (divE y)]) ∧ NRes w' q (ceilZ x y) ∧ Below w.heap.size w w' := by
  by_cases h : y = 0
  · refine (rnceil_zero hu hv (by omega) h).mono ?_
    rintro e w' ⟨rfl, hb⟩
    refine ⟨.agg #[.bool false, .slice none 0 0], ?_, ?_, hb⟩
    · unfold divE; rw [if_pos h]
    · rw [ceil_any h]; exact nres_zero _
  · refine (rnceil_calls hu hv h hK).mono ?_
    rintro e w' ⟨q, rfl, h1, hb⟩
    refine ⟨q, ?_, h1, hb⟩
    unfold divE; rw [if_neg h]

theorem floor10 {x y : Int} (h : x.natAbs < R ^ 8) : (floorZ x y).natAbs < 10 ^ 100 := by
  refine Nat.lt_of_lt_of_le (?_ : _ < R ^ 10) (pow_R_le 10)
  unfold floorZ
  split
  · exact bl_sub (quo_bound h) (lt_up one_R (by omega))
  · exact lt_up (quo_bound h) (by omega)
theorem ceil10 {x y : Int} (h : x.natAbs < R ^ 8) : (ceilZ x y).natAbs < 10 ^ 100 := by
  refine Nat.lt_of_lt_of_le (?_ : _ < R ^ 10) (pow_R_le 10)
  unfold ceilZ
  split
  · exact bl_add (quo_bound h) (lt_up one_R (by omega))
  · exact lt_up (quo_bound h) (by omega)

/-- A number that was answered, in a block. -/
def BoxR (W : World) (b : Nat) (n : Bool) (a : Option Addr) (L c : Nat) (z : Int) : Prop := Two W b (.bool n) (.slice a L c) 24 ∧ BRes W (.agg #[.bool n, .slice a L c]) z
theorem BoxR.keep {W W' : World} {b : Nat} {n : Bool} {a : Option Addr} {L c : Nat} {z : Int} (h : BoxR W b n a L c z) (hb : Below W.heap.size W W') : BoxR W' b n a L c z := ⟨h.1.keep hb, h.2.below hb⟩

/-- Numbers that are kept: those answered, and the reference's. -/
def Bag (W : World) : List (Bool × Nat × Bool × Option Addr × Nat × Nat × Int) → Prop
  | [] => True
  | (true, b, n, a, L, c, z) :: t => BoxR W b n a L c z ∧ Bag W t
  | (false, b, n, a, L, c, z) :: t => BoxN W b n a L c z ∧ Bag W t
theorem Bag.keep {W W' : World} (hb : Below W.heap.size W W') : ∀ {l : List (Bool × Nat × Bool × Option Addr × Nat × Nat × Int)}, Bag W l → Bag W' l
  | [], _ => trivial
  | (true, _, _, _, _, _, _) :: _, h => ⟨h.1.keep hb, Bag.keep hb h.2⟩
  | (false, _, _, _, _, _, _) :: _, h => ⟨h.1.keep hb, Bag.keep hb h.2⟩

theorem q2_meet {w W : World} {k b5 b6 bA bB : Nat} {n5 n6 nA nB : Bool} {a5 a6 aA aB : Option Addr} {L5 k5 L6 k6 LA cA LB cB : Nat} {x y E : Int} {xs ys : List Nat} {l : List (Bool × Nat × Bool × Option Addr × Nat × Nat × Int)} (h : BoxN W b5 n5 a5 L5 k5 x ∧ BoxN W b6 n6 a6 L6 k6 y ∧ b5 ≠ b6) (ha : BoxL W bA nA aA LA cA xs) (hb : BoxL W bB nB aB LB cB ys) (hg : Bag W l) (hk : Below k w W) :
    ∃ b5' n5 a5 L5 k5 b6' n6 a6 L6 k6, Value.pointer (some ⟨b5, 0, none⟩) = .pointer (some ⟨b5', 0, none⟩) ∧ Value.pointer (some ⟨b6, 0, none⟩) = .pointer (some ⟨b6', 0, none⟩) ∧ Value.int .i64 E = .int .i64 E ∧ BoxN W b5' n5 a5 L5 k5 x ∧ BoxN W b6' n6 a6 L6 k6 y ∧ BoxL W bA nA aA LA cA xs ∧ BoxL W bB nB aB LB cB ys ∧ Bag W l ∧ Below k w W :=
  ⟨_, _, _, _, _, _, _, _, _, _, rfl, rfl, rfl, h.1, h.2.1, ha, hb, hg, hk⟩
theorem q1_meet {w W : World} {k b5 bA bB : Nat} {n5 nA nB : Bool} {a5 aA aB : Option Addr} {L5 k5 LA cA LB cB : Nat} {x E : Int} {xs ys : List Nat} {l : List (Bool × Nat × Bool × Option Addr × Nat × Nat × Int)} (h : BoxN W b5 n5 a5 L5 k5 x) (ha : BoxL W bA nA aA LA cA xs) (hb : BoxL W bB nB aB LB cB ys) (hg : Bag W l) (hk : Below k w W) :
    ∃ b5' n5 a5 L5 k5, Value.pointer (some ⟨b5, 0, none⟩) = .pointer (some ⟨b5', 0, none⟩) ∧ Value.int .i64 E = .int .i64 E ∧ BoxN W b5' n5 a5 L5 k5 x ∧ BoxL W bA nA aA LA cA xs ∧ BoxL W bB nB aB LB cB ys ∧ Bag W l ∧ Below k w W :=
  ⟨_, _, _, _, _, rfl, rfl, h, ha, hb, hg, hk⟩
theorem ntip1 {W : World} {n : Bool} {a : Option Addr} {L c : Nat} {z : Int} (X : NRes W (.agg #[.bool n, .slice a L c]) z) : BoxN (W.alloc (.cells #[.bool n, .slice a L c] 43)) W.heap.size n a L c z :=
  ⟨Two.new _ _ _ _, X.alloc _⟩
theorem ntip2 {W : World} {n : Bool} {a : Option Addr} {L c : Nat} {z : Int} (X : NRes W (.agg #[.bool n, .slice a L c]) z) {g : Nat} (T : Two W g (.bool false) (.slice none 0 0) 43) : BoxN ((W.setCell ⟨g, 0, none⟩ (.bool n)).setCell ⟨g, 1, none⟩ (.slice a L c)) g n a L c z :=
  ⟨T.put _ _, X.put T _ _⟩

end Go.Proofs.YtpenhmkodakpaaaDoor
