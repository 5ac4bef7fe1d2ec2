/- From a row's own conditions to what the walks ask: a slice that came in is limbs; the table of powers of ten; numbers as arguments and as answers. -/
import Derived.Test.YtkdhcpfmlelfcaaDoorText2
import Derived.Test.YtkdhcpfmlelfcaaDoorAdd
import Derived.Test.YtkdhcpfmlelfcaaDoorMul
import Derived.Test.YtkdhcpfmlelfcaaDoorWords
import Derived.Test.YtkdhcpfmlelfcaaDoorBText
import Derived.Test.YtkdhcpfmlelfcaaDoorRows
import Derived.ProofKit
import Derived.OpenShut
import Derived.ChangeOld
import Derived.SizedLaws
import Derived.Lay
import Derived.MakeChecks
import Derived.Lib.LaidTab
namespace Go.Proofs.YtkdhcpfmlelfcaaDoor
set_option linter.unusedVariables false
set_option linter.unusedSimpArgs false
set_option maxRecDepth 100000
open Go Go.RowKit Go.Shelf Go.Lib Go.ChangeShapes Go.WideShapes

theorem own : ownKnob Tryd.prog.godebug = none := by kernel_rfl
theorem laidOut : laidOutB Tryd.prog = true := by kernel_rfl
theorem bytesU32 : Tryd.prog.bytesOf 53 = 4 := by kernel_rfl
theorem cellsU32 : Tryd.prog.cellsOf 53 = 1 := by kernel_rfl
theorem cellsU64 : Tryd.prog.cellsOf 56 = 1 := by kernel_rfl
theorem cellsPow : Tryd.prog.cellsOf 130 = 20 := by kernel_rfl
theorem globPow : Tryd.prog.globalNamed "internal/strconv.uint64pow10" = some 0 := by kernel_rfl
theorem typePow : (Tryd.prog.globals[0]?).map (·.type) = some 130 := by kernel_rfl

/-- What the rows list of the variables. -/
def laid3 : List (String × DataW Unit) := [("math/bits.deBruijn32tab", Rows.laid_math_bits_deBruijn32tab), ("math/bits.deBruijn64tab", Rows.laid_math_bits_deBruijn64tab), ("internal/strconv.uint64pow10", Rows.laid_internal_strconv_uint64pow10)]

theorem laidPow : (Rows.laid_internal_strconv_uint64pow10 : DataW Unit) = tabData .u64 pow10Tab := by rfl

theorem tab_of_laid {W : World} (h : laidMetH Tryd.prog laid3 W) : TabIs Tryd.prog W "internal/strconv.uint64pow10" .u64 pow10Tab := by
  rw [MakeChecks.laidMetH_plain _ _ _ (by kernel_rfl)] at h
  obtain ⟨ps, ⟨g0, t0, cs0, f0, p0, q0, hg0, ht0, hv0, hd0, ⟨g1, t1, cs1, f1, p1, q1, hg1, ht1, hv1, hd1, ⟨g2, t2, cs2, f2, p2, q2, hg2, ht2, hv2, hd2, _, _⟩, _⟩, _⟩, _⟩ := h
  obtain rfl := Option.some.inj (globPow.symm.trans hg2)
  obtain rfl := Option.some.inj (typePow.symm.trans ht2)
  unfold TabIs
  rw [laidPow] at hd2
  rw [hv2, ← cells_of_tab Tryd.underlying130 Tryd.underlying56 cellsU64 cellsPow hd2]

/-- A slice that came in is limbs. -/
theorem limbs_in {H : Type} {enc : TypeId × Value → H} {W : World} {base : Nat} {v : Value} {d : DataW H} {ps : List MemPlace}
    (hval : Value.okWide Tryd.prog W .any base 22 v) (h : DataW.Trod enc Tryd.prog W 0 (fun _ => true) true 22 v d ps)
    (hsz : ∀ elems spare, d = .slice elems spare → (elems.length + spare.length) * 4 ≤ reachBytes) : ∃ xs, Limbs W v xs := by
  obtain ⟨a0, len0, cap0, rfl⟩ := okWide_slice Tryd.underlying22 hval
  obtain ⟨fuel, hf⟩ := h
  rcases open_ints Tryd.underlying22 Tryd.underlying53 cellsU32 hf with ⟨hcs, _⟩ | ⟨x, l, c, zs, hcs, _, hl, hm, hz, hx, hcell, hwz⟩
  · simp [Value.cells] at hcs
    obtain ⟨rfl, rfl, rfl⟩ := hcs
    exact ⟨[], Limbs.nil W⟩
  · simp [Value.cells] at hcs
    obtain ⟨rfl, rfl, rfl⟩ := hcs
    simp only [if_true] at hz
    have hx1 : d = .slice (lits .u32 (zs.take len0)) (lits .u32 (zs.drop len0)) := congrArg Prod.fst hx
    have hb := hsz _ _ hx1
    simp only [lits, List.length_map, List.length_take, List.length_drop] at hb
    have hr := reachBytes_lt
    have hl0 : ((zs.take len0).map Int.toNat).length = len0 := by simp; omega
    have hw : ∀ n ∈ zs, 0 ≤ n ∧ n < 4294967296 := fun n hn => by
      have := hwz n hn
      simp [Lit.wf, IntKind.min, IntKind.max, IntKind.signed, IntKind.bits] at this
      omega
    refine ⟨(zs.take len0).map Int.toNat, some x, cap0, by rw [hl0], by rw [hl0]; exact hl, by omega, ?_, fun j hj => ?_⟩
    · intro y hy
      obtain ⟨n, hn, rfl⟩ := List.mem_map.1 hy
      have := hw n (List.mem_of_mem_take hn)
      rw [R_eq]
      omega
    · rw [hl0] at hj
      have hc := hcell j (by omega)
      have hc0 := hcell 0 (by omega)
      obtain ⟨b, off, spot⟩ := x
      have hspot : spot = none := by simpa [Addr.add] using World.cell?_spot hc0
      subst hspot
      have ha : (⟨b, off, none⟩ : Addr).add j = ⟨b, off + j, none⟩ := by
        unfold Addr.add
        split
        · rename_i h0; simp [h0]
        · rfl
      rw [ha] at hc
      refine ⟨b, off, rfl, ?_⟩
      have hjz : j < zs.length := by omega
      have hmem := hw zs[j] (List.getElem_mem hjz)
      have e1 : nth ((zs.take len0).map Int.toNat) j = (zs[j]).toNat := by
        rw [nth_eq (by simp; omega)]
        simp
      rw [e1, Int.toNat_of_nonneg hmem.1]
      simpa [List.getD, hjz] using hc

/-- A number as an argument: limbs, not too many. -/
def Arg (W : World) (v : Value) (n : Nat) : Prop := ∃ xs, Limbs W v xs ∧ xs.length ≤ 1048576 ∧ val R xs = n
/-- A number as an answer: limbs in their one form. -/
def Res (W : World) (v : Value) (n : Nat) : Prop := ∃ xs, Limbs W v xs ∧ Canon R xs ∧ val R xs = n

theorem Arg.below {W W' : World} {v : Value} {n : Nat} (h : Arg W v n) (hb : Below W.heap.size W W') : Arg W' v n := by
  obtain ⟨xs, h1, h2⟩ := h
  exact ⟨xs, h1.below hb, h2⟩
theorem Res.below {W W' : World} {v : Value} {n : Nat} (h : Res W v n) (hb : Below W.heap.size W W') : Res W' v n := by
  obtain ⟨xs, h1, h2⟩ := h
  exact ⟨xs, h1.below hb, h2⟩

theorem canon_len_pow {xs : List Nat} (hc : Canon R xs) {k : Nat} (h : val R xs < R ^ k) : xs.length ≤ k := by
  induction k generalizing xs with
  | zero =>
    rw [Nat.pow_zero] at h
    rw [hc.val_zero R_pos (by omega)]
    simp
  | succ k ih =>
    cases xs with
    | nil => simp
    | cons x r =>
      have : val R r < R ^ k := by
        rw [val_cons, Nat.pow_succ] at h
        have h2 : R * val R r < R * R ^ k := by rw [Nat.mul_comm R (R ^ k)]; omega
        exact Nat.lt_of_mul_lt_mul_left h2
      have := ih hc.tail this
      simp only [List.length_cons]
      omega

theorem Res.arg {W : World} {v : Value} {n k : Nat} (h : Res W v n) (hn : n < R ^ k) (hk : k ≤ 1048576) : Arg W v n := by
  obtain ⟨xs, h1, h2, h3⟩ := h
  exact ⟨xs, h1, Nat.le_trans (canon_len_pow h2 (by rw [h3]; exact hn)) hk, h3⟩

theorem Answer.res {w W : World} {v : Value} {n : Nat} (h : Answer w W v n) : Res W v n := by
  obtain ⟨zs, hm, hc, hv⟩ := h
  exact ⟨zs, hm.limbs, hc, hv⟩

theorem add_res {w : World} {sv tv : Value} {m n : Nat} (hx : Arg w sv m) (hy : Arg w tv n) :
    Calls Tryd.prog 42 #[sv, tv] w fun e w' => ∃ rv, e = .returned rv ∧ Res w' rv (m + n) ∧ Below w.heap.size w w' := by
  obtain ⟨xs, h1, h2, rfl⟩ := hx
  obtain ⟨ys, k1, k2, rfl⟩ := hy
  refine (add_calls w sv tv xs ys h1 k1 h2 k2).mono ?_
  rintro e w' ⟨rv, rfl, hA, hb⟩
  exact ⟨rv, rfl, hA.res, hb⟩

theorem mul_res {w : World} {sv tv : Value} {m n : Nat} (hx : Arg w sv m) (hy : Arg w tv n) :
    Calls Tryd.prog 63 #[sv, tv] w fun e w' => ∃ rv, e = .returned rv ∧ Res w' rv (m * n) ∧ Below w.heap.size w w' := by
  obtain ⟨xs, h1, h2, rfl⟩ := hx
  obtain ⟨ys, k1, k2, rfl⟩ := hy
  refine (mul_calls w sv tv xs ys h1 k1 h2 k2).mono ?_
  rintro e w' ⟨rv, rfl, hA, hb⟩
  exact ⟨rv, rfl, hA.res, hb⟩

theorem words_res {w : World} {sv tv : Value} {m n : Nat} (hx : Res w sv m) (hy : Res w tv n) (hmn : m = n) :
    Calls Tryd.prog 11 #[sv, tv] w fun e w' => e = .returned (.bool true) ∧ Below w.heap.size w w' := by
  subst hmn
  obtain ⟨xs, h1, h2, h3⟩ := hx
  obtain ⟨ys, k1, k2, k3⟩ := hy
  have : xs = ys := h2.unique R_pos k2 (by rw [h3, k3])
  subst this
  refine (words_calls w sv tv xs xs h1 k1).mono ?_
  rintro e w' ⟨rfl, h⟩
  exact ⟨by simp, h⟩

theorem lit_limbs (W : World) (zs : List Nat) (hs : Small R zs) (hl : zs.length ≤ 70368744177664) : Limbs (W.alloc (.cells (zs.map (fun z : Nat => Value.int .u32 (z : Int))).toArray 53)) (.slice (some ⟨W.heap.size, 0, none⟩) zs.length zs.length) zs :=
  Row.whole (World.alloc_heap_new W _) hs hl

theorem bthn {w wa wb : World} (h : Below w.heap.size w wa) (k : Below wa.heap.size wa wb) : Below w.heap.size w wb := h.trans (k.mono h.size)

theorem bgo {w wa wb : World} (h : Below w.heap.size w wa) (k : Below wa.heap.size wa wb) : Below w.heap.size w wb := h.trans (k.mono h.size)

theorem lt12 {xs : List Nat} (hs : Small R xs) (h : xs.length ≤ 12) : val R xs < R ^ 12 := Nat.lt_of_lt_of_le (val_lt hs) (Nat.pow_le_pow_right R_pos h)

theorem lt_add {m n k : Nat} (hm : m < R ^ k) (hn : n < R ^ k) : m + n < R ^ (k + 1) := by
  rw [Nat.pow_succ, R_eq]
  rw [R_eq] at hm hn
  omega
theorem lt_mul {m n j k : Nat} (hm : m < R ^ j) (hn : n < R ^ k) : m * n < R ^ (j + k) := by
  rw [Nat.pow_add]
  exact Nat.mul_lt_mul'' hm hn
theorem lt_up {m j k : Nat} (hm : m < R ^ j) (h : j ≤ k) : m < R ^ k := Nat.lt_of_lt_of_le hm (Nat.pow_le_pow_right R_pos h)

end Go.Proofs.YtkdhcpfmlelfcaaDoor
