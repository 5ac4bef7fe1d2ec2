/- The contracts of small functions: addition and subtraction of 32-bit numbers with a carry, a comparison, a limb read beyond a list's end. Memory that a call makes for limbs: one block, all of it known; what a store, a new block and other calls do to it; a law for making such a block. Worlds that part in one block alone: what a call that writes into one block of its caller leaves. A region that draws its order, in a round of a loop over an iterator: if one walk in the order of the text serves every order elsewhere, it does so there. -/
import Derived.Test.YtkdhcpfmlelfcaaDoorBMem
import Derived.Laws.BitsAllLaws
import Derived.StillTailTactics

/- The contracts of small functions: addition and subtraction of 32-bit numbers with a carry, a comparison, a limb read beyond a list's end. -/
namespace Go.Proofs.YtkdhcpfmlelfcaaDoor
set_option linter.unusedVariables false
set_option linter.unusedSimpArgs false
open Go Go.RowKit Go.Shelf

set_option maxHeartbeats 1000000 in
theorem add32_calls (x y c : Nat) (hx : x < 4294967296) (hy : y < 4294967296) (hc : c ≤ 1) (w : World) :
    Calls Tryd.prog 58 #[.int .u32 (x : Int), .int .u32 (y : Int), .int .u32 (c : Int)] w fun e w' => e = .returned (.tuple #[.int .u32 (((x + y + c) % 4294967296 : Nat) : Int), .int .u32 (((x + y + c) / 4294967296 : Nat) : Int)]) ∧ w' = w := by
  go_enter Tryd.func58, Tryd.ntmps58
  go_wp2
  go_ret2
  exact ⟨rfl, rfl⟩

/-- The borrow of x - y - c. -/
def bor (x y c : Nat) : Nat := if x < y + c then 1 else 0

theorem bor_le (x y c : Nat) : bor x y c ≤ 1 := by unfold bor; split <;> omega

theorem top_bit (n : Nat) (h : n < 4294967296) : n / 2147483648 = (n.testBit 31).toNat := by
  rw [Nat.toNat_testBit]
  show n / 2147483648 = n / 2147483648 % 2
  omega

theorem bit31 (n : Nat) (h : n < 4294967296) : n.testBit 31 = decide (2147483648 ≤ n) := by
  have := top_bit n h
  by_cases h1 : 2147483648 ≤ n
  · have : n / 2147483648 = 1 := by omega
    simp [h1]
    cases h2 : n.testBit 31
    · simp_all
    · rfl
  · have : n / 2147483648 = 0 := by omega
    simp [h1]
    cases h2 : n.testBit 31
    · rfl
    · simp_all

theorem bit_lt {a b : Nat} (ha : a < 4294967296) (hb : b < 4294967296) : a &&& b < 4294967296 ∧ a ||| b < 4294967296 ∧ a ^^^ b < 4294967296 :=
  ⟨Nat.and_lt_two_pow (n := 32) a hb, Nat.or_lt_two_pow (n := 32) ha hb, Nat.xor_lt_two_pow (n := 32) ha hb⟩

theorem sub_bits (x y c d : Nat) (hx : x < 4294967296) (hy : y < 4294967296) (hc : c ≤ 1) (hd : d = (x + 4294967296 + 4294967296 - y - c) % 4294967296) :
    (((4294967295 ^^^ x) &&& y) ||| ((4294967295 ^^^ (x ^^^ y)) &&& d)) / 2147483648 = bor x y c := by
  have hd' : d < 4294967296 := by omega
  have h1 := (bit_lt hx hy).2.2
  have h2 := (bit_lt (show 4294967295 < 4294967296 from by omega) hx).2.2
  have h3 := (bit_lt (show 4294967295 < 4294967296 from by omega) h1).2.2
  rw [top_bit _ (bit_lt (bit_lt h2 hy).1 (bit_lt h3 hd').1).2.1]
  simp only [Nat.testBit_or, Nat.testBit_and, Nat.testBit_xor, bit31 x hx, bit31 y hy, bit31 d hd', bit31 4294967295 (by omega)]
  unfold bor
  by_cases a1 : 2147483648 ≤ x <;> by_cases a2 : 2147483648 ≤ y <;> by_cases a3 : 2147483648 ≤ d <;> by_cases a4 : x < y + c <;> simp [a1, a2, a3, a4] <;> omega

theorem sub_cast (x y c : Nat) (hx : x < 4294967296) (hy : y < 4294967296) (hc : c ≤ 1) : ((x : Int) - y - c) % 4294967296 = (((x + 4294967296 + 4294967296 - y - c) % 4294967296 : Nat) : Int) := by omega

theorem max_u32 : IntKind.u32.max = ((4294967295 : Nat) : Int) := by decide

theorem sub_bits' (x y c : Nat) (hx : x < 4294967296) (hy : y < 4294967296) (hc : c ≤ 1) :
    bits BinOp.or IntKind.u32 (bits BinOp.and IntKind.u32 (bits BinOp.xor IntKind.u32 IntKind.u32.max ↑x) ↑y) (bits BinOp.and IntKind.u32 (bits BinOp.xor IntKind.u32 IntKind.u32.max (bits BinOp.xor IntKind.u32 ↑x ↑y)) (((x : Int) - y - c) % 4294967296)) / 2147483648 = (bor x y c : Int) := by
  have hd' : (x + 4294967296 + 4294967296 - y - c) % 4294967296 < 4294967296 := by omega
  have h1 := (bit_lt hx hy).2.2
  have h2 := (bit_lt (show 4294967295 < 4294967296 from by omega) hx).2.2
  have h3 := (bit_lt (show 4294967295 < 4294967296 from by omega) h1).2.2
  rw [sub_cast x y c hx hy hc, max_u32, u32_xor_nat _ _ (by omega) hx, u32_and_nat _ _ h2 hy, u32_xor_nat _ _ hx hy, u32_xor_nat _ _ (by omega) h1, u32_and_nat _ _ h3 hd', u32_or_nat _ _ (bit_lt h2 hy).1 (bit_lt h3 hd').1]
  have := sub_bits x y c _ hx hy hc rfl
  omega

set_option maxHeartbeats 1000000 in
theorem sub32_calls (x y c : Nat) (hx : x < 4294967296) (hy : y < 4294967296) (hc : c ≤ 1) (w : World) :
    Calls Tryd.prog 62 #[.int .u32 (x : Int), .int .u32 (y : Int), .int .u32 (c : Int)] w fun e w' => e = .returned (.tuple #[.int .u32 (((x + 4294967296 + 4294967296 - y - c) % 4294967296 : Nat) : Int), .int .u32 ((bor x y c : Nat) : Int)]) ∧ w' = w := by
  go_enter Tryd.func62, Tryd.ntmps62
  go_wp2
  all_goals first | (exfalso; revert ‹IntKind.u32.signed = true›; decide) | skip
  go_ret2
  refine ⟨?_, rfl⟩
  have e1 := sub_bits' x y c hx hy hc
  have e2 := sub_cast x y c hx hy hc
  show Ending.returned (.tuple #[.int .u32 _, .int .u32 _]) = _
  rw [e1, e2]
  rfl

set_option maxHeartbeats 1000000 in
theorem limbAt_calls (w : World) (sv : Value) (zs : List Nat) (i : Nat) (h : Limbs w sv zs) (hi : i ≤ 4611686018427387904) :
    Calls Tryd.prog 59 #[sv, .int .i64 (i : Int)] w fun e w' => e = .returned (.int .u32 ((nth zs i : Nat) : Int)) ∧ w' = w := by
  obtain ⟨ao, cap, rfl, h1, h2, h3, h4⟩ := h
  by_cases hlt : i < zs.length
  · obtain ⟨b, off, rfl, hc⟩ := h4 i hlt
    clear h4
    go_enter Tryd.func59, Tryd.ntmps59
    go_wp2
    go_ret
    exact ⟨rfl, rfl⟩
  · have e : nth zs i = 0 := nth_ge (by omega)
    rw [e]
    clear e h4
    go_enter Tryd.func59, Tryd.ntmps59
    go_wp2
    go_ret
    exact ⟨rfl, rfl⟩

/-- -1, 0 or 1. -/
def cmpI (a b : Int) : Int := if a < b then -1 else if b < a then 1 else 0

set_option maxHeartbeats 1000000 in
theorem compareInt_calls (x y : Int) (w : World) : Calls Tryd.prog 40 #[.int .i64 x, .int .i64 y] w fun e w' => e = .returned (.int .i64 (cmpI x y)) ∧ w' = w := by
  unfold cmpI
  by_cases h1 : x < y
  · rw [if_pos h1]
    go_enter Tryd.func40, Tryd.ntmps40
    go_wp2
    go_ret
    exact ⟨rfl, rfl⟩
  · rw [if_neg h1]
    by_cases h2 : y < x
    · rw [if_pos h2]
      go_enter Tryd.func40, Tryd.ntmps40
      go_wp2
      go_ret
      exact ⟨rfl, rfl⟩
    · rw [if_neg h2]
      go_enter Tryd.func40, Tryd.ntmps40
      go_wp2
      go_ret
      exact ⟨rfl, rfl⟩

set_option maxHeartbeats 1000000 in
theorem compareU_calls (x y : Int) (w : World) : Calls Tryd.prog 61 #[.int .u32 x, .int .u32 y] w fun e w' => e = .returned (.int .i64 (cmpI x y)) ∧ w' = w := by
  unfold cmpI
  by_cases h1 : x < y
  · rw [if_pos h1]
    go_enter Tryd.func61, Tryd.ntmps61
    go_wp2
    go_ret
    exact ⟨rfl, rfl⟩
  · rw [if_neg h1]
    by_cases h2 : y < x
    · rw [if_pos h2]
      go_enter Tryd.func61, Tryd.ntmps61
      go_wp2
      go_ret
      exact ⟨rfl, rfl⟩
    · rw [if_neg h2]
      go_enter Tryd.func61, Tryd.ntmps61
      go_wp2
      go_ret
      exact ⟨rfl, rfl⟩

theorem run_quo64 {P : Program} (a b : Nat) (ha : a < 18446744073709551616) (hb : 0 < b) (w : World) : (Op.intDiv .quo .u64 (a : Int) (b : Int)).run P w = .ok (.int .u64 ((a / b : Nat) : Int)) w := by
  have h0 : ¬ ((b : Int) = 0) := by omega
  have h1 : a / b < 18446744073709551616 := Nat.lt_of_le_of_lt (Nat.div_le_self a b) ha
  have h2 : (a : Int).tdiv (b : Int) = ((a / b : Nat) : Int) := rfl
  simp only [Op.intDiv]
  rw [if_neg h0, h2, IntKind.wrap_u64]
  generalize a / b = q at *
  have h3 : (q : Int) % 18446744073709551616 = (q : Int) := by omega
  rw [h3]
  rfl

theorem run_rem64 {P : Program} (a b : Nat) (hb : 0 < b) (w : World) : (Op.intDiv .rem .u64 (a : Int) (b : Int)).run P w = .ok (.int .u64 ((a % b : Nat) : Int)) w := by
  have h0 : ¬ ((b : Int) = 0) := by omega
  have h2 : (a : Int).tmod (b : Int) = ((a % b : Nat) : Int) := rfl
  simp only [Op.intDiv]
  rw [if_neg h0, h2]
  rfl

end Go.Proofs.YtkdhcpfmlelfcaaDoor

/- Memory that a call makes for limbs: one block, all of it known; what a store, a new block and other calls do to it; a law for making such a block. -/
namespace Go.Proofs.YtkdhcpfmlelfcaaDoor
set_option linter.unusedVariables false
set_option linter.unusedSimpArgs false
open Go Go.RowKit Go.Shelf

/-- Block g holds the limbs zs, and nothing else. -/
def Row (W : World) (g : Nat) (zs : List Nat) : Prop := W.heap[g]? = some (.cells (zs.map (fun z : Nat => Value.int .u32 (z : Int))).toArray 53 (0, 0))

theorem Row.lt {W : World} {g : Nat} {zs : List Nat} (h : Row W g zs) : g < W.heap.size := (Array.getElem?_eq_some_iff.1 h).1

theorem Row.cell {W : World} {g : Nat} {zs : List Nat} (h : Row W g zs) {j : Nat} (hj : j < zs.length) : W.cell? ⟨g, j, none⟩ = some (.int .u32 ((nth zs j : Nat) : Int)) := by
  rw [cell_of_row W g j _ _ _ h, nth_eq hj]
  simp [hj]

theorem Row.frozen {W : World} {g : Nat} {zs : List Nat} (h : Row W g zs) (j : Nat) : W.frozen? ⟨g, j, none⟩ = false := frozen_of_row W g j _ _ h

theorem Row.set {W : World} {g : Nat} {zs : List Nat} (h : Row W g zs) (j v : Nat) : Row (W.setCell ⟨g, j, none⟩ (.int .u32 (v : Int))) g (zs.set j v) := by
  unfold Row
  rw [heap_setCell_same W g j _ _ _ h]
  simp [List.map_set]

theorem Row.other {W : World} {g : Nat} {zs : List Nat} (h : Row W g zs) {a : Addr} (ha : g ≠ a.block) (v : Value) : Row (W.setCell a v) g zs := (heap_setCell_other W a g v ha).trans h

theorem Row.below {W W' : World} {B g : Nat} {zs : List Nat} (h : Row W g zs) (hb : Below B W W') (hg : g < B) : Row W' g zs := (hb.block g hg).trans h

theorem Row.keep {W W' : World} {g : Nat} {zs : List Nat} (h : Row W g zs) (hb : Below W.heap.size W W') : Row W' g zs := h.below hb h.lt

theorem Row.alloc {W : World} {g : Nat} {zs : List Nat} (h : Row W g zs) (o : Obj) : Row (W.alloc o) g zs := (Below.heap_alloc _ _ _ h.lt).trans h

/-- A piece of such a block is a slice of limbs. -/
theorem Row.limbs {W : World} {g : Nat} {zs : List Nat} (h : Row W g zs) (hs : Small R zs) (off n cap : Nat) (h1 : off + n ≤ zs.length) (h2 : n ≤ cap) (h3 : cap ≤ 70368744177664) :
    Limbs W (.slice (some ⟨g, off, none⟩) n cap) ((zs.drop off).take n) := by
  have hl : ((zs.drop off).take n).length = n := by simp; omega
  refine ⟨some ⟨g, off, none⟩, cap, by rw [hl], by omega, by omega, (hs.drop _).take _, fun j hj => ⟨g, off, rfl, ?_⟩⟩
  rw [hl] at hj
  rw [h.cell (by omega), nth_take hj, nth_drop]

theorem Row.whole {W : World} {g : Nat} {zs : List Nat} (h : Row W g zs) (hs : Small R zs) (h3 : zs.length ≤ 70368744177664) : Limbs W (.slice (some ⟨g, 0, none⟩) zs.length zs.length) zs := by
  have := h.limbs hs 0 zs.length zs.length (by omega) (Nat.le_refl _) h3
  simpa using this

/-- A slice of limbs in memory that was made since the heap had n₀ blocks: nil, or the front of a block of its own. -/
def Made (n₀ : Nat) (W : World) (rv : Value) (zs : List Nat) : Prop :=
  Small R zs ∧ ((rv = .slice none 0 0 ∧ zs = []) ∨ ∃ g full cap, rv = .slice (some ⟨g, 0, none⟩) zs.length cap ∧ n₀ ≤ g ∧ zs.length ≤ cap ∧ cap ≤ full.length ∧ full.length ≤ 70368744177664 ∧ Small R full ∧ Row W g full ∧ full.take zs.length = zs)

theorem Made.limbs {n₀ : Nat} {W : World} {rv : Value} {zs : List Nat} (h : Made n₀ W rv zs) : Limbs W rv zs := by
  obtain ⟨hs, ⟨rfl, rfl⟩ | ⟨g, full, cap, rfl, h1, h2, h3, h4, h5, h6, h7⟩⟩ := h
  · exact Limbs.nil W
  · have := h6.limbs h5 0 zs.length cap (by omega) h2 (by omega)
    rw [List.drop_zero, h7] at this
    exact this

theorem Made.below {n₀ : Nat} {W W' : World} {rv : Value} {zs : List Nat} (h : Made n₀ W rv zs) (hb : Below W.heap.size W W') : Made n₀ W' rv zs := by
  obtain ⟨hs, h | ⟨g, full, cap, rfl, h1, h2, h3, h4, h5, h6, h7⟩⟩ := h
  · exact ⟨hs, .inl h⟩
  · exact ⟨hs, .inr ⟨g, full, cap, rfl, h1, h2, h3, h4, h5, h6.keep hb, h7⟩⟩

theorem Made.mono {n₀ n₁ : Nat} {W : World} {rv : Value} {zs : List Nat} (h : Made n₀ W rv zs) (hn : n₁ ≤ n₀) : Made n₁ W rv zs := by
  obtain ⟨hs, h | ⟨g, full, cap, rfl, h1, h⟩⟩ := h
  · exact ⟨hs, .inl h⟩
  · exact ⟨hs, .inr ⟨g, full, cap, rfl, by omega, h⟩⟩

theorem Made.nil (n₀ : Nat) (W : World) : Made n₀ W (.slice none 0 0) [] := ⟨Small.nil _, .inl ⟨rfl, rfl⟩⟩

theorem Made.whole {n₀ g : Nat} {W : World} {zs : List Nat} (h : Row W g zs) (hs : Small R zs) (hg : n₀ ≤ g) (h3 : zs.length ≤ 70368744177664) : Made n₀ W (.slice (some ⟨g, 0, none⟩) zs.length zs.length) zs :=
  ⟨hs, .inr ⟨g, zs, zs.length, rfl, hg, Nat.le_refl _, Nat.le_refl _, h3, hs, h, by simp⟩⟩

/-- What trim makes of a made block. -/
theorem Made.trimmed {n₀ g : Nat} {W : World} {zs : List Nat} (h : Row W g zs) (hs : Small R zs) (hg : n₀ ≤ g) (h3 : zs.length ≤ 70368744177664) : Made n₀ W (trimmed (some ⟨g, 0, none⟩) zs.length zs) (trm zs) := by
  unfold Proofs.YtkdhcpfmlelfcaaDoor.trimmed
  by_cases hz : tl zs = 0
  · rw [if_pos hz, trm_nil_of hz]; exact Made.nil _ _
  · rw [if_neg hz]
    have := tl_le zs
    exact ⟨hs.trm, .inr ⟨g, zs, zs.length, by rw [trm_length], hg, by rw [trm_length]; omega, Nat.le_refl _, h3, hs, h, by rw [trm_length]; rfl⟩⟩

theorem small_replicate (n : Nat) : Small R (List.replicate n 0) := fun x hx => by rw [(List.mem_replicate.1 hx).2]; decide

theorem infoU32 : (Tryd.prog.info? 53).map (fun i => (i.zero, i.size, i.bytes)) = some (some (.int .u32 0), 1, 4) := by kernel_rfl

set_option maxRecDepth 100000 in
theorem run_mk (n : Nat) (hn : n ≤ 70368744177664) (w : World) : ∃ w', (Instr.makeSlice 22 (.int .i64 (n : Int)) (.int .i64 (n : Int))).run Tryd.prog w = .ok (.slice (some ⟨w.heap.size, 0, none⟩) n n) w' ∧ Row w' w.heap.size (List.replicate n 0) ∧ Below w.heap.size w w' ∧ w'.heap.size = w.heap.size + 1 := by
  obtain ⟨i0, hi, hz0, hz1, hz2⟩ := info_parts infoU32
  have hr := run_make (P := Tryd.prog) w 22 53 i0 _ Tryd.underlying22 hi hz0 .i64 .i64 n n (by omega) (Int.le_refl _) (by rw [hz2]; omega) (by omega)
  rw [Int.toNat_natCast, hz1] at hr
  refine ⟨_, hr, ?_, (Below.refl _ w).alloc (Nat.le_refl _) _, by simp⟩
  unfold Row
  rw [World.alloc_heap_new]
  congr 1
  have : madeCells (Value.int .u32 0).cells (n * 1) = ((List.replicate n 0).map (fun z : Nat => Value.int .u32 (z : Int))).toArray := by
    apply Array.ext'
    show (madeCells #[Value.int .u32 0] (n * 1)).toList = _
    rw [toList_madeCells_one]
    simp
  rw [this]

theorem R_pos : 0 < R := by decide

theorem Limbs.cells {W : World} {ao : Option Addr} {n cap : Nat} {zs : List Nat} (h : Limbs W (.slice ao n cap) zs) : ∀ j, j < zs.length → ∃ b off, ao = some ⟨b, off, none⟩ ∧ W.cell? ⟨b, off + j, none⟩ = some (.int .u32 ((nth zs j : Nat) : Int)) := by
  obtain ⟨ao', cap', e, _, _, _, h⟩ := h
  cases e
  exact h

/-- A call's answer: a list of its own, in its one form, worth n. -/
def Answer (w w' : World) (rv : Value) (n : Nat) : Prop := ∃ zs, Made w.heap.size w' rv zs ∧ Canon R zs ∧ val R zs = n

theorem small_snoc {ss : List Nat} (h : Small R ss) {v : Nat} (hv : v < R) : Small R (ss ++ [v]) := h.append (fun x hx => by rw [List.mem_singleton.1 hx]; exact hv)

theorem Limbs.small {W : World} {sv : Value} {zs : List Nat} (h : Limbs W sv zs) : Small R zs := by
  obtain ⟨ao, cap, e, _, _, h, _⟩ := h; exact h

theorem Limbs.len {W : World} {sv : Value} {zs : List Nat} (h : Limbs W sv zs) : ∃ ao cap, sv = .slice ao zs.length cap := by
  obtain ⟨ao, cap, e, _⟩ := h; exact ⟨ao, cap, e⟩

theorem trim_made (w0 w : World) (g : Nat) (zs : List Nat) (n v : Nat) (hrow : Row w g zs) (hs : Small R zs) (hl : zs.length = n) (hg : w0.heap.size ≤ g) (hn : n ≤ 70368744177664) (hv : val R zs = v) :
    Calls Tryd.prog 47 #[.slice (some ⟨g, 0, none⟩) n n] w fun e w' => ∃ bo m dap, e = .returned (.slice bo m dap) ∧ Answer w0 w' (.slice bo m dap) v ∧ Below w.heap.size w w' := by
  subst hl
  have hlim := hrow.whole hs hn
  refine (trim_calls _ _ _ zs hlim).mono ?_
  rintro e w2 ⟨rfl, hb2⟩
  have hm := Made.trimmed (n₀ := w0.heap.size) (hrow.keep hb2) hs hg hn
  obtain ⟨bo, dap, hf⟩ := trimmed_form (some ⟨g, 0, none⟩) zs.length zs
  rw [hf] at hm ⊢
  exact ⟨_, _, _, rfl, ⟨_, hm, canon_trm hs, by rw [val_trm, hv]⟩, hb2⟩

theorem trim_made_from (w0 Wd w : World) (hW : Below Wd.heap.size Wd w) (g : Nat) (zs : List Nat) (n v : Nat) (hrow : Row Wd g zs) (hs : Small R zs) (hl : zs.length = n) (hg : w0.heap.size ≤ g) (hn : n ≤ 70368744177664) (hv : val R zs = v) :
    Calls Tryd.prog 47 #[.slice (some ⟨g, 0, none⟩) n n] w fun e w' => ∃ bo m dap, e = .returned (.slice bo m dap) ∧ Answer w0 w' (.slice bo m dap) v ∧ Below Wd.heap.size Wd w' := by
  refine (trim_made w0 w g zs n v (hrow.keep hW) hs hl hg hn hv).mono ?_
  rintro e w' ⟨bo, m, dap, h1, h2, h3⟩
  exact ⟨bo, m, dap, h1, h2, hW.trans (h3.mono hW.size)⟩

theorem Answer.below {w0 W W' : World} {rv : Value} {n : Nat} (h : Answer w0 W rv n) (hb : Below W.heap.size W W') : Answer w0 W' rv n := by
  obtain ⟨zs, hm, hc, hv⟩ := h
  exact ⟨zs, hm.below hb, hc, hv⟩

/-- Making a block of n noughts. -/
theorem wpList_mk (w : World) {ops : Array Oper} {rest : List Oper} {o : Oper} {a : Act} {Q : Exit → Act → World → Prop}
    (hg : o.guard = none) (l : Operand) (hop : o.op = Op.makeSlice 22 l l) (L : Int) (n : Nat) (hl : a.eval l = .int .i64 L) (hL : L = (n : Int)) (hn : n ≤ 70368744177664)
    (hK : ∀ w', Row w' w.heap.size (List.replicate n 0) → Below w.heap.size w w' → w'.heap.size = w.heap.size + 1 → wpList Tryd.prog ops Q rest (a.put o.dst (.slice (some ⟨w.heap.size, 0, none⟩) n n)) w') :
    wpList Tryd.prog ops Q (o :: rest) a w := by
  refine wpList_plain hg fun K hK' => ?_
  obtain ⟨w', hrun, r1, r2, r3⟩ := run_mk n hn w
  subst hL
  unfold Oper.wp
  simp [execOp, hop, hl, hrun, Result.andThen]
  exact hK' _ _ (hK w' r1 r2 r3)

theorem wpListIn_mk {F : Fence} {m : Nat} (w : World) {ops : Array Oper} {rest : List Oper} {o : Oper} {a : Act} {Q : Exit → Act → World → Prop}
    (hg : o.guard = none) (l : Operand) (hop : o.op = Op.makeSlice 22 l l) (L : Int) (n : Nat) (hl : a.eval l = .int .i64 L) (hL : L = (n : Int)) (hn : n ≤ 70368744177664)
    (hK : ∀ w', Row w' w.heap.size (List.replicate n 0) → Below w.heap.size w w' → w'.heap.size = w.heap.size + 1 → wpListIn F m Tryd.prog ops Q rest (a.put o.dst (.slice (some ⟨w.heap.size, 0, none⟩) n n)) w') :
    wpListIn F m Tryd.prog ops Q (o :: rest) a w := by
  refine wpListIn_plain hg fun K hK' => ?_
  obtain ⟨w', hrun, r1, r2, r3⟩ := run_mk n hn w
  subst hL
  unfold Oper.wpIn
  refine ⟨?_, ?_⟩
  · simp [Oper.about, hop]
  · rw [Oper.semAt_plain F _ _ (by rw [hop]; intro c hc'; cases hc')]
    simp [execOp, hop, hl, hrun, Result.andThen]
    exact hK' _ _ (hK w' r1 r2 r3)

end Go.Proofs.YtkdhcpfmlelfcaaDoor

/- Worlds that part in one block alone: what a call that writes into one block of its caller leaves. -/
namespace Go.Proofs.YtkdhcpfmlelfcaaDoor
set_option linter.unusedVariables false
set_option linter.unusedSimpArgs false
open Go Go.RowKit Go.Shelf

/-- Of what lay in W nothing but block g has turned. -/
structure But (g : Nat) (W W' : World) : Prop where
  os : W'.os = W.os
  tape : W'.tape = W.tape
  output : W'.output = W.output
  size : W.heap.size ≤ W'.heap.size
  block : ∀ k, k < W.heap.size → k ≠ g → W'.heap[k]? = W.heap[k]?

theorem But.refl (g : Nat) (W : World) : But g W W := ⟨rfl, rfl, rfl, Nat.le_refl _, fun _ _ _ => rfl⟩

theorem But.trans {g : Nat} {A B C : World} (h : But g A B) (k : But g B C) : But g A C :=
  ⟨k.os.trans h.os, k.tape.trans h.tape, k.output.trans h.output, Nat.le_trans h.size k.size, fun i hi hn => (k.block i (Nat.lt_of_lt_of_le hi h.size) hn).trans (h.block i hi hn)⟩

theorem But.of_below {g : Nat} {W W' : World} (h : Below W.heap.size W W') : But g W W' := ⟨h.os, h.tape, h.output, h.size, fun k hk _ => h.block k hk⟩

theorem But.setCell {g : Nat} {A W : World} (h : But g A W) {p : Addr} (hp : p.block = g) (u : Value) : But g A (W.setCell p u) :=
  h.trans ⟨rfl, rfl, rfl, by simp [World.setCell], fun k _ hk => heap_setCell_other W p k u (by rw [hp]; exact hk)⟩

/-- A store into a block that did not lie in A. -/
theorem But.setNew {g : Nat} {A W : World} (h : But g A W) {p : Addr} (hp : A.heap.size ≤ p.block) (u : Value) : But g A (W.setCell p u) :=
  ⟨h.os, h.tape, h.output, by simp [World.setCell]; exact h.size, fun k hk hn => (heap_setCell_other W p k u (by omega)).trans (h.block k hk hn)⟩

theorem But.alloc {g : Nat} {A W : World} (h : But g A W) (o : Obj) : But g A (W.alloc o) :=
  ⟨h.os, h.tape, h.output, by simp; exact Nat.le_succ_of_le h.size, fun k hk hn => (Below.heap_alloc W o k (Nat.lt_of_lt_of_le hk h.size)).trans (h.block k hk hn)⟩

theorem But.drew {g : Nat} {A W : World} (h : But g A W) : But g A W.drew := ⟨h.os, h.tape, h.output, h.size, h.block⟩

theorem But.drewN {g : Nat} {A W : World} (h : But g A W) (n : Nat) : But g A (W.drewN n) := h.trans (But.of_below (below_drewN (Below.refl _ _) n))

theorem But.below {g B : Nat} {W W' : World} (h : But g W W') (hB : B ≤ g) (hW : B ≤ W.heap.size) : Below B W W' := ⟨h.os, h.tape, h.output, h.size, fun k hk => h.block k (by omega) (by omega)⟩

theorem Row.but {W W' : World} {g k : Nat} {zs : List Nat} (h : Row W k zs) (hb : But g W W') (hk : k ≠ g) : Row W' k zs := (hb.block k h.lt hk).trans h

theorem boxed_but {W W' : World} {g B : Nat} {t : TypeId} {v : Value} (h : Boxed W B t v) (hb : But g W W') (hk : B ≠ g) : Boxed W' B t v := (hb.block B h.lt hk).trans h

theorem boxed_keep {W W' : World} {B : Nat} {t : TypeId} {v : Value} (h : Boxed W B t v) (hb : Below W.heap.size W W') : Boxed W' B t v := (hb.block B h.lt).trans h

theorem cell_but {W W' : World} {g : Nat} (hb : But g W W') {p : Addr} {v : Value} (hp : p.block ≠ g) (h : W.cell? p = some v) : W'.cell? p = some v := (World.cell?_of_block (w := W) (hb.block p.block (block_lt_of_cell h) hp)).trans h

theorem below_undrew {B : Nat} {W W' : World} (h : Below B W.drew W') : Below B W W' := ⟨h.os, h.tape, h.output, h.size, h.block⟩

theorem own_exists {α : Type} {C : Nat} {I : α → Nat → World → Prop} (h : ∀ x, OwnFrom C (I x)) : OwnFrom C (fun k W => ∃ x, I x k W) := fun s W W' row ⟨x, hx⟩ hg hr => ⟨x, h x s W W' row hx hg hr⟩

theorem own_row (g C : Nat) (f : Nat → List Nat) : OwnFrom C (fun k W => Row W g (f k)) := fun s X Y row hs hg hr => by
  refine (hg.block g hs.lt (fun e => ?_)).trans hs
  obtain ⟨_, o, ho, hc⟩ := hr g e.symm
  rw [show X.heap[g]? = _ from hs] at ho
  cases ho
  cases hc

theorem own_but {g C : Nat} {w : World} (hC : w.heap.size ≤ C) : OwnFrom C (fun (_ : Nat) W => But g w W) := fun s X Y row hs hg hr =>
  ⟨hg.os.trans hs.os, hg.tape.trans hs.tape, hg.output.trans hs.output, Nat.le_trans hs.size hg.size, fun k hk hn => (hg.block k (Nat.lt_of_lt_of_le hk hs.size) (fun e => by have := (hr k e.symm).1; omega)).trans (hs.block k hk hn)⟩

theorem own_boxedf (B : Nat) (t : TypeId) (f : Nat → Value) (C : Nat) : OwnFrom C (fun k W => Boxed W B t (f k)) := Own.from (boxed_own B t f) C

/-- The turn of a block that is no cells. -/
theorem But.putObj {g D : Nat} {w W : World} (h : But g w W) (hD : w.heap.size ≤ D) (o : Obj) : But g w (W.putObj D o) :=
  ⟨h.os, h.tape, h.output, by have := (grownBy_putObj' W D o).size; exact Nat.le_trans h.size this, fun k hk hn => ((grownBy_putObj' W D o).block k (Nat.lt_of_lt_of_le hk h.size) (fun e => by cases e; omega)).trans (h.block k hk hn)⟩

theorem Row.putObj {W : World} {g D : Nat} {zs : List Nat} {o : Obj} (h : Row W g zs) (hK : W.heap[D]? = some o) (ho : o.isCells = false) (o' : Obj) : Row (W.putObj D o') g zs := by
  refine ((grownBy_putObj' W D o').block g h.lt (fun e => ?_)).trans h
  cases e
  rw [show W.heap[g]? = _ from h] at hK
  cases hK
  cases ho

end Go.Proofs.YtkdhcpfmlelfcaaDoor

/- A region that draws its order, in a round of a loop over an iterator: if one walk in the order of the text serves every order elsewhere, it does so there. -/
namespace Go.Proofs.YtkdhcpfmlelfcaaDoor
set_option linter.unusedVariables false
set_option linter.unusedSimpArgs false
open Go Go.RowKit Go.Shelf

theorem upon_round {P : Program} {o : Oper} {a : Act} {next : Act → World → Prop} {Q : Exit → Act → World → Prop} (n l : Nat) {r : Result Next} (h : o.upon P a next Q r) : o.uponIn (Fence.wide.inRound l) n P a next Q r := by
  cases r with
  | ok x w =>
    cases x with
    | value v => exact h
    | skip => exact h
    | defer d => exact h
    | enter f args => exact ⟨fun e => (by cases e), CallsIn.inRound l (callsIn_wide.2 h)⟩
    | row row args =>
      refine ⟨fun e => (by cases e), fun c cs _ => ?_⟩
      obtain ⟨v, w', hr, hs⟩ := h c cs
      exact ⟨v, w', hr, stepsIn_wide.2 hs⟩
    | _ => exact h.elim
  | halt hh w =>
    cases hh with
    | panic v => exact h
    | _ => exact h.elim

theorem wp_round {P : Program} {o : Oper} {a : Act} {w : World} {next : Act → World → Prop} {Q : Exit → Act → World → Prop} (n l : Nat) (hd : ∀ c, o.op ≠ .defer c) (h : o.wp P a w next Q) : o.wpIn (Fence.wide.inRound l) n P a w next Q := by
  refine ⟨fun _ _ => trivial, ?_⟩
  rw [show (Fence.wide.inRound l).round = some l from rfl, Oper.semAt_some l _ o hd]
  exact upon_round n l h

theorem upon_mono {P : Program} {o : Oper} {a : Act} {K K' : Act → World → Prop} {Q : Exit → Act → World → Prop} (hK : ∀ a w, K a w → K' a w) {r : Result Next} (h : o.upon P a K Q r) : o.upon P a K' Q r := by
  cases r with
  | ok x w =>
    cases x with
    | value v => exact hK _ _ h
    | skip => exact hK _ _ h
    | defer d => exact hK _ _ h
    | enter f args =>
      refine Calls.mono h ?_
      intro e w' he
      cases e with
      | returned v => exact hK _ _ he
      | panicked c => exact he
      | outgrown => exact he
    | row row args => exact Rows.mono h (fun v w' hv => hK _ _ hv)
    | _ => exact h.elim
  | halt hh w =>
    cases hh with
    | panic v => exact h
    | _ => exact h.elim

theorem any_round {P : Program} {md : Region.Mode} {ops : Array Oper} {Q : Exit → Act → World → Prop} (n l : Nat) (hd : ∀ (i : Nat) (o : Oper), ops[i]? = some o → ∀ c, o.op ≠ .defer c) (hout : ¬ LetsOut Q) :
    ∀ (fuel : Nat) (listed : Array Bool) (a : Act) (w : World), wpAny P md ops Q fuel listed a w → wpAnyIn (Fence.wide.inRound l) n P md ops Q fuel listed a w := by
  intro fuel
  induction fuel with
  | zero => intro listed a w h; exact h
  | succ fuel ih =>
    intro listed a w h
    refine ⟨h.1, fun i hi => ?_⟩
    have hop := h.2 i hi
    unfold wpOp at hop
    unfold wpOpIn
    cases ho : ops[i]? with
    | none => rw [ho] at hop; exact ih _ _ _ hop
    | some o =>
      rw [ho] at hop
      dsimp only at hop ⊢
      by_cases hw : Region.wanted o (yielded ops a.tmps) = true
      · rw [if_pos hw] at hop ⊢
        rcases hop with hop | hop
        · exact wp_round n l (hd i o ho) (upon_mono (fun a w hk => ih _ _ _ hk) hop)
        · exact absurd hop.2 hout
      · rw [if_neg hw] at hop ⊢
        exact ⟨fun _ _ => trivial, ih _ _ _ hop⟩

theorem no_defer {ls : List Oper} (h : ∀ o ∈ ls, ∀ c, o.op ≠ .defer c) : ∀ (i : Nat) (o : Oper), ls.toArray[i]? = some o → ∀ c, o.op ≠ .defer c := fun i o ho => h o (by
  have := List.mem_of_getElem? (l := ls) (i := i) (by simpa using ho)
  exact this)

/-- One walk of the operations ahead of n, in the text's order, in one world; then the rest as they stand. -/
theorem round_still {P : Program} {id : Nat} {Q : Exit → Act → World → Prop} {a : Act} {w : World} {ls : List Oper} (m r n : Nat) (hm : P.follows .mixedOrders = true) (hB : Region.lexTailB .any ls.toArray n = true) (hd : ∀ (i : Nat) (o : Oper), ls.toArray[i]? = some o → ∀ c, o.op ≠ .defer c) (hout : ¬ LetsOut Q)
    (h : wpStill P ls.toArray w.drew (fun a' => wpList P ls.toArray Q (ls.drop n) a' w.drew) (ls.take n) a) : (Code.region id ls.toArray true).wpIn (Fence.wide.inRound r) m P Q a w := by
  refine wpIn_region_any hm (any_round m r hd hout _ _ _ _ ?_)
  simp only [Region.lexTailB, Bool.and_eq_true, decide_eq_true_eq] at hB
  obtain ⟨⟨⟨⟨hsel, hn⟩, hs⟩, hc⟩, hlex⟩ := hB
  have hn' : n < ls.length := by simpa using hn
  have htl : (ls.take n).length = n := by simp; omega
  have hdl : (ls.drop n).length = ls.toArray.size - n := by simp
  have inv0 : HeadInv .any ls.toArray n (Array.replicate ls.toArray.size false) :=
    ⟨by simp, fun j oj _ hl => (by rw [getD_replicate_false] at hl; cases hl), fun t _ ht => getD_in (by simpa using ht) (getD_replicate_false _ _)⟩
  have H := wpAnyL_lex (md := .any) (g := ls.toArray.size - n) hsel hs hc hn (ls.take n) 0 _ a (fun j hj => by
    have hj' : j < n := by rw [htl] at hj; exact hj
    simp [hj']) (by simpa using htl) inv0 (by rw [htl]; exact hlex) h
  have fin := wpAny_of_head (Q' := Q) (g := ls.toArray.size - n) (fun listed a' hL => by
    have := wpAny_of_seq (md := .any) (Q' := Q) (ls.drop n) n listed a' w.drew (fun j => by simp [List.getElem?_drop]) (by rw [hdl]; exact hL.1) hL.2
    rwa [hdl] at this) _ _ _ H
  rw [htl, show n + (ls.toArray.size - n) = ls.toArray.size by omega] at fin
  exact fin

end Go.Proofs.YtkdhcpfmlelfcaaDoor
