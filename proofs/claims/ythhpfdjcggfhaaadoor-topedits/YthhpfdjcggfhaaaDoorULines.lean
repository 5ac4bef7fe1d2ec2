/- Slices of ints in memory, and what append leaves of them; where lines begin, as utf and the reference tell it. -/
import Derived.Test.YthhpfdjcggfhaaaDoorUEnd
import Derived.Deep.AppendLies
import Derived.Laws.OwnMore
import Derived.Deep.DeepMust
import Derived.BigQuiet
import Derived.Deep.QuietTactic
import Derived.OwnWalk
namespace Go.Proofs.YthhpfdjcggfhaaaDoor
set_option linter.unusedVariables false
set_option linter.unusedSimpArgs false
open Go Go.RowKit Go.Shelf Go.Lib

theorem ownsRow_keep {W W' : World} {base : Nat} {e : TypeId} {size : Nat} {v : Value} {n : Nat} {xs : List Value} (h : W.ownsRow base e size v n xs) (hb : Below W.heap.size W W') : W'.ownsRow base e size v n xs := by
  refine ⟨h.1, ?_⟩
  rcases h.2 with hn | ⟨g2, cap, cur, hv, h1, h2, h3⟩
  · exact .inl hn
  · exact .inr ⟨g2, cap, cur, hv, h1, (hb.block g2 (Array.getElem?_eq_some_iff.1 h2).1).trans h2, h3⟩
theorem one_cell {k : IntKind} {x : Int} : ∀ u ∈ [Value.int k x], u.oneCell' = true := fun u hu => by
  rw [List.mem_singleton.1 hu]; rfl
theorem infoI64 : (Tryd.prog.info? 3).map (fun i => (i.zero, i.size, i.bytes)) = some (some (.int .i64 0), 1, 8) := by kernel_rfl

def nthI (L : List Int) (i : Nat) : Int := L[i]?.getD 0
def icells (L : List Int) : List Value := L.map (fun z : Int => Value.int .i64 z)
theorem icells_length (L : List Int) : (icells L).length = L.length := by simp [icells]
theorem nthI_eq {L : List Int} {j : Nat} (hj : j < L.length) : nthI L j = L[j] := by simp [nthI, List.getElem?_eq_getElem hj]

/-- A slice of ints: it holds these. -/
def IntsIn (W : World) (v : Value) (L : List Int) : Prop := ∃ ao cap, v = .slice ao L.length cap ∧ ∀ j, j < L.length → ∃ b off, ao = some ⟨b, off, none⟩ ∧ W.cell? ⟨b, off + j, none⟩ = some (.int .i64 (nthI L j))
theorem IntsIn.below {W W' : World} {v : Value} {L : List Int} (h : IntsIn W v L) (hb : Below W.heap.size W W') : IntsIn W' v L := by
  obtain ⟨ao, cap, h1, h3⟩ := h
  refine ⟨ao, cap, h1, fun j hj => ?_⟩
  obtain ⟨b, off, h4, h5⟩ := h3 j hj
  exact ⟨b, off, h4, (hb.cell (p := ⟨b, off + j, none⟩) (block_lt h5)).trans h5⟩

/-- Ints that the call has gathered in memory of its own. -/
def OwnI (n₀ : Nat) (W : World) (v : Value) (L : List Int) : Prop := W.ownsRow n₀ 3 1 v L.length (icells L)
theorem OwnI.ints {n₀ : Nat} {W : World} {v : Value} {L : List Int} (h : OwnI n₀ W v L) : IntsIn W v L := by
  rcases h.2 with ⟨rfl, h0⟩ | ⟨g, cap, cur, rfl, hg, hh, hn, hm, hc, ht⟩
  · exact ⟨none, 0, by rw [h0], fun j hj => by omega⟩
  · refine ⟨some ⟨g, 0, none⟩, cap, rfl, fun j hj => ⟨g, 0, rfl, ?_⟩⟩
    have := World.ownsRow.cellAt (show W.ownsRow n₀ 3 1 (.slice (some ⟨g, 0, none⟩) L.length cap) L.length (icells L) from h) j (by omega)
    rw [Nat.zero_add, this, nthI_eq hj]
    simp [icells, hj]
theorem OwnI.keep {n₀ : Nat} {W W' : World} {v : Value} {L : List Int} (h : OwnI n₀ W v L) (hb : Below W.heap.size W W') : OwnI n₀ W' v L := ownsRow_keep h hb
theorem OwnI.pushed {n₀ : Nat} {w wr w1 : World} {v v' : Value} {L : List Int} {o : Obj} {d : Int} (h : OwnI n₀ wr v L) (hB : Below w.heap.size w wr) (hn : w.heap.size ≤ n₀) (hn2 : n₀ ≤ wr.heap.size)
    (hown : w1.ownsRow n₀ 3 1 v' (L.length + 1) (icells L ++ [.int .i64 d])) (hg : (wr.alloc o).grownBy w1 v.ownBlock) :
    OwnI n₀ w1 v' (L ++ [d]) ∧ Below w.heap.size w w1 := by
  refine ⟨?_, ?_⟩
  · unfold OwnI
    have e1 : (L ++ [d]).length = L.length + 1 := by simp
    have e2 : icells (L ++ [d]) = icells L ++ [.int .i64 d] := by simp [icells]
    rw [e1, e2]
    exact hown
  · exact (hB.alloc hB.size o).grown hg (by simp; have := hB.size; omega) (fun j hj => by have := (h.lt j hj).1; omega)

/-- Does a line end with this byte? Where lines begin, so far. -/
def brk (T : List Nat) (i : Nat) : Bool := decide (nth T i = 10) || (decide (nth T i = 13) && !(decide (i + 1 < T.length) && decide (nth T (i + 1) = 10)))
def linesTo (T : List Nat) : Nat → List Int
  | 0 => [0]
  | k + 1 => if brk T k then linesTo T k ++ [((k + 1 : Nat) : Int)] else linesTo T k
def linesL (T : List Nat) : List Int := linesTo T T.length
theorem linesTo_length (T : List Nat) (k : Nat) : (linesTo T k).length ≤ k + 1 := by
  induction k with
  | zero => exact Nat.le_refl _
  | succ k ih =>
    unfold linesTo
    split
    · rw [List.length_append]; simp; exact ih
    · omega
theorem lines_yes {T : List Nat} {k : Nat} (h : brk T k = true) : linesTo T (k + 1) = linesTo T k ++ [((k + 1 : Nat) : Int)] := by
  show (if brk T k then _ else _) = _
  rw [if_pos h]
theorem lines_no {T : List Nat} {k : Nat} (h : brk T k = false) : linesTo T (k + 1) = linesTo T k := by
  show (if brk T k then _ else _) = _
  rw [if_neg (by rw [h]; decide)]

theorem own_lit (w : World) : OwnI w.heap.size (w.alloc (.cells #[.int .i64 0] 3)) (.slice (some ⟨w.heap.size, 0, none⟩) 1 1) [0] :=
  World.ownsRow_lit w #[.int .i64 0] 1 (Nat.le_refl _) (by unfold maxLen; omega) rfl

set_option maxRecDepth 100000 in
set_option maxHeartbeats 4000000 in
theorem lines_calls (w : World) (ao : Option Addr) (cap : Nat) (T : List Nat) (h : Byts w (.slice ao T.length cap) T) (hlen : T.length ≤ 1000000000) :
    Calls Tryd.prog 44 #[.slice ao T.length cap] w fun e w' => ∃ rv, e = .returned rv ∧ OwnI w.heap.size w' rv (linesL T) ∧ Below w.heap.size w w' := by
  obtain ⟨i0, hi, hz0, hz1, hz2⟩ := info_parts infoI64
  have H := hide h
  clear h
  go_enter Tryd.func44, Tryd.ntmps44
  go_wp2
  go_loopw [3, 10] (fun out i wr => ∃ k : Nat, k ≤ T.length ∧ i = .int .i64 (k : Int) ∧ OwnI w.heap.size wr out (linesTo T k) ∧ Below w.heap.size w wr) (fun _ i _ => T.length - (RowKit.intOf i).toNat)
  case atStart => exact ⟨0, Nat.zero_le _, rfl, own_lit w, bel _ _⟩
  case round =>
    obtain ⟨k, hk, rfl, hown, hB⟩ := hrel
    have Hown := hide hown
    have HB := hide hB
    have hwr : w.heap.size ≤ wr.heap.size := hB.size
    have hll := linesTo_length T k
    by_cases hlt : k < T.length
    · obtain ⟨ao', cap', e, hb, hc⟩ := H.out.below hB
      cases e
      obtain ⟨b, off, rfl, c0⟩ := hc k hlt
      have l0 := nth_lt hb k
      have l1 := nth_lt hb (k + 1)
      have d1 : (k : Int) < (T.length : Int) := by omega
      have d0 : (0 : Int) ≤ (k : Int) := by omega
      have HC1 := hide (fun h1 : k + 1 < T.length => hc (k + 1) h1)
      clear hc hown hB hb
      have HBK : Hid (brk T k = (decide (nth T k = 10) || (decide (nth T k = 13) && !(decide (k + 1 < T.length) && decide (nth T (k + 1) = 10))))) := rfl
      generalize hx : nth T k = x at *
      generalize hy : nth T (k + 1) = y at *
      have HY := hide hy
      clear hx hy
      have hw1 : IntKind.i64.wrap ((k : Int) + 1) = (k : Int) + 1 := by rw [IntKind.wrap_i64]; omega
      by_cases x10 : x = 10
      · have hbr : brk T k = true := by rw [HBK.out]; simp [x10]
        have HL := hide (lines_yes hbr)
        subst x10
        have e13 : (((10 : Nat) : Int) == 13) = false := by decide
        have e10 : (((10 : Nat) : Int) == 10) = true := by decide
        clear hbr HBK HC1
        go_wp2_with (at_builtin; go_must (refine wpList_append_own _ rfl (.tmp 42) (.tmp 45) 38 rfl w.heap.size 3 i0 (.int .i64 0) 1 8 Tryd.underlying38 hi hz0 hz1 hz2 rfl (by decide) _ (linesTo T k).length (icells (linesTo T k)) rfl (by exact World.ownsRow.alloc Hown.out _) ⟨wr.heap.size, 0, none⟩ 1 1 [.int .i64 ((k : Int) + 1)] rfl rfl (by exact World.news_of_block (World.alloc_heap_new _ _)) one_cell (by unfold maxLen; omega) (by omega) (by simp; omega) ?_; intro v' w1 hown' hgrow hnil))
        have hp := OwnI.pushed Hown.out HB.out (Nat.le_refl _) HB.out.size hown' hgrow
        go_roundw
        case rel => exact ⟨k + 1, by omega, by go_num, by rw [HL.out]; exact hp.1, hp.2⟩
        case measure => simp [RowKit.intOf]; omega
      · have e10 : ((x : Int) == 10) = false := beq_eq_false_iff_ne.2 (by omega)
        by_cases x13 : x = 13
        · subst x13
          have e13 : (((13 : Nat) : Int) == 13) = true := by decide
          have e10' : (((13 : Nat) : Int) == 10) = false := by decide
          by_cases hn : k + 1 < T.length
          · obtain ⟨b', off', eb, c1⟩ := HC1.out hn
            cases eb
            have n1 : (k : Int) + 1 < (T.length : Int) := by omega
            have n0 : (0 : Int) ≤ (k : Int) + 1 := by omega
            have nt : ((k : Int) + 1).toNat = k + 1 := by omega
            by_cases y10 : y = 10
            · have hbr : brk T k = false := by rw [HBK.out]; simp [hn, y10]
              have HL := hide (lines_no hbr)
              subst y10
              have f10 : (((10 : Nat) : Int) == 10) = true := by decide
              clear hbr HBK HC1 HY
              go_wp2
              go_roundw
              case rel => exact ⟨k + 1, by omega, by go_num, by rw [HL.out]; exact Hown.out, HB.out⟩
              case measure => simp [RowKit.intOf]; omega
            · have hbr : brk T k = true := by rw [HBK.out]; simp [hn, y10]
              have HL := hide (lines_yes hbr)
              have f10 : ((y : Int) == 10) = false := beq_eq_false_iff_ne.2 (by omega)
              clear hbr HBK HC1 HY
              go_wp2_with (at_builtin; go_must (refine wpList_append_own _ rfl (.tmp 42) (.tmp 45) 38 rfl w.heap.size 3 i0 (.int .i64 0) 1 8 Tryd.underlying38 hi hz0 hz1 hz2 rfl (by decide) _ (linesTo T k).length (icells (linesTo T k)) rfl (by exact World.ownsRow.alloc Hown.out _) ⟨wr.heap.size, 0, none⟩ 1 1 [.int .i64 ((k : Int) + 1)] rfl rfl (by exact World.news_of_block (World.alloc_heap_new _ _)) one_cell (by unfold maxLen; omega) (by omega) (by simp; omega) ?_; intro v' w1 hown' hgrow hnil))
              have hp := OwnI.pushed Hown.out HB.out (Nat.le_refl _) HB.out.size hown' hgrow
              go_roundw
              case rel => exact ⟨k + 1, by omega, by go_num, by rw [HL.out]; exact hp.1, hp.2⟩
              case measure => simp [RowKit.intOf]; omega
          · have hbr : brk T k = true := by rw [HBK.out]; simp [hn]
            have HL := hide (lines_yes hbr)
            have n1 : ¬ (k : Int) + 1 < (T.length : Int) := by omega
            clear hbr HBK HC1 HY
            go_wp2_with (at_builtin; go_must (refine wpList_append_own _ rfl (.tmp 42) (.tmp 45) 38 rfl w.heap.size 3 i0 (.int .i64 0) 1 8 Tryd.underlying38 hi hz0 hz1 hz2 rfl (by decide) _ (linesTo T k).length (icells (linesTo T k)) rfl (by exact World.ownsRow.alloc Hown.out _) ⟨wr.heap.size, 0, none⟩ 1 1 [.int .i64 ((k : Int) + 1)] rfl rfl (by exact World.news_of_block (World.alloc_heap_new _ _)) one_cell (by unfold maxLen; omega) (by omega) (by simp; omega) ?_; intro v' w1 hown' hgrow hnil))
            have hp := OwnI.pushed Hown.out HB.out (Nat.le_refl _) HB.out.size hown' hgrow
            go_roundw
            case rel => exact ⟨k + 1, by omega, by go_num, by rw [HL.out]; exact hp.1, hp.2⟩
            case measure => simp [RowKit.intOf]; omega
        · have e13 : ((x : Int) == 13) = false := beq_eq_false_iff_ne.2 (by omega)
          have hbr : brk T k = false := by rw [HBK.out]; simp [x10, x13]
          have HL := hide (lines_no hbr)
          clear hbr HBK HC1 HY x10 x13
          go_wp2
          go_roundw
          case rel => exact ⟨k + 1, by omega, by go_num, by rw [HL.out]; exact Hown.out, HB.out⟩
          case measure => simp [RowKit.intOf]; omega
    · obtain rfl : k = T.length := by omega
      have d1 : ¬ (T.length : Int) < (T.length : Int) := by omega
      clear hown hB
      go_wp2
      go_ret
      exact ⟨_, rfl, Hown.out, HB.out⟩

end Go.Proofs.YthhpfdjcggfhaaaDoor
