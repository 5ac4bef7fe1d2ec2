/- The reference's Text: a number's digits as a text. -/
import Derived.Test.YtpenhmkodakpaaaDoorRText
namespace Go.Proofs.YtpenhmkodakpaaaDoor
set_option linter.unusedVariables false
set_option linter.unusedSimpArgs false
set_option maxRecDepth 100000
open Go Go.RowKit Go.Shelf Go.Lib

/-- Bytes that the call has gathered in memory of its own. -/
def OwnB (n₀ : Nat) (W : World) (v : Value) (T : List UInt8) : Prop := W.ownsRow n₀ 5 1 v T.length (cellsOf T)

theorem OwnB.pushed {n₀ : Nat} {w wr w1 : World} {v v' : Value} {T : List UInt8} {o : Obj} {u : UInt8} (h : OwnB n₀ wr v T) (hB : Below n₀ w wr) (hn2 : n₀ ≤ wr.heap.size)
    (hown : w1.ownsRow n₀ 5 1 v' (T.length + 1) (cellsOf T ++ [.int .u8 (u.toNat : Int)])) (hg : (wr.alloc o).grownBy w1 v.ownBlock) :
    OwnB n₀ w1 v' (T ++ [u]) ∧ Below n₀ w w1 := by
  refine ⟨?_, ?_⟩
  · unfold OwnB
    have e1 : (T ++ [u]).length = T.length + 1 := by simp
    have e2 : cellsOf (T ++ [u]) = cellsOf T ++ [.int .u8 (u.toNat : Int)] := by simp [cellsOf, strCells]
    rw [e1, e2]
    exact hown
  · exact (hB.alloc hn2 o).grown hg (by simp; omega) (fun j hj => (h.lt j hj).1)

theorem RRes.argOf {W w : World} {v u : Value} {n : Nat} (h : RRes W v n) (g : RArg w u n) : RArg W v n := by
  obtain ⟨xs, h1, h2, h3⟩ := h
  obtain ⟨ys, k1, k2, k3, k4⟩ := g
  have : xs = ys := h2.unique (by decide) k2 (by rw [h3, k3])
  exact ⟨xs, h1, h2, h3, by rw [this]; exact k4⟩

/-- The text of the highest digits. -/
def heads (ds : List Nat) (k : Nat) : List UInt8 := ((ds.drop k).reverse).map (fun d => UInt8.ofNat (48 + d))

theorem heads_step {ds : List Nat} {j : Nat} (hj : j < ds.length) : heads ds j = heads ds (j + 1) ++ [UInt8.ofNat (48 + nth ds j)] := by
  unfold heads
  rw [List.drop_eq_getElem_cons hj, List.reverse_cons, List.map_append, nth_eq hj]
  rfl

theorem heads_length (ds : List Nat) (k : Nat) : (heads ds k).length = ds.length - k := by simp [heads]

theorem byte_toNat {d : Nat} (h : d < 10) : (UInt8.ofNat (48 + d)).toNat = 48 + d := by
  rw [UInt8.toNat_ofNat']
  omega

theorem conv_bytes {n₀ : Nat} {W : World} {v : Value} {T : List UInt8} (h : OwnB n₀ W v T) : (convert 66 9 v).run Tryd.prog W = .ok (.string ⟨T.toArray⟩) W := by
  obtain ⟨ta, tc, rfl⟩ := ownsRow_slice h
  rcases h.2 with ⟨hv, h0⟩ | ⟨gt, ct, cur, hv, _⟩
  · injection hv with h1 h2 h3
    subst h1; subst h3
    rw [h0, run_convert_bytes_nil W _ _ Tryd.underlying66 Tryd.underlying5 _ _ _ Tryd.underlying9, List.eq_nil_of_length_eq_zero h0]
    rfl
  · injection hv with h1 h2 h3
    subst h1; subst h3
    refine run_convert_bytes_back (P := Tryd.prog) W 66 9 5 ⟨gt, 0, none⟩ tc T Tryd.underlying66 Tryd.underlying5 Tryd.underlying9 (fun j hj => ?_)
    have := h.cells (g := gt) rfl j (.int .u8 (T[j].toNat : Int)) (by simp [cellsOf, strCells, hj])
    exact this

set_option maxRecDepth 100000 in
set_option maxHeartbeats 2000000 in
theorem rtext_calls {w : World} {av : Value} {n : Nat} (hx : RArg w av n) :
    Calls Tryd.prog 79 #[av] w fun e w' => e = .returned (.string ⟨(decDigits n).toArray⟩) ∧ Below w.heap.size w w' := by
  have Hx := hide hx
  clear hx
  obtain ⟨i0, hi, hz0, hz1, hz2⟩ := info_parts infoU8
  go_enter Tryd.func79, Tryd.ntmps79
  go_wp2_with fail
  refine (trim_arg Hx.out).mono ?_
  rintro e w1 ⟨l, rfl, ql, hb1⟩
  obtain ⟨xs, hx0, cx, hv, lx⟩ := ql.argOf Hx.out
  obtain ⟨ao, ca, rfl⟩ := hx0.len
  have Hv := hide hv
  have Hc := hide cx
  have Hb1 := hide hb1
  clear ql hv cx hb1 Hx
  by_cases hz : xs = []
  · subst hz
    go_wp2
    go_ret
    refine ⟨?_, Hb1.out⟩
    rw [← Hv.out, val_nil, decDigits_small (by decide)]
    rfl
  · have hlp : 0 < xs.length := by
      cases xs with
      | nil => exact absurd rfl hz
      | cons a r => simp
    have hl0 : ((xs.length : Int) == 0) = false := beq_eq_false_iff_ne.2 (by omega)
    have Hz := hide hz
    have HX := hide hx0
    clear hz hx0
    go_wp2
    go_loopw [4, 5] (fun bv iv wr => ∃ (k : Nat) (i : Int), iv = .int .i64 i ∧ i = (k : Int) - 1 ∧ k ≤ xs.length ∧ Hid (OwnB w1.heap.size wr bv (heads xs k)) ∧ Hid (Below w1.heap.size w1 wr)) (fun _ iv _ => (RowKit.intOf iv + 1).toNat)
    case atStart =>
      refine ⟨xs.length, _, rfl, rfl, Nat.le_refl _, ?_, Below.refl _ _⟩
      have e : heads xs xs.length = [] := List.eq_nil_of_length_eq_zero (by rw [heads_length]; omega)
      rw [e]
      exact World.ownsRow_nil _ _ _ _
    case round =>
      obtain ⟨k, i, rfl, hi2, hk, hO, hB⟩ := hrel
      rcases Nat.eq_zero_or_pos k with rfl | hkp
      · obtain rfl : i = -1 := by omega
        have hno : ¬ ((-1 : Int) ≥ 0) := by omega
        have hcv := conv_bytes hO.out
        have e0 : Hid (heads xs 0 = decDigits n) := by
          show _ = _
          rw [← Hv.out, decDigits_val xs Hc.out Hz.out]
          rfl
        clear hi2
        go_wp2
        go_ret
        exact ⟨by rw [← e0.out]; rfl, bth Hb1.out hB.out⟩
      · obtain ⟨j, rfl⟩ : ∃ j, k = j + 1 := ⟨k - 1, by omega⟩
        obtain rfl : i = (j : Int) := by omega
        obtain ⟨b2, o2, eb⟩ := HX.out.addr (j := j) (by omega)
        subst eb
        have c2 : wr.cell? ⟨b2, o2 + j, none⟩ = some (.int .i64 ((nth xs j : Nat) : Int)) := (HX.out.below hB.out).cellAt rfl (by omega)
        have hd9 : nth xs j < 10 := HX.out.small.nth (by decide) j
        have dj : (j : Int) < (xs.length : Int) := by omega
        have dge : (j : Int) ≥ 0 := by omega
        have hstep := hide (heads_step (ds := xs) (j := j) (by omega))
        have hlt2 : (heads xs (j + 1)).length ≤ 100000 := by rw [heads_length]; omega
        have hbt := hide (byte_toNat hd9)
        generalize hds : heads xs (j + 1) = T at *
        generalize hdd : nth xs j = d at *
        have Hds := hide hds
        have Hdd := hide hdd
        have hw8 : IntKind.u8.wrap (48 + (d : Int)) = ((48 + d : Nat) : Int) := by
          simp [IntKind.wrap, IntKind.bits, IntKind.signed]
          omega
        clear hds hdd hi2
        go_wp2_with (at_builtin; go_must (refine wpList_append_own _ rfl (.tmp 18) (.tmp 25) 66 rfl w1.heap.size 5 i0 (.int .u8 0) 1 1 Tryd.underlying66 hi hz0 hz1 hz2 rfl (by decide) _ T.length (cellsOf T) rfl (by exact World.ownsRow.alloc hO.out _) ⟨wr.heap.size, 0, none⟩ 1 1 [.int .u8 ((48 + d : Nat) : Int)] rfl rfl (by exact World.news_of_block (World.alloc_heap_new _ _)) one_cell (by unfold maxLen; omega) (by omega) (by have := hB.out.size; simp; omega) ?_; intro v' w2 hown' hgrow hnil))
        have hp := OwnB.pushed (u := UInt8.ofNat (48 + d)) hO.out hB.out hB.out.size (by rw [hbt.out]; exact hown') hgrow
        go_roundw
        case rel =>
          refine ⟨j, _, rfl, rfl, by omega, ?_, hp.2⟩
          have := hp.1
          rw [hstep.out]
          exact this
        case measure => simp [RowKit.intOf]

end Go.Proofs.YtpenhmkodakpaaaDoor
