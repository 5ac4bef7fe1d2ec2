/- The reference's Marks: of each byte whether it is a blank or of a remark. -/
import Derived.Test.YtehflaenehehhaaLMarks
import Derived.Test.YtehflaenehehhaaLTokens
import Derived.Laws.OwnMore
import Derived.Laws.MakeOwn
namespace Go.Proofs.Ytehflaenehehhaa
set_option linter.unusedVariables false
set_option linter.unusedSimpArgs false
set_option maxRecDepth 100000
open Go Go.RowKit Go.Shelf Go.Lib

theorem infoI64 : (Try.prog.info? 3).map (fun i => (i.zero, i.size, i.bytes)) = some (some (.int .i64 0), 1, 8) := by kernel_rfl
def dcells (zs : List Nat) : List Value := zs.map (fun z : Nat => Value.int .i64 (z : Int))
/-- Block g holds these numbers, and nothing else. -/
def RowI (W : World) (g : Nat) (zs : List Nat) : Prop := W.heap[g]? = some (.cells (dcells zs).toArray 3 (0, 0))
theorem RowI.lt {W : World} {g : Nat} {zs : List Nat} (h : RowI W g zs) : g < W.heap.size := (Array.getElem?_eq_some_iff.1 h).1
theorem RowI.cell {W : World} {g : Nat} {zs : List Nat} (h : RowI W g zs) {j : Nat} (hj : j < zs.length) : W.cell? ⟨g, j, none⟩ = some (.int .i64 ((nth zs j : Nat) : Int)) := by
  rw [cell_of_row W g j _ _ _ h]
  simp [dcells, nth, hj]
theorem RowI.frozen {W : World} {g : Nat} {zs : List Nat} (h : RowI W g zs) (j : Nat) : W.frozen? ⟨g, j, none⟩ = false := frozen_of_row W g j _ _ h
theorem RowI.set {W : World} {g : Nat} {zs : List Nat} (h : RowI W g zs) (j v : Nat) : RowI (W.setCell ⟨g, j, none⟩ (.int .i64 (v : Int))) g (zs.set j v) := by
  unfold RowI
  rw [Go.heap_setCell_same W g j _ _ _ h]
  simp [dcells, List.map_set]
theorem RowI.keep {W W' : World} {g : Nat} {zs : List Nat} (h : RowI W g zs) (hb : Below W.heap.size W W') : RowI W' g zs := (hb.block g h.lt).trans h

theorem run_mkI (n : Nat) (hn : n ≤ 1000000) (w : World) : ∃ w', (Instr.makeSlice 47 (.int .i64 (n : Int)) (.int .i64 (n : Int))).run Try.prog w = .ok (.slice (some ⟨w.heap.size, 0, none⟩) n n) w' ∧ RowI w' w.heap.size (List.replicate n 0) ∧ Below w.heap.size w w' ∧ w'.heap.size = w.heap.size + 1 := by
  obtain ⟨i0, hi, hz0, hz1, hz2⟩ := info_parts infoI64
  have hr := run_make (P := Try.prog) w 47 3 i0 _ Try.underlying47 hi hz0 .i64 .i64 n n (by omega) (Int.le_refl _) (by rw [hz2]; omega) (by omega)
  rw [Int.toNat_natCast, hz1] at hr
  refine ⟨_, hr, ?_, (Below.refl _ w).alloc (Nat.le_refl _) _, by simp⟩
  unfold RowI
  rw [World.alloc_heap_new]
  congr 1
  have : madeCells (Value.int .i64 0).cells (n * 1) = (dcells (List.replicate n 0)).toArray := by
    apply Array.ext'
    show (madeCells #[Value.int .i64 0] (n * 1)).toList = _
    rw [toList_madeCells_one]
    simp [dcells]
  rw [this]
theorem wpList_mkI {ops : Array Oper} {rest : List Oper} {o : Oper} {a : Act} {w : World} {Q : Exit → Act → World → Prop} (hg : o.guard = none) (x : Operand) (hop : o.op = .makeSlice 47 x x) (n : Nat) (hx : a.eval x = .int .i64 (n : Int)) (hn : n ≤ 1000000)
    (h : ∀ w', RowI w' w.heap.size (List.replicate n 0) → Below w.heap.size w w' → w'.heap.size = w.heap.size + 1 → wpList Try.prog ops Q rest (a.put o.dst (.slice (some ⟨w.heap.size, 0, none⟩) n n)) w') : wpList Try.prog ops Q (o :: rest) a w := by
  refine wpList_plain hg fun K hK => ?_
  obtain ⟨w', hrun, h2, h3, h4⟩ := run_mkI n hn w
  unfold Oper.wp
  simp [execOp, hop, hx, hrun, Result.andThen]
  exact hK _ _ (h w' h2 h3 h4)

/-- The marks of the first k bytes; 0 behind them. -/
def mkL (T : List Nat) (k : Nat) : List Nat := (List.range T.length).map (fun j => if j < k ∧ markB T j = true then 1 else 0)
theorem mkL_length (T : List Nat) (k : Nat) : (mkL T k).length = T.length := by simp [mkL]
theorem mkL_zero (T : List Nat) : mkL T 0 = List.replicate T.length 0 := by
  apply List.ext_getElem
  · simp [mkL]
  · intro j h1 h2
    simp [mkL]
theorem mkL_nth {T : List Nat} {k j : Nat} (hj : j < T.length) : nth (mkL T k) j = if j < k ∧ markB T j = true then 1 else 0 := by
  simp [nth, mkL, hj]
theorem mkL_set {T : List Nat} {k : Nat} (hm : markB T k = true) : (mkL T k).set k 1 = mkL T (k + 1) := by
  apply List.ext_getElem
  · simp [mkL]
  · intro j h1 h2
    simp only [mkL, List.getElem_set, List.getElem_map, List.getElem_range]
    by_cases e : k = j
    · subst e
      simp [hm]
    · rw [if_neg e]
      have : j < k ↔ j < k + 1 := by omega
      simp [this]
theorem mkL_same {T : List Nat} {k : Nat} (hm : markB T k = false) : mkL T (k + 1) = mkL T k := by
  apply List.ext_getElem
  · simp [mkL]
  · intro j h1 h2
    simp only [mkL, List.getElem_map, List.getElem_range]
    by_cases e : k = j
    · subst e
      simp [hm]
    · have : j < k ↔ j < k + 1 := by omega
      simp [this]

/-- A slice of marks. -/
def MarksIn (W : World) (v : Value) (T : List Nat) : Prop := ∃ b cap, v = .slice (some ⟨b, 0, none⟩) T.length cap ∧ T.length ≤ cap ∧ ∀ j, j < T.length → W.cell? ⟨b, j, none⟩ = some (.int .i64 (markAt T j))
theorem MarksIn.below {W W' : World} {v : Value} {T : List Nat} (h : MarksIn W v T) (hb : Below W.heap.size W W') : MarksIn W' v T := by
  obtain ⟨b, cap, h1, h2, h3⟩ := h
  exact ⟨b, cap, h1, h2, fun j hj => (hb.cell (p := ⟨b, j, none⟩) (block_lt (h3 j hj))).trans (h3 j hj)⟩

/-- What a round does: the byte's mark is set, or it stays. -/
theorem mark_step {W : World} {g : Nat} {T : List Nat} {k : Nat} (h : RowI W g (mkL T k)) (hm : markB T k = true) : RowI (W.setCell ⟨g, k, none⟩ (.int .i64 1)) g (mkL T (k + 1)) := by
  have := h.set k 1
  rw [mkL_set hm] at this
  exact this
theorem mark_stay {W : World} {g : Nat} {T : List Nat} {k : Nat} (h : RowI W g (mkL T k)) (hm : markB T k = false) : RowI W g (mkL T (k + 1)) := by
  rw [mkL_same hm]
  exact h

set_option maxHeartbeats 8000000 in
theorem rmarks_calls (w : World) (ao : Option Addr) (cap : Nat) (T : List Nat) (h : Byts w (.slice ao T.length cap) T) (hlen : T.length ≤ 100000) (hcap : T.length ≤ cap) :
    Calls Try.prog 20 #[.slice ao T.length cap] w fun e w' => ∃ rv, e = .returned rv ∧ MarksIn w' rv T ∧ Below w.heap.size w w' := by
  have H := hide h
  clear h
  go_enter Try.func20, Try.ntmps20
  go_wp2_with (at_make; go_must (refine wpList_mkI rfl _ rfl T.length rfl (by omega) ?_; intro w1 hr1 hb1 hz1))
  obtain ⟨g, hg⟩ : ∃ g, g = w.heap.size := ⟨_, rfl⟩
  rw [← hg] at hr1 hb1
  rw [← mkL_zero] at hr1
  have Hg := hide hg
  have HR1 := hide hr1
  have HB1 := hide hb1
  clear hr1 hb1 hz1
  rw [← hg]
  clear hg
  go_loopw [4, 5] (fun r i wr => ∃ k : Nat, k ≤ T.length ∧ r = .bool (remAt T k) ∧ i = .int .i64 (k : Int) ∧ RowI wr g (mkL T k) ∧ Below g w wr) (fun _ i _ => T.length - (RowKit.intOf i).toNat)
  case atStart => exact ⟨0, Nat.zero_le _, rfl, rfl, HR1.out, HB1.out⟩
  case round =>
    obtain ⟨k, hk, rfl, rfl, hrow, hB⟩ := hrel
    clear HR1 HB1
    by_cases hlt : k < T.length
    · obtain ⟨_, _, e, hsm, hcs⟩ := H.out
      cases e
      obtain ⟨b, off, rfl, hc⟩ := hcs k hlt
      have c0 : wr.cell? ⟨b, off + k, none⟩ = some (.int .u8 ((nth T k : Nat) : Int)) := (hB.cell (p := ⟨b, off + k, none⟩) (by rw [Hg.out]; exact block_lt hc)).trans hc
      have c1 : Hid (k + 1 < T.length → wr.cell? ⟨b, off + (k + 1), none⟩ = some (.int .u8 ((nth T (k + 1) : Nat) : Int))) := fun hl => by
        obtain ⟨b', off', e, hc'⟩ := hcs (k + 1) hl
        cases e
        exact (hB.cell (p := ⟨b, off + (k + 1), none⟩) (by rw [Hg.out]; exact block_lt hc')).trans hc'
      have c3 : wr.cell? ⟨g, k, none⟩ = some (.int .i64 ((nth (mkL T k) k : Nat) : Int)) := hrow.cell (by rw [mkL_length]; exact hlt)
      have f3 := hrow.frozen k
      have d1 : (k : Int) < (T.length : Int) := by omega
      have d0 : (0 : Int) ≤ (k : Int) := by omega
      have HR := hide hrow
      have HB := hide hB
      have HRS : Hid (remAt T (k + 1) = ((remAt T k && !decide (nth T k = 10)) || slashB T k)) := rfl
      have HM : Hid (markB T k = (remAt T (k + 1) || blankB (nth T k))) := rfl
      have HSL : Hid (slashB T k = (decide (nth T k = 47) && decide (k + 1 < T.length) && decide (nth T (k + 1) = 47))) := rfl
      generalize hMV : nth (mkL T k) k = mv at c3
      clear hMV hcs hc hrow hB hsm
      generalize hX : nth T k = x at *
      generalize hX1 : nth T (k + 1) = x1 at *
      generalize hRA : remAt T k = ra at *
      clear hX hX1 hRA
      by_cases g10 : x = 10
      · subst g10
        cases ra
        · have eR : remAt T (k + 1) = false := by rw [HRS.out, HSL.out]; simp
          have eM : markB T k = true := by rw [HM.out, eR]; rfl
          clear HRS HM HSL
          go_wp2
          go_roundw
          case rel => exact ⟨k + 1, by omega, by rw [eR], by go_num, mark_step HR.out eM, HB.out.setCell (p := ⟨g, k, none⟩) (Nat.le_refl _) _⟩
          case measure => simp [RowKit.intOf]; omega
        · have eR : remAt T (k + 1) = false := by rw [HRS.out, HSL.out]; simp
          have eM : markB T k = true := by rw [HM.out, eR]; rfl
          clear HRS HM HSL
          go_wp2
          go_roundw
          case rel => exact ⟨k + 1, by omega, by rw [eR], by go_num, mark_step HR.out eM, HB.out.setCell (p := ⟨g, k, none⟩) (Nat.le_refl _) _⟩
          case measure => simp [RowKit.intOf]; omega
      have e10 : ((x : Int) == 10) = false := beq_eq_false_iff_ne.2 (by omega)
      cases ra with
      | true =>
        have eR : remAt T (k + 1) = true := by rw [HRS.out, HSL.out]; simp [g10]
        have eM : markB T k = true := by rw [HM.out, eR]; rfl
        clear HRS HM HSL g10
        go_wp2
        go_roundw
        case rel => exact ⟨k + 1, by omega, by rw [eR], by go_num, mark_step HR.out eM, HB.out.setCell (p := ⟨g, k, none⟩) (Nat.le_refl _) _⟩
        case measure => simp [RowKit.intOf]; omega
      | false =>
        by_cases g47 : x = 47
        · subst g47
          by_cases gl : k + 1 < T.length
          · have c1' := c1.out gl
            have d2 : (k : Int) + 1 < (T.length : Int) := by omega
            by_cases g1 : x1 = 47
            · subst g1
              have eR : remAt T (k + 1) = true := by rw [HRS.out, HSL.out]; simp [gl]
              have eM : markB T k = true := by rw [HM.out, eR]; rfl
              clear HRS HM HSL g10
              go_wp2
              go_roundw
              case rel => exact ⟨k + 1, by omega, by rw [eR], by go_num, mark_step HR.out eM, HB.out.setCell (p := ⟨g, k, none⟩) (Nat.le_refl _) _⟩
              case measure => simp [RowKit.intOf]; omega
            · have e47 : ((x1 : Int) == 47) = false := beq_eq_false_iff_ne.2 (by omega)
              have eR : remAt T (k + 1) = false := by rw [HRS.out, HSL.out]; simp [g1]
              have eM : markB T k = false := by rw [HM.out, eR]; rfl
              clear HRS HM HSL g10 g1
              go_wp2
              go_roundw
              case rel => exact ⟨k + 1, by omega, by rw [eR], by go_num, mark_stay HR.out eM, HB.out⟩
              case measure => simp [RowKit.intOf]; omega
          · have d2 : ¬ (k : Int) + 1 < (T.length : Int) := by omega
            have eR : remAt T (k + 1) = false := by rw [HRS.out, HSL.out]; simp [gl]
            have eM : markB T k = false := by rw [HM.out, eR]; rfl
            clear HRS HM HSL g10
            go_wp2
            go_roundw
            case rel => exact ⟨k + 1, by omega, by rw [eR], by go_num, mark_stay HR.out eM, HB.out⟩
            case measure => simp [RowKit.intOf]; omega
        have e47 : ((x : Int) == 47) = false := beq_eq_false_iff_ne.2 (by omega)
        by_cases g32 : x = 32
        · subst g32
          have eR : remAt T (k + 1) = false := by rw [HRS.out, HSL.out]; simp
          have eM : markB T k = true := by rw [HM.out, eR]; rfl
          clear HRS HM HSL g10 g47
          go_wp2
          go_roundw
          case rel => exact ⟨k + 1, by omega, by rw [eR], by go_num, mark_step HR.out eM, HB.out.setCell (p := ⟨g, k, none⟩) (Nat.le_refl _) _⟩
          case measure => simp [RowKit.intOf]; omega
        have e32 : ((x : Int) == 32) = false := beq_eq_false_iff_ne.2 (by omega)
        by_cases g9 : x = 9
        · subst g9
          have eR : remAt T (k + 1) = false := by rw [HRS.out, HSL.out]; simp
          have eM : markB T k = true := by rw [HM.out, eR]; rfl
          clear HRS HM HSL g10 g47
          go_wp2
          go_roundw
          case rel => exact ⟨k + 1, by omega, by rw [eR], by go_num, mark_step HR.out eM, HB.out.setCell (p := ⟨g, k, none⟩) (Nat.le_refl _) _⟩
          case measure => simp [RowKit.intOf]; omega
        have e9 : ((x : Int) == 9) = false := beq_eq_false_iff_ne.2 (by omega)
        by_cases g13 : x = 13
        · subst g13
          have eR : remAt T (k + 1) = false := by rw [HRS.out, HSL.out]; simp
          have eM : markB T k = true := by rw [HM.out, eR]; rfl
          clear HRS HM HSL g10 g47
          go_wp2
          go_roundw
          case rel => exact ⟨k + 1, by omega, by rw [eR], by go_num, mark_step HR.out eM, HB.out.setCell (p := ⟨g, k, none⟩) (Nat.le_refl _) _⟩
          case measure => simp [RowKit.intOf]; omega
        have e13 : ((x : Int) == 13) = false := beq_eq_false_iff_ne.2 (by omega)
        have eR : remAt T (k + 1) = false := by rw [HRS.out, HSL.out]; simp [g47]
        have eM : markB T k = false := by rw [HM.out, eR]; simp [blankB, g10, g32, g9, g13]
        clear HRS HM HSL g10 g47 g32 g9 g13
        go_wp2
        go_roundw
        case rel => exact ⟨k + 1, by omega, by rw [eR], by go_num, mark_stay HR.out eM, HB.out⟩
        case measure => simp [RowKit.intOf]; omega
    · obtain rfl : k = T.length := by omega
      have d1 : ¬ ((T.length : Nat) : Int) < ((T.length : Nat) : Int) := by omega
      have HR := hide hrow
      have HB := hide hB
      clear hrow hB
      go_wp2
      go_ret
      refine ⟨_, rfl, ⟨g, T.length, rfl, Nat.le_refl _, fun j hj => ?_⟩, ?_⟩
      · rw [HR.out.cell (by rw [mkL_length]; exact hj), mkL_nth hj]
        unfold markAt
        by_cases hm : markB T j = true
        · rw [if_pos ⟨hj, hm⟩, if_pos hm]
          rfl
        · rw [if_neg (fun e => hm e.2), if_neg hm]
          rfl
      · rw [← Hg.out]
        exact HB.out

end Go.Proofs.Ytehflaenehehhaa
