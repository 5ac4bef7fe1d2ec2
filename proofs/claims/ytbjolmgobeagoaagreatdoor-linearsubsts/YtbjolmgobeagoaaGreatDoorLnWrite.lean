/- Texts written to a builder: WriteString, WriteByte; a number's text: writeNumber. -/
import Derived.Test.YtbjolmgobeagoaaGreatDoorLnBuild
import Derived.Test.YtbjolmgobeagoaaGreatDoorBigText
namespace Go.Proofs.YtbjolmgobeagoaaGreatDoor
set_option linter.unusedVariables false
set_option linter.unusedSimpArgs false
set_option maxRecDepth 100000
open Go Go.RowKit Go.Shelf Go.Lib

def WsE (B b : Nat) (w : World) (l : List UInt8) (e : Ending) (w' : World) : Prop := (∃ v, e = .returned v) ∧ Bd B b l w' ∧ BtB B b w w'

set_option maxHeartbeats 1000000 in
theorem ws_calls {B b : Nat} {l : List UInt8} {w : World} (h : Bd B b l w) (T : List UInt8) (hl : l.length + T.length ≤ 1000000000000) (hB : B ≤ w.heap.size) :
    Calls Tryz.prog 74 #[.pointer (some ⟨b, 0, none⟩), .string ⟨T.toArray⟩] w fun e w' => e = .returned (.tuple #[.int .i64 (T.length : Int), .nilIface]) ∧ Bd B b (l ++ T) w' ∧ BtB B b w w' := by
  obtain ⟨i0, hi, hz0, hz1, hz2⟩ := info_parts infoByt
  have hcc := copy_calls h
  have hsz : (⟨T.toArray⟩ : ByteArray).size = T.length := by simp [ByteArray.size]
  go_enter Tryz.func74, Tryz.ntmps74
  go_wp2_with fail
  refine hcc.mono ?_
  rintro e w1 ⟨rfl, ⟨v, hv⟩, hb1⟩
  have c0 : w1.cell? ⟨b, 0, none⟩ = some (.pointer (some ⟨b, 0, none⟩)) := by rw [Lib.cell_of_heap hv.1]; rfl
  have c1 : w1.cell? ⟨b, 1, none⟩ = some v := by rw [Lib.cell_of_heap hv.1]; rfl
  have HV := hide hv
  have HB1 := hide hb1
  have HSZ := hide hsz
  have hown := hv.2
  clear hcc hv hb1 hsz
  go_wp2_with (at_builtin; go_must (refine Lib.wpList_append_own_string _ rfl _ _ 115 9 rfl B 5 i0 Tryz.underlying115 Tryz.underlying9 hi hz0 hz1 hz2 _ _ _ rfl hown ⟨T.toArray⟩ rfl ?c3 ?c4 ?c5 ?_))
  case c3 => rw [HSZ.out, byteCells_length]; unfold maxLen; omega
  case c4 => rw [HSZ.out, byteCells_length]; omega
  case c5 => have := HB1.out.size; omega
  intro v' w2 hown' hgrow _
  have hput := bd_put HV.out hgrow hown' (l ++ T) (by have := HB1.out.size; omega) (by first | rw [HSZ.out, byteCells_length, List.length_append] | rw [byteCells_length, List.length_append]) (by rw [byteCells_append]; rfl)
  have hb2 : w2.heap[b]? = some (.cells #[.pointer (some ⟨b, 0, none⟩), v] 117 (0, 0)) := (hgrow.block b HV.out.lt (fun e => HV.out.apart e.symm)).trans HV.out.1
  have d0 : w2.cell? ⟨b, 0, none⟩ = some (.pointer (some ⟨b, 0, none⟩)) := by rw [Lib.cell_of_heap hb2]; rfl
  have d1 : w2.cell? ⟨b, 1, none⟩ = some v := by rw [Lib.cell_of_heap hb2]; rfl
  have f1 : w2.frozen? ⟨b, 1, none⟩ = false := Lib.frozen_of_heap hb2 1
  obtain ⟨ao, n', cap, rfl⟩ : ∃ ao n' cap, v' = .slice ao n' cap := by
    rcases hown'.2 with ⟨hv, _⟩ | ⟨g, cap, cur, hv, _⟩
    · exact ⟨_, _, _, hv⟩
    · exact ⟨_, _, _, hv⟩
  have HP := hide hput
  clear hput hb2 hown' hgrow hown c0 c1
  have hsz := HSZ.out
  go_wp2
  go_ret2
  exact ⟨by simp, HP.out.1, HB1.out.trans HP.out.2⟩

set_option maxHeartbeats 1000000 in
theorem wb_calls {B b : Nat} {l : List UInt8} {w : World} (h : Bd B b l w) (x : UInt8) (hl : l.length ≤ 1000000000000) (hB : B ≤ w.heap.size) :
    Calls Tryz.prog 107 #[.pointer (some ⟨b, 0, none⟩), .int .u8 (x.toNat : Int)] w fun e w' => e = .returned .nilIface ∧ Bd B b (l ++ [x]) w' ∧ BtB B b w w' := by
  obtain ⟨i0, hi, hz0, hz1, hz2⟩ := info_parts infoByt
  have hcc := copy_calls h
  generalize hxx : ((x.toNat : Nat) : Int) = xi at *
  have HXX := hide hxx
  clear hxx
  go_enter Tryz.func107, Tryz.ntmps107
  go_wp2_with fail
  refine hcc.mono ?_
  rintro e w1 ⟨rfl, ⟨v, hv⟩, hb1⟩
  have c0 : w1.cell? ⟨b, 0, none⟩ = some (.pointer (some ⟨b, 0, none⟩)) := by rw [Lib.cell_of_heap hv.1]; rfl
  have c1 : w1.cell? ⟨b, 1, none⟩ = some v := by rw [Lib.cell_of_heap hv.1]; rfl
  have hbl := bel w1 (.cells #[.int .u8 xi] 5)
  have hv2 : BdP B b (.pointer (some ⟨b, 0, none⟩)) v l (w1.alloc (.cells #[.int .u8 xi] 5)) := hv.cel (Cel.of hbl)
  have HV := hide hv2
  have HB1 := hide (hb1.trans (BtB.of hbl (by have := hb1.size; omega)))
  have hown := hv2.2
  have lb : b < w1.heap.size := hv.lt
  have hsz1 : B ≤ (w1.alloc (.cells #[.int .u8 xi] 5)).heap.size := by have := HB1.out.size; omega
  have e0 := heap_alloc_new w1 (.cells #[.int .u8 xi] 5)
  have x0 : (w1.alloc (.cells #[.int .u8 xi] 5)).cell? ⟨w1.heap.size, 0, none⟩ = some (.int .u8 xi) := World.cell?_alloc_mark w1 _ _ (0, 0) 0
  clear hcc hv hb1 hv2 hbl e0
  obtain ⟨v', w2, hrun, hown', hgrow, _⟩ := run_append_own (P := Tryz.prog) (w1.alloc (.cells #[.int .u8 xi] 5)) B 115 115 5 i0 (.int .u8 0) 1 1 Tryz.underlying115 hi hz0 hz1 hz2 rfl (by decide) v (byteCells l).length (byteCells l) hown ⟨w1.heap.size, 0, none⟩ 1 1 [.int .u8 xi] rfl (fun j u hj => by
    cases j with
    | zero => simp at hj; subst hj; exact x0
    | succ j => simp at hj) (fun u hu => by simp at hu; subst hu; rfl) (by rw [byteCells_length]; unfold maxLen; omega) (by rw [byteCells_length]; omega) hsz1
  have hput := bd_put HV.out hgrow hown' (l ++ [x]) hsz1 (by rw [byteCells_length, List.length_append]; rfl) (by rw [byteCells_append, ← HXX.out]; rfl)
  have hb2 : w2.heap[b]? = some (.cells #[.pointer (some ⟨b, 0, none⟩), v] 117 (0, 0)) := (hgrow.block b HV.out.lt (fun e => HV.out.apart e.symm)).trans HV.out.1
  have d0 : w2.cell? ⟨b, 0, none⟩ = some (.pointer (some ⟨b, 0, none⟩)) := by rw [Lib.cell_of_heap hb2]; rfl
  have d1 : w2.cell? ⟨b, 1, none⟩ = some v := by rw [Lib.cell_of_heap hb2]; rfl
  have f1 : w2.frozen? ⟨b, 1, none⟩ = false := Lib.frozen_of_heap hb2 1
  obtain ⟨ao, n', cap, rfl⟩ : ∃ ao n' cap, v' = .slice ao n' cap := by
    rcases hown'.2 with ⟨hv, _⟩ | ⟨g, cap, cur, hv, _⟩
    · exact ⟨_, _, _, hv⟩
    · exact ⟨_, _, _, hv⟩
  have HP := hide hput
  clear hput hb2 hown' hgrow hown x0
  go_wp2_with (at_builtin; go_must (refine Lib.wpList_append_run _ rfl _ _ _ _ rfl _ _ rfl rfl _ _ hrun ?_))
  go_ret
  exact ⟨rfl, HP.out.1, HB1.out.trans HP.out.2⟩

/-- A number's text behind another: a sign stands between, if it is not below 0. -/
def wrN (l : List UInt8) (z : Int) : List UInt8 := (if l ≠ [] ∧ 0 ≤ z then l ++ [43] else l) ++ itoa z
theorem sg_ge (z : Int) : decide (0 ≤ sg z) = decide (0 ≤ z) := by
  unfold sg
  split
  · rename_i h
    rw [decide_eq_false (by omega), decide_eq_false (by omega)]
  · split
    · rename_i h1 h2
      rw [decide_eq_true (by omega), decide_eq_true (by omega)]
    · rename_i h1 h2
      rw [decide_eq_true (by omega), decide_eq_true (by omega)]

theorem sign_ge {w : World} {v : Value} {z : Int} (hv : BArg w v z) : Calls Tryz.prog 65 #[v] w fun e w' => ∃ s, e = .returned (.int .i64 s) ∧ decide (0 ≤ s) = decide (0 ≤ z) ∧ Below w.heap.size w w' :=
  (sign_calls hv).mono fun e w' ⟨he, hb⟩ => ⟨sg z, he, sg_ge z, hb⟩
theorem isLong {l : List UInt8} (h : l ≠ []) : (0 : Int) < ((byteCells l).length : Int) := by
  rw [byteCells_length]
  have := List.length_pos_iff.2 h
  omega

set_option maxHeartbeats 2000000 in
theorem wn_calls {B b : Nat} {l : List UInt8} {w : World} {v : Value} {z : Int} (h : Bd B b l w) (hv : BArg w v z) (hB : B ≤ w.heap.size) (hbB : b ≤ B) (hl : l.length ≤ 100000000000) (hz : (itoa z).length ≤ 1000000000) (htab : TabIs Tryz.prog w "internal/strconv.uint64pow10" .u64 pow10Tab) (hT : ∀ W, BtB B b w W → TabIs Tryz.prog W "internal/strconv.uint64pow10" .u64 pow10Tab) (hA : ∀ W, BtB B b w W → BArg W v z) :
    Calls Tryz.prog 73 #[.pointer (some ⟨b, 0, none⟩), v] w fun e w' => WsE B b w (wrN l z) e w' := by
  obtain ⟨cn, cm, n, rfl, hm, hzz⟩ := id hv
  obtain ⟨ca, cL, cc, rfl⟩ := hm.shape
  clear hm hzz
  have hb0 := bel w (.cells #[.bool cn, .slice ca cL cc] 24)
  have hlen := Tryz.Builder_Len b b (byteCells l) _ ((h.below hb0).lib hbB)
  have tb := Two.new w (.bool cn) (.slice ca cL cc) 24
  have HB0 := hide hb0
  have HH := hide (h.below hb0)
  have HNB : Hid (b < w.heap.size) := h.lt
  have TB := hide tb
  have HT := hide hT
  have HA := hide hA
  have HBB : Hid (BtB B b w (w.alloc (.cells #[.bool cn, .slice ca cL cc] 24))) := BtB.of hb0 hB
  have hsg := sign_ge (hv.below hb0)
  generalize hwA : w.alloc (.cells #[.bool cn, .slice ca cL cc] 24) = wA at *
  have HWA := hide hwA
  have HSZ : Hid (B ≤ wA.heap.size) := Nat.le_trans hB HB0.out.size
  obtain ⟨c0, c1, _, _, _, _⟩ := tb.every
  clear hwA hb0 tb h hv htab hT hA
  -- what is written at the end
  have HLAST : Hid (∀ (l' : List UInt8) (W : World), l'.length ≤ 100000000001 → Bd B b l' W → BtB B b w W → (B ≤ W.heap.size) → ∀ W2, Below W.heap.size W W2 → Calls Tryz.prog 74 #[.pointer (some ⟨b, 0, none⟩), .string ⟨(itoa z).toArray⟩] W2 fun e w' => e = .returned (.tuple #[.int .i64 ((itoa z).length : Int), .nilIface]) ∧ Bd B b (l' ++ itoa z) w' ∧ BtB B b W2 w') :=
    fun l' W hl' hbd hbt hBW W2 hb2 => ws_calls (hbd.below hb2) (itoa z) (by omega) (Nat.le_trans hBW hb2.size)
  by_cases hl0 : l = []
  · subst hl0
    have e0 : wrN [] z = [] ++ itoa z := by unfold wrN; simp
    rw [e0]
    clear hsg e0
    simp only [byteCells, List.map_nil, List.length_nil] at hlen
    have hlen2 : Calls Tryz.prog 76 #[.pointer (some ⟨b, 0, none⟩)] wA fun e w' => e = .returned (.int .i64 0) ∧ w' = wA := by simpa using hlen
    clear hlen
    go_enter Tryz.func73, Tryz.ntmps73
    go_upto_region 1 with fail
    rw [HWA.out]
    go_wp2_with fail
    refine hlen2.mono ?_
    rintro e w1 ⟨rfl, hw1⟩
    rw [hw1]
    clear hw1 hlen2
    go_wp2_with fail
    refine (btext_calls (HA.out wA HBB.out) (HT.out wA HBB.out)).mono ?_
    rintro e w2 ⟨rfl, hb2⟩
    go_wp2_with fail
    refine (HLAST.out [] wA (by simp) HH.out HBB.out HSZ.out w2 hb2).mono ?_
    rintro e w3 ⟨rfl, hd3, hb3⟩
    have HD3 := hide hd3
    have HF3 := hide ((HBB.out.trans (BtB.of hb2 HSZ.out)).trans hb3)
    clear hd3 hb3 hb2
    go_wp2
    go_end0
    exact ⟨⟨_, rfl⟩, HD3.out, HF3.out⟩
  · have hl1 := isLong hl0
    generalize hbl : ((byteCells l).length : Int) = bl at *
    by_cases hz0 : 0 ≤ z
    · have e0 : wrN l z = (l ++ [43]) ++ itoa z := by unfold wrN; rw [if_pos ⟨hl0, hz0⟩]
      rw [e0]
      have HL0 := hide hl0
      clear hl0 e0 hbl
      go_enter Tryz.func73, Tryz.ntmps73
      go_upto_region 1 with fail
      rw [HWA.out]
      go_wp2_with fail
      refine hlen.mono ?_
      rintro e w1 ⟨rfl, hw1⟩
      rw [hw1]
      clear hw1 hlen
      go_wp2_with fail
      refine hsg.mono ?_
      rintro e w2 ⟨s, rfl, hs, hb2⟩
      rw [decide_eq_true hz0] at hs
      have hbd2 := HH.out.below hb2
      have hf2 := HBB.out.trans (BtB.of hb2 HSZ.out)
      have hsz2 : B ≤ w2.heap.size := Nat.le_trans HSZ.out hb2.size
      have hwb := wb_calls hbd2 43 (by omega) hsz2
      have tb2 := TB.out.keep hb2
      have TB2 := hide tb2
      have HF2 := hide hf2
      have HSZ2 := hide hsz2
      have hs' : (0 : Int) ≤ s := of_decide_eq_true hs
      clear hsg hb2 hbd2 hf2 hsz2 tb2
      go_wp2_with fail
      refine hwb.mono ?_
      rintro e w3 ⟨rfl, hd3, hb3⟩
      have HD3 := hide hd3
      have HF3 := hide (HF2.out.trans hb3)
      have HSZ3 : Hid (B ≤ w3.heap.size) := Nat.le_trans HSZ2.out hb3.size
      have TB3 : Hid (Two w3 w.heap.size (.bool cn) (.slice ca cL cc) 24) := hb3.kin _ _ _ _ TB2.out (by decide) (by have := HNB.out; omega)
      obtain ⟨c0, c1, _, _, _, _⟩ := TB3.out.every
      clear hwb hd3 hb3
      go_wp2_with fail
      refine (btext_calls (HA.out w3 HF3.out) (HT.out w3 HF3.out)).mono ?_
      rintro e w4 ⟨rfl, hb4⟩
      go_wp2_with fail
      refine (HLAST.out (l ++ [43]) w3 (by simp; omega) HD3.out HF3.out HSZ3.out w4 hb4).mono ?_
      rintro e w5 ⟨rfl, hd5, hb5⟩
      have HD5 := hide hd5
      have HF5 := hide ((HF3.out.trans (BtB.of hb4 HSZ3.out)).trans hb5)
      clear hd5 hb5 hb4
      go_wp2
      go_end0
      exact ⟨⟨_, rfl⟩, HD5.out, HF5.out⟩
    · have e0 : wrN l z = l ++ itoa z := by unfold wrN; rw [if_neg (fun h => hz0 h.2)]
      rw [e0]
      have HL0 := hide hl0
      clear hl0 e0 hbl
      go_enter Tryz.func73, Tryz.ntmps73
      go_upto_region 1 with fail
      rw [HWA.out]
      go_wp2_with fail
      refine hlen.mono ?_
      rintro e w1 ⟨rfl, hw1⟩
      rw [hw1]
      clear hw1 hlen
      go_wp2_with fail
      refine hsg.mono ?_
      rintro e w2 ⟨s, rfl, hs, hb2⟩
      rw [decide_eq_false (show ¬ (0 : Int) ≤ z by omega)] at hs
      have hs' : s < 0 := by have := of_decide_eq_false hs; omega
      have TB2 := hide (TB.out.keep hb2)
      have HF2 := hide (HBB.out.trans (BtB.of hb2 HSZ.out))
      have HSZ2 : Hid (B ≤ w2.heap.size) := Nat.le_trans HSZ.out hb2.size
      have HD2 := hide (HH.out.below hb2)
      obtain ⟨c0, c1, _, _, _, _⟩ := TB2.out.every
      clear hsg hb2
      go_wp2_with fail
      refine (btext_calls (HA.out w2 HF2.out) (HT.out w2 HF2.out)).mono ?_
      rintro e w4 ⟨rfl, hb4⟩
      go_wp2_with fail
      refine (HLAST.out l w2 (by omega) HD2.out HF2.out HSZ2.out w4 hb4).mono ?_
      rintro e w5 ⟨rfl, hd5, hb5⟩
      have HD5 := hide hd5
      have HF5 := hide ((HF2.out.trans (BtB.of hb4 HSZ2.out)).trans hb5)
      clear hd5 hb5 hb4
      go_wp2
      go_end0
      exact ⟨⟨_, rfl⟩, HD5.out, HF5.out⟩
end Go.Proofs.YtbjolmgobeagoaaGreatDoor
