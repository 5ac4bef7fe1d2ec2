/- The law FrameSkips walked: for all input it returns true. -/
import Derived.Test.YtnflbplhokodjaaDoorFrameEndsW
import Derived.Laws.MakeOwn
import Derived.Laws.OwnMore
namespace Go.Proofs.YtnflbplhokodjaaDoor
set_option linter.unusedVariables false
set_option linter.unusedSimpArgs false
set_option maxRecDepth 100000
open Go Go.RowKit Go.Shelf Go.Lib

/-- A number modulo another one, by way of 64 bits. -/
theorem rem_of (x : Int) (n : Nat) (h0 : 0 < n) (hn : n ≤ 1000000) : ∃ C : Nat, wrap64 ((IntKind.u64.wrap x).tmod (n : Int)) = (C : Int) ∧ C < n := by
  have h0' : 0 ≤ IntKind.u64.wrap x := by simp [IntKind.wrap, IntKind.signed, IntKind.bits]; omega
  rw [Int.tmod_eq_emod_of_nonneg h0']
  have h1 := Int.emod_nonneg (IntKind.u64.wrap x) (show (n : Int) ≠ 0 by omega)
  have h2 := Int.emod_lt_of_pos (IntKind.u64.wrap x) (show (0 : Int) < (n : Int) by omega)
  refine ⟨(IntKind.u64.wrap x % (n : Int)).toNat, ?_, by omega⟩
  unfold wrap64
  omega

/-- Zeros in memory. -/
def zerosL (n : Nat) : List Nat := List.replicate n 0
theorem run_zeros (n : Nat) (hn : n ≤ 2000000) (w : World) : ∃ w', (Instr.makeSlice 25 (.int .i64 (n : Int)) (.int .i64 (n : Int))).run Tryd.prog w = .ok (.slice (some ⟨w.heap.size, 0, none⟩) n n) w' ∧ Byts w' (.slice (some ⟨w.heap.size, 0, none⟩) n n) (zerosL n) ∧ Below w.heap.size w w' ∧ w'.heap.size = w.heap.size + 1 := by
  obtain ⟨i0, hi, hz0, hz1, hz2⟩ := info_parts infoByte
  have hr := run_make (P := Tryd.prog) w 25 5 i0 _ Tryd.underlying25 hi hz0 .i64 .i64 n n (by omega) (Int.le_refl _) (by rw [hz2]; omega) (by omega)
  rw [Int.toNat_natCast, hz1] at hr
  have hl : (zerosL n).length = n := by simp [zerosL]
  refine ⟨_, hr, ⟨_, _, by rw [hl], fun x hx => by have := List.eq_of_mem_replicate hx; omega, fun j hj => ⟨w.heap.size, 0, rfl, ?_⟩⟩, (Below.refl _ w).alloc (Nat.le_refl _) _, by simp⟩
  rw [hl] at hj
  rw [Nat.zero_add, Nat.mul_one]
  simp only [World.cell?]
  rw [World.alloc_heap_new]
  have e : (madeCells (Value.int .u8 0).cells n).toList = List.replicate n (.int .u8 0) := toList_madeCells_one _ n
  show (madeCells (Value.int .u8 0).cells n)[j]? = _
  rw [← Array.getElem?_toList, e]
  simp [hj, nth, zerosL]
theorem wpList_zeros {ops : Array Oper} {rest : List Oper} {o : Oper} {a : Act} {w : World} {Q : Exit → Act → World → Prop} (hg : o.guard = none) (x : Operand) (hop : o.op = .makeSlice 25 x x) (n : Nat) (hx : a.eval x = .int .i64 (n : Int)) (hn : n ≤ 2000000)
    (h : ∀ w', Byts w' (.slice (some ⟨w.heap.size, 0, none⟩) n n) (zerosL n) → Below w.heap.size w w' → w'.heap.size = w.heap.size + 1 → wpList Tryd.prog ops Q rest (a.put o.dst (.slice (some ⟨w.heap.size, 0, none⟩) n n)) w') : wpList Tryd.prog ops Q (o :: rest) a w := by
  refine wpList_plain hg fun K hK => ?_
  obtain ⟨w', hrun, h2, h3, h4⟩ := run_zeros n hn w
  unfold Oper.wp
  simp [execOp, hop, hx, hrun, Result.andThen]
  exact hK _ _ (h w' h2 h3 h4)
theorem zeros_take (n k : Nat) (h : k ≤ n) : (zerosL n).take k = zerosL k := by
  unfold zerosL
  rw [List.take_replicate]
  congr 1
  omega
theorem skip_zeros (l k : Nat) (hk : k ≤ l) (h0 : 0 < l) : feedL (.skip l) (zerosL k) = (if k = l then .head hd0 else .skip (l - k), []) := by
  have hl : (zerosL k).length = k := by simp [zerosL]
  by_cases q : k = l
  · rw [if_pos q, feed_overlast l (zerosL k) (by omega) h0]
  · rw [if_neg q, feed_over l (zerosL k) (by omega), hl]
theorem strOf_nil : strOf [] = ⟨#[]⟩ := rfl
theorem digL_next {m : Nat} (h : 0 < m) (D : List Nat) : (if m = 0 then D else digL m ++ D) = (if m / 10 = 0 then (48 + m % 10) :: D else digL (m / 10) ++ ((48 + m % 10) :: D)) := by
  rw [if_neg (by omega)]
  by_cases q : m < 10
  · rw [if_pos (by omega), digL_small q, show 48 + m % 10 = 48 + m by omega]
    rfl
  · rw [if_neg (by omega), digL_big q, List.append_assoc]
    rfl

set_option maxHeartbeats 16000000 in
theorem frameSkips_walk (w : World) (more : Int) (hmore : (Lit.int .i64 more).wf = true) (part : Int) (hpart : (Lit.int .i64 part).wf = true) (ao : Option Addr) (cap : Nat) (T : List Nat) (hB : Byt w ao cap T) (hK : Know2 w) :
    Calls Tryd.prog 6 #[.int .i64 more, .int .i64 part, .slice ao T.length cap] w fun e w' => e = .returned (.bool true) ∧ Below w.heap.size w w' := by
  obtain ⟨hK, hP⟩ := hK
  have HK := hide hK
  have HP := hide hP
  obtain ⟨hB, hcap, hn0⟩ := hB
  have HB := hide hB
  have HFM := hide (fun (W : World) (h : Below w.heap.size w W) => framed_calls W (HK.out.below h))
  clear hK hB hP hmore hpart
  by_cases hbig : 2000 < T.length
  · have d1 : (2000 : Int) < (T.length : Int) := by omega
    clear hbig
    go_enter Tryd.func6, Tryd.ntmps6
    go_wp2_with fail
    refine (HFM.out w (Below.refl _ _)).mono ?_
    rintro e w0 ⟨rfl, hb0⟩
    have HB0 := hide hb0
    clear hb0
    go_wp2_with fail
    refine (HFM.out w0 HB0.out).mono ?_
    rintro e w1 ⟨rfl, hb1⟩
    have HB1 := hide (bafter HB0.out hb1 (Nat.le_refl _))
    clear hb1
    go_wp2
    go_ret
    exact ⟨rfl, HB1.out⟩
  · have d1 : ¬ (2000 : Int) < (T.length : Int) := by omega
    have hTb : T.length ≤ 2000 := by omega
    clear hbig
    obtain ⟨C, hC, hCl⟩ := rem_of more 1000 (by decide) (by decide)
    obtain ⟨E, hE, hEl⟩ := rem_of part 60000 (by decide) (by decide)
    have hC' : wrap64 ((IntKind.u64.wrap more).tmod 1000) = (C : Int) := hC
    have hE' : wrap64 ((IntKind.u64.wrap part).tmod 60000) = (E : Int) := hE
    obtain ⟨n, hn⟩ : ∃ n, 16777217 + C = n := ⟨_, rfl⟩
    obtain ⟨pt, hpt⟩ : ∃ pt, 1000 + E = pt := ⟨_, rfl⟩
    have en : (16777217 : Int) + (C : Int) = (n : Int) := by omega
    have ep : (1000 : Int) + (E : Int) = (pt : Int) := by omega
    have hnb : 16777216 < n ∧ n ≤ 16778217 := by omega
    have hpb : 1000 ≤ pt ∧ pt ≤ 61000 := by omega
    clear hC hE hn hpt hCl hEl
    go_enter Tryd.func6, Tryd.ntmps6
    go_wp2_with fail
    refine (HFM.out w (Below.refl _ _)).mono ?_
    rintro e w0 ⟨rfl, hb0⟩
    have HB0 := hide hb0
    clear hb0 HFM
    obtain ⟨dn1, dn2, dn3, dn4⟩ := digL_ok (n := n) (by omega)
    have HD1 := hide dn1
    have HD2 := hide dn2
    have HD3 := hide dn3
    have HD4 := hide dn4
    clear dn1 dn2 dn3 dn4
    go_wp2
    generalize (IntKind.u64.wrap more).tmod 1000 = tm1 at *
    generalize (IntKind.u64.wrap part).tmod 60000 = tm2 at *
    generalize IntKind.u64.wrap more = uw1 at *
    generalize IntKind.u64.wrap part = uw2 at *
    clear hC' hE' en ep
    go_loopw [8, 9] (fun sv mv wr => ∃ (m : Nat) (D : List Nat), mv = .int .i64 (m : Int) ∧ sv = .string (strOf D) ∧ m ≤ n ∧ (if m = 0 then D else digL m ++ D) = digL n ∧ Below w0.heap.size w0 wr) (fun _ mv _ => (RowKit.intOf mv).toNat)
    case atStart => exact ⟨n, [], rfl, rfl, Nat.le_refl _, by rw [if_neg (by omega), List.append_nil], Below.refl _ _⟩
    case round =>
      obtain ⟨m, D, rfl, rfl, hmn, hdig, hbr⟩ := hrel
      have HBR := hide hbr
      have hDl : D.length ≤ 10 := by
        have h1 := HD3.out
        rw [← hdig] at h1
        split at h1
        · exact h1
        · rw [List.length_append] at h1; omega
      have HDG := hide hdig
      clear hbr hdig
      by_cases hm0 : 0 < m
      · obtain ⟨d, hd⟩ : ∃ d, m % 10 = d := ⟨_, rfl⟩
        obtain ⟨q, hq⟩ : ∃ q, m / 10 = q := ⟨_, rfl⟩
        obtain ⟨x, hx⟩ : ∃ x, 48 + d = x := ⟨_, rfl⟩
        have e0 : (0 : Int) < (m : Int) := by omega
        have e1 : (m : Int).tmod 10 = (d : Int) := by rw [Int.tmod_eq_emod_of_nonneg (by omega)]; omega
        have e2 : (m : Int).tdiv 10 = (q : Int) := by rw [Int.tdiv_eq_ediv_of_nonneg (by omega)]; omega
        have e3 : (48 : Int) + (d : Int) = (x : Int) := by omega
        have e4 : IntKind.u8.wrap (x : Int) = (x : Int) := by rw [IntKind.wrap_u8]; omega
        have e5 : (x : Int) % 256 = (x : Int) := by omega
        have hxb : x ≤ 57 := by omega
        have hqb : q ≤ 16778217 := by omega
        have hby := byts_lit wr [x] (by simp; omega) (0, 0)
        have hcv : (convert 25 9 (.slice (some ⟨wr.heap.size, 0, none⟩) 1 1)).run Tryd.prog (wr.alloc (.cells #[.int .u8 (x : Int)] 5)) = .ok (.string (strOf [x])) (wr.alloc (.cells #[.int .u8 (x : Int)] 5)) := conv_byts hby
        have HBX := hide (bel wr (.cells #[.int .u8 (x : Int)] 5))
        have s1 : (strOf [x]).size = 1 := strOf_size [x]
        have s2 : (strOf D).size ≤ 10 := by rw [strOf_size]; exact hDl
        have HSA := hide (strOf_append [x] D)
        have HNX : Hid ((if q = 0 then x :: D else digL q ++ (x :: D)) = digL n) := by
          show _ = _
          rw [← HDG.out, digL_next hm0, hd, hq, hx]
        have HQ : Hid (q ≤ n ∧ q < m) := show _ ∧ _ by omega
        generalize strOf [x] = sx at *
        generalize strOf D = sD at *
        have q3 : ∀ W : World, (Op.stringOp .add sx sD).run Tryd.prog W = .ok (.string (sx ++ sD)) W := fun W => run_string_add_sum W sx sD (by omega)
        clear hd hq hx hby s1 s2
        go_wp2
        go_roundw
        case rel => exact ⟨q, x :: D, rfl, by rw [HSA.out]; rfl, HQ.out.1, HNX.out, bafter HBR.out HBX.out (Nat.le_refl _)⟩
        case measure => have := HQ.out; simp [RowKit.intOf]; omega
      · obtain rfl : m = 0 := by omega
        have hDn : D = digL n := by have := HDG.out; rw [if_pos rfl] at this; exact this
        subst hDn
        have HB1 := hide (bafter HB0.out HBR.out (Nat.le_refl _))
        clear HDG HBR hm0 hmn hDl
        have HS1 : Hid ((⟨#[67, 111, 110, 116, 101, 110, 116, 45, 76, 101, 110, 103, 116, 104, 58, 32]⟩ : ByteArray) ++ strOf (digL n) ++ (⟨#[13, 10, 13, 10]⟩ : ByteArray) = strOf (headL (digL n))) := by
          show _ = _
          rw [pre_str, post_str, strOf_append, strOf_append, head_eq]
        have hsd : (strOf (digL n)).size ≤ 10 := by rw [strOf_size]; exact HD3.out
        have HFH := hide (feed_head HD1.out HD2.out HD3.out HD4.out)
        have HHS := hide (head_small HD1.out)
        have HHL := hide (head_length (digL n))
        have hDl := HD3.out
        generalize digL n = D at *
        generalize strOf D = sD at *
        have q1 : ∀ W : World, (Op.stringOp .add (⟨#[67, 111, 110, 116, 101, 110, 116, 45, 76, 101, 110, 103, 116, 104, 58, 32]⟩ : ByteArray) sD).run Tryd.prog W = .ok (.string ((⟨#[67, 111, 110, 116, 101, 110, 116, 45, 76, 101, 110, 103, 116, 104, 58, 32]⟩ : ByteArray) ++ sD)) W := fun W => run_string_add_sum W _ sD (by show 16 + sD.size ≤ _; omega)
        have q2 : ∀ W : World, (Op.stringOp .add ((⟨#[67, 111, 110, 116, 101, 110, 116, 45, 76, 101, 110, 103, 116, 104, 58, 32]⟩ : ByteArray) ++ sD) (⟨#[13, 10, 13, 10]⟩ : ByteArray)).run Tryd.prog W = .ok (.string ((⟨#[67, 111, 110, 116, 101, 110, 116, 45, 76, 101, 110, 103, 116, 104, 58, 32]⟩ : ByteArray) ++ sD ++ (⟨#[13, 10, 13, 10]⟩ : ByteArray))) W := fun W => run_string_add_sum W _ _ (by rw [ByteArray.size_append]; show 16 + sD.size + 4 ≤ _; omega)
        clear hsd
        go_wp2_with fail
        refine (new_calls wr w.heap.size).mono ?_
        rintro e w2 ⟨rfl, hr2, hb2, hs2⟩
        obtain ⟨cp, w3, hcv, hby, hcp, hb3, hs3, _⟩ := conv_str w2 (headL D) HHS.out
        have HB3 := hide (bafter (bafter HB1.out hb2 (Nat.le_refl _)) hb3 (Nat.le_refl _))
        have HS0 : Hid (w.heap.size ≤ wr.heap.size) := HB1.out.size
        have hr3 := hr2.below hb3
        have HFC := hide (feed_calls w3 w.heap.size wr.heap.size (.head hd0) none _ cp (headL D) hr3 (by have := HHL.out; omega) hby hcp (fun _ a e => ⟨by cases e; show w2.heap.size ≠ wr.heap.size; omega, by simp⟩) HB3.out.size HS0.out (HK.out.below HB3.out) HK.out.glob)
        rw [← HS1.out] at hcv
        have hhl := HHL.out
        generalize (headL D).length = hl at *
        clear hr2 hb2 hs2 hby hcp hb3 hs3 hr3 hhl
        go_wp2_with fail
        refine HFC.out.mono ?_
        rintro e w4 ⟨gv4, rfl, L4, row4, m1, m2, m3, m4, m5, m6⟩
        rw [HFH.out] at m2 m3
        have hbeg : beginL n = (.skip n, [(2, [])]) := by
          unfold beginL
          rw [if_neg (by omega), if_pos (by omega)]
        rw [hbeg] at m2 m3
        have HB4 : Hid (Below w.heap.size w w4) := HB3.out.trans (m5.below HS0.out (fun k e => by cases e) HB3.out.size)
        obtain ⟨g4, c4, a4, l4, cc4, hv4, x0, x1, xb⟩ := msg_at m1 m2 (j := 0) (m := (2, [])) rfl
        have hL4 : L4.length = 1 := m2.len
        rw [hL4] at hv4
        subst hv4
        have hl4 : l4 = 0 := by
          obtain ⟨ao', c', e', _⟩ := xb
          have := (Value.slice.inj e').2.1
          exact this
        subst hl4
        have HX0 : Hid (w4.cell? ⟨g4, 0, none⟩ = some (.int .i64 2)) := x0
        have HX1 : Hid (w4.cell? ⟨g4, 1, none⟩ = some (.slice a4 0 cc4)) := x1
        have HG4 : Hid (g4 < w4.heap.size ∧ g4 ≠ wr.heap.size) := by
          refine ⟨block_lt x0, fun q => ?_⟩
          obtain ⟨cs, hbx⟩ := m3.box
          subst q
          have k1 := (m1.kind (k := wr.heap.size) rfl).2.2
          obtain ⟨c, fz, k2⟩ := k1
          rw [show w4.heap[_]? = _ from hbx] at k2
          cases k2
        obtain rfl : row4 = none := m3.2.1
        have HR4 := hide m3
        clear m1 m2 m3 m4 m5 m6 x0 x1 xb hL4 HFC hcv q1 q2 hbeg HFH
        go_wp2_with (refine wpList_zeros rfl _ rfl pt rfl (by omega) ?_; intro w5 hz5 hb5 hs5)
        have HZ5 := hide hz5
        have HB5 := hide (bafter HB4.out hb5 (Nat.le_refl _))
        have HR5 := hide (HR4.out.below hb5)
        have HX05 : Hid (w5.cell? ⟨g4, 0, none⟩ = some (.int .i64 2)) := (hb5.cell (p := ⟨g4, 0, none⟩) HG4.out.1).trans HX0.out
        have HX15 : Hid (w5.cell? ⟨g4, 1, none⟩ = some (.slice a4 0 cc4)) := (hb5.cell (p := ⟨g4, 1, none⟩) HG4.out.1).trans HX1.out
        have HZR : Hid (w4.heap.size ≠ wr.heap.size ∧ w4.heap.size < w5.heap.size ∧ g4 < w5.heap.size) := by
          obtain ⟨cs, hbx⟩ := HR4.out.box
          have := hbx.lt
          have := HG4.out.1
          exact ⟨by omega, by omega, by omega⟩
        clear hz5 hb5 hs5 HR4 HX0 HX1 HB4
        generalize wr.heap.size = R at *
        generalize w4.heap.size = Z at *
        clear HB3 HB1
        go_loopw [13] (fun lv wx => ∃ (l : Nat) (row : Option Nat), lv = .int .i64 (l : Int) ∧ l ≤ n ∧ ((0 < l ∧ Rdr w.heap.size wx R (.skip l) row) ∨ (l = 0 ∧ Rdr w.heap.size wx R (.head hd0) row)) ∧ RowTo w5 none row ∧ Fr R none w5 wx) (fun lv _ => (RowKit.intOf lv).toNat)
        case atStart => exact ⟨n, none, rfl, Nat.le_refl _, .inl ⟨by omega, HR5.out⟩, .inl rfl, Fr.refl _ _ _⟩
        case round =>
          obtain ⟨l, row, rfl, hln, hcase, hrt, hfx⟩ := hrel
          have HRT := hide hrt
          clear hrt
          have HFX := hide hfx
          have HBX : Hid (Below w.heap.size w wr) := HB5.out.trans (hfx.below HS0.out (fun k e => by cases e) HB5.out.size)
          clear hfx
          rcases hcase with ⟨hl0, hrl⟩ | ⟨rfl, hrl⟩
          · obtain ⟨k, hk⟩ : ∃ k : Nat, min (l : Int) (pt : Int) = (k : Int) := ⟨min l pt, by omega⟩
            have hkb : k ≤ l ∧ k ≤ pt ∧ 0 < k := by omega
            have e0 : (0 : Int) < (l : Int) := by omega
            have qf := fun W : World => cut_front W (some ⟨Z, 0, none⟩) pt pt k hkb.2.1
            have hlz : (zerosL pt).length = pt := by simp [zerosL]
            have hlk : (zerosL k).length = k := by simp [zerosL]
            have hzf : Byts w5 (.slice (some ⟨Z, 0, none⟩) k pt) (zerosL k) := by
              have h2 := Byts.front (T := zerosL pt) (ao := some ⟨Z, 0, none⟩) (cap := pt) (k := k) (W := w5) (by rw [hlz]; exact HZ5.out) (by rw [hlz]; exact hkb.2.1)
              rw [zeros_take pt k hkb.2.1] at h2
              exact h2
            have hzx : Byts wr (.slice (some ⟨Z, 0, none⟩) k pt) (zerosL k) := hzf.fr HFX.out (fun a e => by cases e; exact ⟨HZR.out.1, by simp⟩)
            have hFC := feed_calls wr w.heap.size R (.skip l) row (some ⟨Z, 0, none⟩) pt (zerosL k) hrl (by omega) (by rw [hlk]; exact hzx) (by omega) (fun _ a e => by cases e; exact ⟨HZR.out.1, by rw [hrl.2.1]; simp⟩) HBX.out.size HS0.out (HK.out.below HBX.out) HK.out.glob
            rw [hlk] at hFC
            have HFC := hide hFC
            have HSZ := hide (skip_zeros l k hkb.1 hl0)
            obtain ⟨l2, hl2⟩ : ∃ l2, l = l2 + k := ⟨l - k, by omega⟩
            have e2 : (l : Int) - (k : Int) = (l2 : Int) := by omega
            have hl2b : l2 ≤ 16778217 := by omega
            have HL2 := hide hl2
            have HKB := hide hkb
            have HLN := hide hln
            clear hzf hzx hFC hlz hlk hl2 hkb hrl hln
            go_wp2_with fail
            refine HFC.out.mono ?_
            rintro e w6 ⟨gv6, rfl, hf6⟩
            obtain ⟨ga6, gc6, hg6⟩ := hf6.none (by rw [HSZ.out])
            subst hg6
            obtain ⟨L6, row6, p1, p2, p3, p4, p5, p6⟩ := hf6
            rw [HSZ.out] at p3
            have HF6 : Hid (Fr R none w5 w6) := HFX.out.trans p5 HRT.out
            have HRT6 := hide (HRT.out.trans p4 HFX.out.size)
            have HCS : Hid ((0 < l2 ∧ Rdr w.heap.size w6 R (.skip l2) row6) ∨ (l2 = 0 ∧ Rdr w.heap.size w6 R (.head hd0) row6)) := by
              have h1 := HL2.out
              by_cases q : k = l
              · rw [if_pos q] at p3
                exact .inr ⟨by omega, p3⟩
              · rw [if_neg q] at p3
                exact .inl ⟨by omega, by rw [show l2 = l - k by omega]; exact p3⟩
            clear p1 p2 p3 p4 p5 p6 HFC
            go_wp2
            go_roundw
            case rel => exact ⟨l2, row6, rfl, by have := HL2.out; have := HLN.out; omega, HCS.out, HRT6.out, HF6.out⟩
            case measure => have := HL2.out; have := HKB.out; simp [RowKit.intOf]; omega
          · have HRH := hide hrl
            obtain ⟨cs, hbx⟩ := hrl.box
            have HRL := hide hbx.lt
            have HWC := hide (write_calls wr ao cap T (HB.out.below HBX.out) (by omega) (HP.out.below HP.out.lt HBX.out))
            have HWL := hide (head_length (digL T.length))
            have HWD := hide (digL_ok (n := T.length) (by omega))
            have HWF := hide (feed_written (B := T) HWD.out.1 HWD.out.2.1 HWD.out.2.2.1 HWD.out.2.2.2 (by omega))
            clear hrl hbx hln
            go_wp2_with fail
            refine HWC.out.mono ?_
            rintro e w7 ⟨a7, c7, rfl, hB7, hc7, hblk7, hb7⟩
            have hXl : (headL (digL T.length) ++ T).length ≤ 3000 := by rw [List.length_append]; have := HWL.out; have := HWD.out.2.2.1; omega
            generalize headL (digL T.length) ++ T = X at *
            have HB7 := hide (bafter HBX.out hb7 (Nat.le_refl _))
            have hr7 := HRH.out.below hb7
            have HFC7 := hide (feed_calls w7 w.heap.size R (.head hd0) row (some a7) c7 X hr7 (by omega) hB7 hc7 (fun _ a e => by
              cases e
              have h1 := HRL.out
              refine ⟨fun q => by rw [q] at hblk7; omega, fun q => ?_⟩
              have := (HRH.out.row _ q).2.1
              omega) HB7.out.size HS0.out (HK.out.below HB7.out) HK.out.glob)
            have HFR7 : Hid (Fr R none w5 w7) := HFX.out.then hb7
            clear HWC hB7 hc7 hblk7 hb7 hr7
            go_wp2_with fail
            refine HFC7.out.mono ?_
            rintro e w8 ⟨gv8, rfl, L8, row8, p1, p2, p3, p4, p5, p6⟩
            rw [HWF.out] at p2
            have HF8 : Hid (Fr R none w5 w8) := HFR7.out.trans p5 HRT.out
            have HB8 : Hid (Below w.heap.size w w8) := HB5.out.trans (HF8.out.below HS0.out (fun k e => by cases e) HB5.out.size)
            obtain ⟨g8, c8, a8, l8, cc8, hv8, y0, y1, yb⟩ := msg_at p1 p2 (j := 0) (m := (1, T)) rfl
            have hL8 : L8.length = 1 := p2.len
            rw [hL8] at hv8
            subst hv8
            have x0 : w8.cell? ⟨g4, 0, none⟩ = some (.int .i64 2) := (HF8.out.cell (p := ⟨g4, 0, none⟩) HZR.out.2.2 HG4.out.2 (by simp)).trans HX05.out
            have x1 : w8.cell? ⟨g4, 1, none⟩ = some (.slice a4 0 cc4) := (HF8.out.cell (p := ⟨g4, 1, none⟩) HZR.out.2.2 HG4.out.2 (by simp)).trans HX15.out
            have z0 : w8.cell? ⟨g8, 0, none⟩ = some (.int .i64 1) := y0
            have z1 : w8.cell? ⟨g8, 1, none⟩ = some (.slice a8 l8 cc8) := y1
            have cvx : ∀ k, (convert 25 9 (.slice a8 l8 cc8)).run Tryd.prog (w8.drewN k) = .ok (.string (strOf T)) (w8.drewN k) := fun k => conv_byts (yb.below (bdrewN (Below.refl _ _) k))
            have cvy : ∀ k, (convert 25 9 (.slice ao T.length cap)).run Tryd.prog (w8.drewN k) = .ok (.string (strOf T)) (w8.drewN k) := fun k => conv_byts ((HB.out.below HB8.out).below (bdrewN (Below.refl _ _) k))
            generalize strOf T = sB at *
            clear p1 p2 p3 p4 p5 p6 y0 y1 yb hL8 HFC7
            go_wp2
            go_quiet (fail)
            go_wp2
            go_ret
            exact ⟨rfl, bdrewN HB8.out _⟩

end Go.Proofs.YtnflbplhokodjaaDoor
