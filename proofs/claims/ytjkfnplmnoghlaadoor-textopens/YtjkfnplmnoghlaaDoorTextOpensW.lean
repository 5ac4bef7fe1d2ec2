/- The law TextOpens, walked. -/
import Derived.Test.YtjkfnplmnoghlaaDoorTextAppliesW
import Derived.Laws.MakeOwn
import Derived.Laws.OwnMore
namespace Go.Proofs.YtjkfnplmnoghlaaDoor
set_option linter.unusedVariables false
set_option linter.unusedSimpArgs false
set_option maxRecDepth 100000
open Go Go.RowKit Go.Shelf Go.Lib

/-! A document that is none. -/
set_option maxHeartbeats 4000000 in
theorem nil_apply (w : World) (ver : Int) (v : Value) : Calls Tryd.prog 13 #[.pointer none, .int .i64 ver, v] w fun e w' => e = .returned (.int .i64 2) ∧ w' = w := by
  go_enter Tryd.func13, Tryd.ntmps13
  go_wp2
  go_ret
  exact ⟨rfl, rfl⟩
set_option maxHeartbeats 4000000 in
theorem nil_bytes (w : World) : Calls Tryd.prog 16 #[.pointer none] w fun e w' => e = .returned (.slice none 0 0) ∧ w' = w := by
  go_enter Tryd.func16, Tryd.ntmps16
  go_wp2
  go_ret
  exact ⟨rfl, rfl⟩
set_option maxHeartbeats 4000000 in
theorem nil_edits (w : World) : Calls Tryd.prog 17 #[.pointer none] w fun e w' => e = .returned (.slice none 0 0) ∧ w' = w := by
  go_enter Tryd.func17, Tryd.ntmps17
  go_wp2
  go_ret
  exact ⟨rfl, rfl⟩
set_option maxHeartbeats 4000000 in
theorem nil_offset (w : World) (p u : Int) : Calls Tryd.prog 19 #[.pointer none, .agg #[.int .i64 p, .int .i64 u]] w fun e w' => e = .returned (.int .i64 0) ∧ Below w.heap.size w w' := by
  have hB := hide (bel w (.cells #[.int .i64 p, .int .i64 u] 49))
  go_enter Tryd.func19, Tryd.ntmps19
  go_wp2
  go_ret
  exact ⟨rfl, hB.out⟩
theorem results_pos {fn : Func} {i : Tmp} (h : fn.results = #[.cell i 49]) {tmps : Array Value} {W : World} {b : Nat} {x y : Value} {t : TypeId} (hp : tmps.getD i undef = .pointer (some ⟨b, 0, none⟩)) (T : BoxC W b t #[x, y]) :
    (results fn tmps).run Tryd.prog W = .ok (.agg #[x, y]) W := by
  have c0 : W.cell? ⟨b, 0, none⟩ = some x := T.cell 0
  have c1 : W.cell? ⟨b, 1, none⟩ = some y := T.cell 1
  have hp' : tmps[i]?.getD undef = .pointer (some ⟨b, 0, none⟩) := by simpa using hp
  simp [results, h, hp', go_sem, c0, c1]
set_option maxHeartbeats 4000000 in
theorem nil_place (w : World) (at' : Int) : Calls Tryd.prog 20 #[.pointer none, .int .i64 at'] w fun e w' => e = .returned (.agg #[.int .i64 0, .int .i64 0]) ∧ Below w.heap.size w w' := by
  go_enter Tryd.func20, Tryd.ntmps20
  go_wp2
  refine bodyPost_ret (results_pos rfl rfl (BoxC.new w 49 #[.int .i64 0, .int .i64 0])) rfl ?_
  exact ⟨rfl, bel w _⟩

/-! A long text of one letter. -/
theorem infoU8 : (Tryd.prog.info? 5).map (fun i => (i.zero, i.size, i.bytes)) = some (some (.int .u8 0), 1, 1) := by kernel_rfl
/-- The first k of n cells are the letter a. -/
def Filled (W : World) (g n k : Nat) : Prop := ∃ cs, BoxC W g 5 cs ∧ cs.size = n ∧ ∀ j, j < k → cs[j]? = some (.int .u8 97)
theorem Filled.lt {W : World} {g n k : Nat} (h : Filled W g n k) : g < W.heap.size := by
  obtain ⟨cs, h1, _⟩ := h
  exact h1.lt
theorem run_long (n : Nat) (hn : n ≤ 2000000) (w : World) : ∃ w', (Instr.makeSlice 36 (.int .i64 (n : Int)) (.int .i64 (n : Int))).run Tryd.prog w = .ok (.slice (some ⟨w.heap.size, 0, none⟩) n n) w' ∧ Filled w' w.heap.size n 0 ∧ Below w.heap.size w w' ∧ w'.heap.size = w.heap.size + 1 := by
  obtain ⟨i0, hi, hz0, hz1, hz2⟩ := info_parts infoU8
  have hr := run_make (P := Tryd.prog) w 36 5 i0 _ Tryd.underlying36 hi hz0 .i64 .i64 n n (by omega) (Int.le_refl _) (by rw [hz2]; omega) (by omega)
  rw [Int.toNat_natCast, hz1] at hr
  refine ⟨_, hr, ⟨_, World.alloc_heap_new _ _, ?_, fun j hj => by omega⟩, (Below.refl _ w).alloc (Nat.le_refl _) _, by simp⟩
  rw [size_madeCells, Nat.mul_one]
theorem wpList_long {ops : Array Oper} {rest : List Oper} {o : Oper} {a : Act} {w : World} {Q : Exit → Act → World → Prop} (hg : o.guard = none) (x : Operand) (hop : o.op = .makeSlice 36 x x) (n : Nat) (hx : a.eval x = .int .i64 (n : Int)) (hn : n ≤ 2000000)
    (h : ∀ w', Filled w' w.heap.size n 0 → Below w.heap.size w w' → w'.heap.size = w.heap.size + 1 → wpList Tryd.prog ops Q rest (a.put o.dst (.slice (some ⟨w.heap.size, 0, none⟩) n n)) w') : wpList Tryd.prog ops Q (o :: rest) a w := by
  refine wpList_plain hg fun K hK => ?_
  obtain ⟨w', hrun, h2, h3, h4⟩ := run_long n hn w
  unfold Oper.wp
  simp [execOp, hop, hx, hrun, Result.andThen]
  exact hK _ _ (h w' h2 h3 h4)
theorem Filled.set {W : World} {g n k : Nat} (h : Filled W g n k) (hk : k < n) : Filled (W.setCell ⟨g, k, none⟩ (.int .u8 97)) g n (k + 1) := by
  obtain ⟨cs, h1, h2, h3⟩ := h
  refine ⟨_, h1.set k _, by simpa using h2, fun j hj => ?_⟩
  rcases Nat.lt_or_ge j k with g1 | g1
  · rw [Array.set!_eq_setIfInBounds, Array.getElem?_setIfInBounds_ne (by omega)]
    exact h3 j g1
  · obtain rfl : j = k := by omega
    rw [Array.set!_eq_setIfInBounds, Array.getElem?_setIfInBounds_self_of_lt (by omega)]
def manyA (n : Nat) : List Nat := List.replicate n 97
theorem manyA_len (n : Nat) : (manyA n).length = n := by simp [manyA]
theorem manyA_small (n : Nat) : ∀ x ∈ manyA n, x < 256 := fun x hx => by
  rw [List.eq_of_mem_replicate hx]
  decide
theorem manyA_nth {n j : Nat} (h : j < n) : nth (manyA n) j = 97 := by simp [nth, manyA, h]
theorem Filled.byts {W : World} {g n : Nat} (h : Filled W g n n) {i m c : Nat} (hi : i + m = n) : Byts W (.slice (some ⟨g, i, none⟩) m c) (manyA m) := by
  obtain ⟨cs, h1, h2, h3⟩ := h
  refine ⟨_, _, by rw [manyA_len], manyA_small m, fun j hj => ⟨g, i, rfl, ?_⟩⟩
  rw [manyA_len] at hj
  rw [h1.cell, h3 _ (by omega), manyA_nth hj]
  rfl
theorem decL_manyA {n : Nat} (h : 1 ≤ n) : decL (manyA n) = (97, 1) := by
  unfold decL
  rw [if_neg (by rw [manyA_len]; omega)]
  unfold decodeN
  rw [manyA_nth (by omega), if_pos (by decide)]
theorem manyA_drop (n p : Nat) : (manyA n).drop p = manyA (n - p) := by simp [manyA]
theorem manyA_rune {n p : Nat} (h : p < n) : runeAt (manyA n) p = 97 ∧ sizeAt (manyA n) p = 1 := by
  unfold runeAt sizeAt
  rw [manyA_drop, decL_manyA (by omega)]
  exact ⟨rfl, rfl⟩
theorem manyA_pos {n k : Nat} (h : k ≤ n) : posL (manyA n) k = k := by
  induction k with
  | zero => rfl
  | succ k ih =>
    show posL (manyA n) k + sizeAt (manyA n) (posL (manyA n) k) = k + 1
    rw [ih (by omega), (manyA_rune (by omega)).2]
theorem manyA_valid (n : Nat) : ValidL (manyA n) := by
  refine ⟨n, fun k hk => ?_, ?_, fun k hk => ?_⟩
  · rw [manyA_pos (by omega), manyA_len]; exact hk
  · rw [manyA_pos (Nat.le_refl _), manyA_len]
  · rw [manyA_pos (by omega), (manyA_rune hk).1]; decide
theorem b_valid : ValidL [98] := ⟨1, by decide, by decide, by decide⟩
/-- One letter more than may be: it is refused. -/
theorem one_more {T : List Nat} {r : Int} {NT : List Nat} {D : List Ed} (hT : T.length = 1048576) (h : ApplyR T [(true, 0, 0, 0, 0, [98])] r NT D) : r = 3 := by
  have hstep : ∀ {r1 : Int} {N1 : List Nat} {d1 : Ed}, StepR T (true, 0, 0, 0, 0, [98]) r1 N1 d1 → r1 = 3 := by
    intro r1 N1 d1 h1
    rcases h1 with ⟨a, _⟩ | ⟨_, F, G, hE, hI⟩
    · exact absurd b_valid a
    · have hFG : F = G := by
        rcases hE with ⟨_, f, t, hf, ht, e1, e2⟩ | ⟨a, _⟩
        · have := off_one hf ht
          omega
        · cases a
      rcases hI with ⟨_, e⟩ | ⟨h2, _⟩
      · exact e
      · have h3 : T.length - (G - F) + 1 ≤ 1048576 := h2
        omega
  rcases h with ⟨rfl, p⟩ | ⟨_, k, T', D', x, N', d', p, hx, s⟩
  · obtain ⟨T1, D1, x, d, p1, hx, s1, _⟩ := p
    obtain ⟨rfl, _⟩ := p1
    cases hx
    have := hstep s1
    omega
  · have hk := (List.getElem?_eq_some_iff.1 hx).1
    obtain rfl : k = 0 := by simp at hk; omega
    obtain ⟨rfl, _⟩ := p
    cases hx
    exact hstep s
/-- One letter in the place of all. -/
theorem all_one {T : List Nat} {r : Int} {NT : List Nat} {D : List Ed} (h : ApplyR T [(false, 0, 0, 0, 0, [98])] r NT D) : r = 0 ∧ NT = [98] := by
  have hg : ApplyR T [(false, 0, 0, 0, 0, [98])] 0 [98] (([] : List Ed) ++ [(((0 : Nat) : Int), (T.length : Int), (1 : Int))]) := by
    refine .inl ⟨rfl, T, [], (false, 0, 0, 0, 0, [98]), _, ⟨rfl, rfl⟩, rfl, .inr ⟨b_valid, 0, T.length, .inr ⟨rfl, rfl, rfl⟩, .inr ⟨by simp, rfl, by simp, rfl⟩⟩, rfl⟩
  obtain ⟨rfl, h2⟩ := apply_one h hg
  exact ⟨rfl, (h2 rfl).1⟩

theorem chs_lit (w : World) (x : Ch) (hx : ChOk x) : ChsIn (w.alloc (.cells #[.bool x.1, .int .i64 x.2.1, .int .i64 x.2.2.1, .int .i64 x.2.2.2.1, .int .i64 x.2.2.2.2.1, .string (strOf x.2.2.2.2.2)] 52)) (.slice (some ⟨w.heap.size, 0, none⟩) 1 1) [x] := by
  refine ⟨_, _, rfl, Nat.le_refl _, fun j y hj => ?_⟩
  have hk := (List.getElem?_eq_some_iff.1 hj).1
  obtain rfl : j = 0 := by simp at hk; omega
  cases hj
  have b := BoxC.new w 52 #[.bool x.1, .int .i64 x.2.1, .int .i64 x.2.2.1, .int .i64 x.2.2.2.1, .int .i64 x.2.2.2.2.1, .string (strOf x.2.2.2.2.2)]
  exact ⟨hx, _, _, rfl, b.cell 0, b.cell 1, b.cell 2, b.cell 3, b.cell 4, b.cell 5⟩
/-- One byte more than a document may have. -/
def IsLong (N : Nat) : Prop := N = 1048577
theorem IsLong.eq {N : Nat} (h : IsLong N) : N = 1048577 := h
/-- As many bytes as a document may have. -/
def IsMost (N : Nat) : Prop := N = 1048576
theorem IsMost.eq {N : Nat} (h : IsMost N) : N = 1048576 := h
theorem b_str : strOf [98] = ⟨#[98]⟩ := by decide
theorem take_right {T : List Nat} {r : Int} (hl : T.length ≤ 1048576) (hv : ValidL T) (h : TakeR T r) : r = 0 := by
  rcases h with ⟨a, _⟩ | ⟨_, ⟨_, e⟩ | ⟨a, _⟩⟩
  · omega
  · exact e
  · exact absurd hv a
theorem take_long {T : List Nat} {r : Int} (hl : 1048576 < T.length) (h : TakeR T r) : r = 3 := by
  rcases h with ⟨_, e⟩ | ⟨a, _⟩
  · exact e
  · omega

set_option maxHeartbeats 16000000 in
theorem textOpens_walk (w : World) (T : List Nat) (hT : ∀ y ∈ T, y < 256) (more : Int) (hmore : (Lit.int .i64 more).wf = true) (hK : Know w) :
    Calls Tryd.prog 4 #[.string (strOf T), .int .i64 more] w fun e w' => e = .returned (.bool true) ∧ Below w.heap.size w w' := by
  obtain ⟨sT, hsT⟩ : ∃ sT, strOf T = sT := ⟨_, rfl⟩
  have hszT : sT.size = T.length := by rw [← hsT]; exact strOf_size T
  have HK := hide hK
  have HT := hide hT
  have HST := hide hsT
  rw [hsT]
  clear hK hT hmore hsT
  go_enter Tryd.func4, Tryd.ntmps4
  go_wp2_with fail
  refine (opened_calls w HK.out).mono ?_
  rintro e w1 ⟨rfl, hb1⟩
  have HB1 := hide hb1
  clear hb1
  go_wp2_with fail
  refine (nil_apply w1 _ _).mono ?_
  rintro e w1' ⟨rfl, hw⟩
  rw [hw]
  clear hw
  go_wp2_with fail
  refine (nil_bytes w1).mono ?_
  rintro e w1'' ⟨rfl, hw⟩
  rw [hw]
  clear hw
  go_wp2_with fail
  refine (nil_offset w1 _ _).mono ?_
  rintro e w2 ⟨rfl, hb2⟩
  have HB2 := hide (show Below w.heap.size w w2 from bafter HB1.out hb2 (Nat.le_refl _))
  clear hb2
  go_wp2_with fail
  refine (nil_place w2 _).mono ?_
  rintro e w3 ⟨rfl, hb3⟩
  have HB3 := hide (show Below w.heap.size w w3 from bafter HB2.out hb3 (Nat.le_refl _))
  clear hb3
  go_wp2_with fail
  refine (nil_edits w3).mono ?_
  rintro e w3' ⟨rfl, hw⟩
  rw [hw]
  clear hw
  by_cases hlong : T.length ≤ 2000
  rotate_left
  · have d1 : (T.length : Int) > 2000 := by omega
    go_wp2
    go_ret
    exact ⟨rfl, HB3.out⟩
  have d1 : ¬ (T.length : Int) > 2000 := by omega
  have HLONG := hide hlong
  clear hlong
  have hop := open_any w3 1 T (HK.out.below HB3.out) HT.out (by have := HLONG.out; omega)
  rw [HST.out] at hop
  have HOP := hide hop
  clear hop
  go_wp2_with fail
  refine HOP.out.mono ?_
  clear HOP
  rintro e w4 ⟨r, htk, hb4, hcase⟩
  have HTK := hide htk
  have HB4 := hide (show Below w.heap.size w w4 from bafter HB3.out hb4 (Nat.le_refl _))
  have hrt := rtake_calls w4 T HT.out (by have := HLONG.out; omega)
  rw [HST.out] at hrt
  have HRT := hide hrt
  clear htk hb4 hrt
  obtain ⟨pv, hpv, hpr⟩ : ∃ pv : Value, e = .returned (.tuple #[pv, .int .i64 r]) ∧ ((pv = .pointer none ∧ r ≠ 0) ∨ (∃ a : Addr, pv = .pointer (some a) ∧ r = 0)) := by
    rcases hcase with ⟨h1, h2⟩ | ⟨h1, D, h2, _⟩
    · exact ⟨_, h2, .inl ⟨rfl, h1⟩⟩
    · rw [h1]
      exact ⟨_, h2, .inr ⟨_, rfl, rfl⟩⟩
  subst hpv
  clear hcase
  have HPR := hide hpr
  clear hpr
  go_upto_region 7 with fail
  go_cut [63] from 53 to 63 (fun s63 wx => s63 = .bool false ∧ Below w.heap.size w wx)
  case first =>
    go_wp2_with fail
    refine HRT.out.mono ?_
    clear HRT
    rintro e w5 ⟨r', rfl, htk', hb5⟩
    obtain rfl := take_one HTK.out htk'
    have HB5 := hide (show Below w.heap.size w w5 from bafter HB4.out hb5 (Nat.le_refl _))
    clear htk' hb5
    rcases HPR.out with ⟨rfl, hr⟩ | ⟨pa, rfl, rfl⟩
    · go_wp2_with fail
      go_meet
      exact ⟨by simp [hr], HB5.out⟩
    · go_wp2_with fail
      go_meet
      exact ⟨rfl, HB5.out⟩
  case rest =>
    obtain ⟨rfl, hb5⟩ := hcut
    have HB5 := hide hb5
    clear hb5 HRT HPR HTK HB4
    by_cases hm : more.tmod 16 = 0
    rotate_left
    · go_wp2
      go_ret
      exact ⟨rfl, HB5.out⟩
    go_upto_region 11 with fail
    clear hm
    obtain ⟨N, HNN⟩ : ∃ N : Nat, IsLong N := ⟨1048577, rfl⟩
    go_wp2_with (refine wpList_long rfl _ rfl N (by have e := HNN.eq; subst e; rfl) (by have := HNN.eq; omega) ?_; intro w6 hfill hb6 hs6)
    obtain ⟨gb, hgb⟩ : ∃ gb, wc.heap.size = gb := ⟨_, rfl⟩
    rw [hgb] at hfill
    try rw [hgb]
    have HGB := hide (show w.heap.size ≤ gb by rw [← hgb]; exact HB5.out.size)
    have HB6 := hide (show Below w.heap.size w w6 from bafter HB5.out hb6 (Nat.le_refl _))
    have HFILL := hide hfill
    have hN63 : N ≤ 2000000 := by have := HNN.eq; omega
    clear hfill hb6 hs6 hgb
    go_loopw [9] (fun iv wr => ∃ k : Nat, k ≤ N ∧ iv = .int .i64 (k : Int) ∧ Filled wr gb N k ∧ Below w.heap.size w wr) (fun iv _ => N - (RowKit.intOf iv).toNat)
    case atStart => exact ⟨0, Nat.zero_le _, rfl, HFILL.out, HB6.out⟩
    case round =>
      obtain ⟨k, hk, rfl, hfk, hbk⟩ := hrel
      clear HFILL HB6
      by_cases hlt : k < N
      · have d2 : (k : Int) < (N : Int) := by omega
        have d0 : (0 : Int) ≤ (k : Int) := by omega
        obtain ⟨c0, e0⟩ : ∃ c0, wr.cell? ⟨gb, k, none⟩ = some c0 := by
          obtain ⟨cs, h1, h2, _⟩ := hfk
          exact ⟨_, by rw [h1.cell k]; exact Array.getElem?_eq_getElem (by omega)⟩
        have e1 : wr.frozen? ⟨gb, k, none⟩ = false := by
          obtain ⟨cs, h1, _⟩ := hfk
          exact h1.frozen k
        have l1 := hfk.lt
        have HFK := hide hfk
        have HBK := hide hbk
        clear hfk hbk HNN
        go_wp2
        go_roundw
        case rel => exact ⟨k + 1, by omega, by go_num, HFK.out.set hlt, HBK.out.setCell (p := ⟨gb, k, none⟩) HGB.out _⟩
        case measure => simp [RowKit.intOf]; omega
      · obtain rfl : k = N := by omega
        have d2 : ¬ (k : Int) < (k : Int) := by omega
        have hcv := conv_byts (hfk.byts (i := 0) (m := k) (c := k) (Nat.zero_add _))
        have hop := open_any wr 1 (manyA k) (HK.out.below hbk) (manyA_small k) (by rw [manyA_len]; omega)
        obtain ⟨M, hM⟩ : ∃ M, 1 + M = k := ⟨k - 1, by have := HNN.eq; omega⟩
        have hHM : IsMost M := by have := HNN.eq; unfold IsMost; omega
        have HFK := hide hfk
        have HBK := hide hbk
        generalize hsl : strOf (manyA k) = sL at *
        have HOP := hide hop
        clear hop hsl hfk hbk
        go_wp2_with fail
        refine HOP.out.mono ?_
        clear HOP hcv
        rintro e w7 ⟨r7, htk7, hb7, hcase7⟩
        obtain rfl := take_long (by rw [manyA_len]; have := HNN.eq; omega) htk7
        obtain ⟨_, rfl⟩ | ⟨h0, _⟩ := hcase7
        rotate_left
        · exact absurd h0 (by decide)
        have hf7 : Filled w7 gb k k := by
          obtain ⟨cs, h1, h2⟩ := HFK.out
          exact ⟨cs, h1.below hb7, h2⟩
        have HB7 := hide (show Below w.heap.size w w7 from bafter HBK.out hb7 (Nat.le_refl _))
        have hcv := conv_byts (hf7.byts (i := 1) (m := M) (c := M) hM)
        have q1 : ∀ W : World, (Instr.slice 36 (.slice (some ⟨gb, 0, none⟩) k k) (some (.int .i64 1)) none none).run Tryd.prog W = .ok (.slice (some ⟨gb, 1, none⟩) M M) W := fun W => by
          have h1 := run_slice_l (P := Tryd.prog) (w := W) 36 (some ⟨gb, 0, none⟩) k k (by kernel_rfl) .i64 1 (by omega) (by omega)
          rw [h1]
          have g1 : ¬ k = 1 := by have := HNN.eq; omega
          have g2 : k - 1 = M := by omega
          go_simp
        have hop := open_any w7 1 (manyA M) (HK.out.below HB7.out) (manyA_small M) (by rw [manyA_len]; omega)
        generalize hsl : strOf (manyA M) = sL2 at *
        have HOP := hide hop
        clear hop hsl htk7 hb7 hf7 HFK HBK
        go_wp2_with fail
        refine HOP.out.mono ?_
        clear HOP hcv q1
        rintro e w8 ⟨r8, htk8, hb8, hcase8⟩
        obtain rfl := take_right (by rw [manyA_len]; have := hHM.eq; omega) (manyA_valid M) htk8
        obtain ⟨h0, _⟩ | ⟨_, D, rfl, hD, hdoc⟩ := hcase8
        · exact absurd rfl h0
        have HB8 := hide (show Below w.heap.size w w8 from bafter HB7.out hb8 (Nat.le_refl _))
        have HD := hide (Nat.le_trans HB7.out.size hD)
        have HDOC := hide hdoc
        clear htk8 hb8 hD hdoc
        have k9 := bel w8 (.cells #[.bool true, .int .i64 0, .int .i64 0, .int .i64 0, .int .i64 0, .string ⟨#[98]⟩] 52)
        have hch := chs_lit w8 (true, 0, 0, 0, 0, [98]) ⟨by decide, by decide, by decide⟩
        dsimp only at hch
        rw [b_str] at hch
        have happ := apply_doc _ D 1 2 (manyA M) [] (some ⟨w8.heap.size, 0, none⟩) 1 [(true, 0, 0, 0, 0, [98])] (HDOC.out.below k9) (HK.out.below (bafter HB8.out k9 (Nat.le_refl _))) (by rw [manyA_len]; have := hHM.eq; omega) hch (fun j x hj => by have hk := (List.getElem?_eq_some_iff.1 hj).1; obtain rfl : j = 0 := by { simp at hk; omega }; cases hj; decide) (by decide)
        have HAPP := hide happ
        have HD9 := hide (HDOC.out.below k9)
        have HB9 := hide (bafter HB8.out k9 (Nat.le_refl _))
        clear happ hch k9
        go_wp2_with fail
        refine HAPP.out.mono ?_
        clear HAPP
        rintro e w10 ⟨r10, NT, Dl, rfl, hA, hcase⟩
        obtain rfl := one_more (by rw [manyA_len]; exact hHM.eq) hA
        obtain ⟨_, hb10⟩ | ⟨h0, _⟩ := hcase
        rotate_left
        · exact absurd h0 (by decide)
        have HD10 := hide (HD9.out.below hb10)
        have HB10 := hide (show Below w.heap.size w w10 from bafter HB9.out hb10 (Nat.le_refl _))
        have v0 : w10.cell? ⟨D, 0, none⟩ = some (.int .i64 1) := by
          obtain ⟨_, _, _, _, _, _, _, h1, _⟩ := HD10.out
          exact BoxC.cell h1 0
        have lD : D < w10.heap.size := HD10.out.lt
        clear hA hb10 HD9 HB9 HDOC
        have k11 := bel w10 (.cells #[.bool false, .int .i64 0, .int .i64 0, .int .i64 0, .int .i64 0, .string ⟨#[98]⟩] 52)
        have hch := chs_lit w10 (false, 0, 0, 0, 0, [98]) ⟨by decide, by decide, by decide⟩
        dsimp only at hch
        rw [b_str] at hch
        have happ := apply_doc _ D 1 3 (manyA M) [] (some ⟨w10.heap.size, 0, none⟩) 1 [(false, 0, 0, 0, 0, [98])] (HD10.out.below k11) (HK.out.below (bafter HB10.out k11 (Nat.le_refl _))) (by rw [manyA_len]; have := hHM.eq; omega) hch (fun j x hj => by have hk := (List.getElem?_eq_some_iff.1 hj).1; obtain rfl : j = 0 := by { simp at hk; omega }; cases hj; decide) (by decide)
        have HAPP := hide happ
        have HB11 := hide (bafter HB10.out k11 (Nat.le_refl _))
        clear happ hch k11
        go_wp2_with fail
        refine HAPP.out.mono ?_
        clear HAPP
        rintro e w12 ⟨r12, NT, Dl, rfl, hA, hcase⟩
        obtain ⟨rfl, rfl⟩ := all_one hA
        obtain ⟨h0, _⟩ | ⟨_, hd12, hbut⟩ := hcase
        · exact absurd rfl h0
        have HD12 := hide hd12
        have HB12 := hide (show Below w.heap.size w w12 from hbut.after HB11.out HD.out HB11.out.size)
        clear hA hd12 hbut v0 lD
        have HBY := hide (bytes_any w12 D 3 [98] Dl HD12.out (by decide))
        go_wp2_with fail
        refine HBY.out.mono ?_
        clear HBY
        rintro e w13 ⟨ao13, c13, rfl, hy13, hb13⟩
        have hcv := conv_byts hy13.1
        rw [b_str, show ([98] : List Nat).length = 1 from rfl] at hcv
        have HB13 := hide (show Below w.heap.size w w13 from bafter HB12.out hb13 (Nat.le_refl _))
        clear hy13 hb13
        go_wp2
        go_ret
        exact ⟨by first | rfl | simp, HB13.out⟩

end Go.Proofs.YtjkfnplmnoghlaaDoor
