/- Frame: a reader takes a byte of a header, a part of a body. -/
import Derived.Test.YtnflbplhokodjaaDoorFRead
namespace Go.Proofs.YtnflbplhokodjaaDoor
set_option linter.unusedVariables false
set_option linter.unusedSimpArgs false
set_option maxRecDepth 100000
open Go Go.RowKit Go.Shelf Go.Lib

theorem BoxC.set2 {W : World} {B : Nat} {t : TypeId} {x y : Value} (h : BoxC W B t #[x, y]) (x' y' : Value) : BoxC ((W.setCell ⟨B, 0, none⟩ x').setCell ⟨B, 1, none⟩ y') B t #[x', y'] := by
  have h0 : BoxC _ B t #[x', y] := h.set 0 x'
  have h1 : BoxC _ B t #[x', y'] := h0.set 1 y'
  exact h1
/-- What came by a part of the stream: a message or none, the reader behind it, and what else stays. -/
def TakeR (n₀ : Nat) (w : World) (R : Nat) (row : Option Nat) (s : St) (ms : List Msg) (k bv : Value) (w' : World) : Prop :=
  ∃ row', MsgV n₀ w' k bv ms ∧ Rdr n₀ w' R s row' ∧ Fr R row w w' ∧ RowTo w row row' ∧ RowTo w row bv.ownBlock ∧ (∀ j, bv.ownBlock = some j → row' ≠ some j)
theorem OwnB.keep {n₀ : Nat} {w w' : World} {v : Value} {T : List Nat} (q : OwnB n₀ w v T) (hk : ∀ k, v.ownBlock = some k → w'.heap[k]? = w.heap[k]?) : OwnB n₀ w' v T := by
  rcases id q.2 with ⟨rfl, h0⟩ | ⟨g, cap, cur, rfl, hg, hh, hn, hm, hc, ht⟩
  · exact ⟨q.1, .inl ⟨rfl, h0⟩⟩
  · exact ⟨q.1, .inr ⟨g, cap, cur, rfl, hg, by rw [hk g rfl, hh], hn, hm, hc, ht⟩⟩
theorem MsgV.keep {n₀ : Nat} {w w' : World} {k bv : Value} {ms : List Msg} (h : MsgV n₀ w k bv ms) (hk : ∀ j, bv.ownBlock = some j → w'.heap[j]? = w.heap[j]?) : MsgV n₀ w' k bv ms := by
  match ms, h with
  | [], h => exact h
  | [(m, B)], h => exact ⟨h.1, h.2.1, OwnB.keep h.2.2.1 hk, h.2.2.2⟩
  | _ :: _ :: _, h => exact h.elim
theorem MsgV.lt {n₀ : Nat} {w : World} {k bv : Value} {ms : List Msg} (h : MsgV n₀ w k bv ms) : ∀ j, bv.ownBlock = some j → n₀ ≤ j ∧ j < w.heap.size := by
  match ms, h with
  | [], h => rw [h.2]; intro j e; cases e
  | [(m, B)], h => exact fun j e => World.ownsRow.lt h.2.2.1 j e
  | _ :: _ :: _, h => exact h.elim
/-- The answer's own cells, which are new, are no part of it. -/
theorem TakeR.put {n₀ : Nat} {w : World} {R : Nat} {row : Option Nat} {s : St} {ms : List Msg} {k bv : Value} {w' : World} (h : TakeR n₀ w R row s ms k bv w') {V : Nat} {cs : Array Value} (hV : w.heap.size ≤ V) (hb : BoxC w' V 34 cs) (hR : V ≠ R) (i : Nat) (x : Value) : TakeR n₀ w R row s ms k bv (w'.setCell ⟨V, i, none⟩ x) := by
  obtain ⟨row', h1, h2, h3, h4, h5, h6⟩ := h
  have ho : ∀ {v : Value} {T : List Nat}, OwnB n₀ w' v T → v.ownBlock ≠ some V := by
    intro v T q e
    obtain ⟨c, fz, hk⟩ := Lib.ownsRow_kind q V e
    rw [show w'.heap[V]? = _ from hb] at hk
    cases hk
  have hne : ∀ j, j ≠ V → (w'.setCell ⟨V, i, none⟩ x).heap[j]? = w'.heap[j]? := fun j hj => Below.heap_setCell w' ⟨V, i, none⟩ x j hj
  refine ⟨row', ?_, ?_, h3.setNew hV i x, h4, h5, h6⟩
  · refine h1.keep fun j e => hne j ?_
    match ms, h1 with
    | [], h1 => rw [h1.2] at e; cases e
    | [(m, B)], h1 => intro q; rw [q] at e; exact ho h1.2.2.1 e
    | _ :: _ :: _, h1 => exact h1.elim
  · refine h2.keep fun j e => hne j ?_
    rcases e with rfl | e
    · exact hR.symm
    · intro q
      subst q
      cases s with
      | head h0 => obtain ⟨lv, q1, q2, q3, q4⟩ := h2; exact ho q2 (by rw [← q3, e])
      | body l got => obtain ⟨lv, q1, q2, q3, q4⟩ := h2; exact ho q2 (by rw [← q3, e])
      | skip l => rw [h2.2.1] at e; cases e
      | nothing => rw [h2.2] at e; cases e

theorem add_ok {h : Hd} {c : Nat} (h1 : h.line.length ≤ h.size) (h2 : h.size ≤ 4096) (h3 : ∀ x ∈ h.line, x < 256) (h4 : h.length < 10000000000) (hc : c < 256) (h5 : (addL h c).1 ≠ .none) : (addL h c).2.line.length ≤ (addL h c).2.size ∧ (addL h c).2.size ≤ 4096 ∧ (∀ x ∈ (addL h c).2.line, x < 256) ∧ (addL h c).2.length < 10000000000 := by
  by_cases q1 : 4096 < h.size + 1
  · rw [add_long q1] at h5; exact (h5 rfl).elim
  · by_cases q2 : c = 10
    · by_cases q3 : h.line.getLast? = some 13
      · rw [add_end q1 q2 q3] at h5 ⊢
        have hk := end_keeps { h with size := h.size + 1, line := [] } h.line.dropLast
        refine ⟨by rw [hk.1, hk.2]; exact Nat.zero_le _, by rw [hk.1]; show h.size + 1 ≤ 4096; omega, (by rw [hk.2]; intro x hx; cases hx), ?_⟩
        generalize h.line.dropLast = T at *
        by_cases h0 : T.length = 0
        · rw [end_empty h0]; exact h4
        · by_cases h1 : (T.takeWhile (· ≠ 58)).length = T.length ∨ (T.takeWhile (· ≠ 58)).length = 0
          · rw [end_bad h0 h1]; exact h4
          · cases h2 : isLenL (T.takeWhile (· ≠ 58)) with
            | false => rw [end_other h0 h1 h2]; exact h4
            | true =>
              rw [end_len h0 h1 h2]
              cases hl : lengthL (T.drop ((T.takeWhile (· ≠ 58)).length + 1)) with
              | none => exact h4
              | some n =>
                cases ht : h.told
                · exact length_lt hl
                · exact h4
      · rw [add_bad q1 q2 q3] at h5; exact (h5 rfl).elim
    · rw [add_byte q1 q2]
      refine ⟨by show (h.line ++ [c]).length ≤ h.size + 1; simp; omega, by show h.size + 1 ≤ 4096; omega, ?_, h4⟩
      intro x hx
      rcases List.mem_append.1 hx with q | q
      · exact h3 x q
      · simp at q; omega
theorem step_open {h h' : Hd} {c : Nat} (e : addL h c = (.opn, h')) : stepF (.head h) c = (.head h', []) := by
  show (match addL h c with
    | (.opn, h') => (St.head h', [])
    | (.whole, h') => beginL h'.length
    | (.none, _) => (.nothing, [(3, [])])) = _
  rw [e]
theorem step_whole {h h' : Hd} {c : Nat} (e : addL h c = (.whole, h')) : stepF (.head h) c = beginL h'.length := by
  show (match addL h c with
    | (.opn, h') => (St.head h', [])
    | (.whole, h') => beginL h'.length
    | (.none, _) => (.nothing, [(3, [])])) = _
  rw [e]
theorem step_none {h h' : Hd} {c : Nat} (e : addL h c = (.none, h')) : stepF (.head h) c = (.nothing, [(3, [])]) := by
  show (match addL h c with
    | (.opn, h') => (St.head h', [])
    | (.whole, h') => beginL h'.length
    | (.none, _) => (.nothing, [(3, [])])) = _
  rw [e]

set_option maxHeartbeats 4000000 in
theorem takeHeader_calls (w : World) (n₀ R : Nat) (h : Hd) (row : Option Nat) (c : Nat) (hr : Rdr n₀ w R (.head h) row) (hc : c < 256) (hn : n₀ ≤ w.heap.size) (hR : n₀ ≤ R) (hK : Know w) (hG : Glob n₀) :
    Calls Tryd.prog 21 #[.pointer (some ⟨R, 0, none⟩), .int .u8 (c : Int)] w fun e w' => ∃ k bv, e = .returned (.agg #[k, bv]) ∧ TakeR n₀ w R row (stepF (.head h) c).1 (stepF (.head h) c).2 k bv w' := by
  obtain ⟨lv, hbx, how, rfl, h1, h2, h3, h4⟩ := hr
  have hb0 := bel w (.cells #[.int .i64 0, .slice none 0 0] 34)
  have hlt := how.lt
  have hbl := hbx.lt
  have xV := BoxC.new w 34 #[.int .i64 0, .slice none 0 0]
  have hAdd := add_calls (w.alloc (.cells #[.int .i64 0, .slice none 0 0] 34)) R n₀ zeroI lv zeroI nilS h c (hbx.below hb0) (how.below hb0) (how.off hbx) (by have := hb0.size; omega) hR h3 ⟨h1, h2⟩ hc (hK.below hb0) hG
  have HA := hide hAdd
  have HOK := hide (add_ok h1 h2 h3 h4 hc)
  have HB0 := hide hb0
  have HV := hide xV
  have HLT := hide hlt
  have HSZ : Hid ((w.alloc (.cells #[.int .i64 0, .slice none 0 0] 34)).heap.size = w.heap.size + 1) := World.size_alloc _ _
  have hne : w.heap.size ≠ R := by omega
  have hne' : R ≠ w.heap.size := hne.symm
  clear hAdd hb0 xV hlt hbx how h1 h2 h3 h4 hK
  go_enter Tryd.func21, Tryd.ntmps21
  go_wp2_with fail
  refine HA.out.mono ?_
  rintro e w1 ⟨rfl, lv', hb1, ho1, hf1, hr1⟩
  have xV1 := HV.out.fr hf1 hne (fun q => by have := (HLT.out _ q).2; omega)
  have v0 : w1.cell? ⟨w.heap.size, 0, none⟩ = some (.int .i64 0) := xV1.cell 0
  have v1 : w1.cell? ⟨w.heap.size, 1, none⟩ = some (.slice none 0 0) := xV1.cell 1
  have g0 := xV1.frozen 0
  have g1 := xV1.frozen 1
  have lV := xV1.lt
  have HXV := hide xV1
  have HB1 := hide hb1
  have HO1 := hide ho1
  have HF1 := hide (Fr.after HB0.out hf1)
  have HR1 : Hid (RowTo w lv.ownBlock lv'.ownBlock) := by
    rcases hr1 with q | q | ⟨k, q, hk⟩
    · exact .inl q
    · exact .inr (.inl q)
    · exact .inr (.inr ⟨k, q, by have := HSZ.out; omega⟩)
  clear xV1 hb1 ho1 hf1 hr1 HA HV
  rcases hq : addL h c with ⟨q, h'⟩
  rw [hq] at HB1 HO1 HOK
  dsimp only at HB1 HO1 HOK
  cases q with
  | opn =>
    have HE := hide (step_open hq)
    obtain ⟨o1, o2, o3, o4⟩ := HOK.out (by simp)
    have HT : Hid (TakeR n₀ w R lv.ownBlock (.head h') [] zeroI nilS w1) := ⟨lv'.ownBlock, ⟨rfl, rfl⟩, ⟨lv', HB1.out, HO1.out, rfl, o1, o2, o3, o4⟩, HF1.out, HR1.out, .inl rfl, fun j e => by cases e⟩
    clear hq o1 o2 o3 o4
    dsimp only [hsI]
    go_wp2
    refine bodyPost_ret (results_msg rfl rfl (HXV.out.set2 (.int .i64 0) (.slice none 0 0))) rfl ?_
    refine ⟨_, _, rfl, ?_⟩
    rw [HE.out]
    exact (HT.out.put (Nat.le_refl _) HXV.out hne 0 _).put (Nat.le_refl _) (HXV.out.set 0 _) hne 1 _
  | whole =>
    have HE := hide (step_whole hq)
    obtain ⟨o1, o2, o3, o4⟩ := HOK.out (by simp)
    have c4 : w1.cell? ⟨R, 4, none⟩ = some (.int .i64 (h'.length : Int)) := HB1.out.cell 4
    have HBG := hide (begin_calls w1 n₀ R h'.length _ _ _ _ _ _ _ HB1.out o4)
    clear hq o1 o2 o3 o4
    dsimp only [hsI]
    go_wp2_with fail
    refine HBG.out.mono ?_
    rintro e w2 ⟨k, rfl, hm2, hr2, hf2⟩
    have xV2 := HXV.out.fr hf2 hne (by simp)
    have HT : Hid (TakeR n₀ w R lv.ownBlock (beginL h'.length).1 (beginL h'.length).2 k nilS w2) := ⟨none, hm2, hr2, HF1.out.trans hf2 (.inl rfl), .inl rfl, .inl rfl, fun j e => by cases e⟩
    have u0 : w2.cell? ⟨w.heap.size, 0, none⟩ = some (.int .i64 0) := xV2.cell 0
    have u1 : w2.cell? ⟨w.heap.size, 1, none⟩ = some (.slice none 0 0) := xV2.cell 1
    have t0 := xV2.frozen 0
    have t1 := xV2.frozen 1
    have lV2 := xV2.lt
    have HXV2 := hide xV2
    obtain ⟨k0, hk0⟩ : ∃ k0 : Int, k = .int .i64 k0 := by
      match hbl2 : (beginL h'.length).2, hm2 with
      | [], hm2 => exact ⟨0, hm2.1⟩
      | [(m, B)], hm2 => exact ⟨_, hm2.2.1⟩
      | _ :: _ :: _, hm2 => exact hm2.elim
    subst hk0
    clear xV2 hm2 hr2 hf2
    unfold nilS
    go_wp2
    refine bodyPost_ret (results_msg rfl rfl (HXV2.out.set2 _ (.slice none 0 0))) rfl ?_
    refine ⟨_, _, rfl, ?_⟩
    rw [HE.out]
    exact (HT.out.put (Nat.le_refl _) HXV2.out hne 0 _).put (Nat.le_refl _) (HXV2.out.set 0 _) hne 1 _
  | none =>
    have HE := hide (step_none hq)
    have c0 : w1.cell? ⟨R, 0, none⟩ = some zeroI := HB1.out.cell 0
    have c1 : w1.cell? ⟨R, 1, none⟩ = some (.int .i64 (h'.size : Int)) := HB1.out.cell 1
    have c2 : w1.cell? ⟨R, 2, none⟩ = some lv' := HB1.out.cell 2
    have c3 : w1.cell? ⟨R, 3, none⟩ = some (.bool h'.told) := HB1.out.cell 3
    have c4 : w1.cell? ⟨R, 4, none⟩ = some (.int .i64 (h'.length : Int)) := HB1.out.cell 4
    have c5 : w1.cell? ⟨R, 5, none⟩ = some zeroI := HB1.out.cell 5
    have c6 : w1.cell? ⟨R, 6, none⟩ = some nilS := HB1.out.cell 6
    have f0 := HB1.out.frozen 0
    have f1 := HB1.out.frozen 1
    have f2 := HB1.out.frozen 2
    have f3 := HB1.out.frozen 3
    have f4 := HB1.out.frozen 4
    have f5 := HB1.out.frozen 5
    have f6 := HB1.out.frozen 6
    have lR := HB1.out.lt
    have HT : Hid (TakeR n₀ w R lv.ownBlock .nothing [(3, [])] (.int .i64 3) nilS (set7 w1 R (.int .i64 3) (.int .i64 0) (.slice none 0 0) (.bool false) (.int .i64 0) (.int .i64 0) (.slice none 0 0))) := ⟨none, ⟨by decide, rfl, World.ownsRow_nil _ _ _ _, fun x hx => by cases hx⟩, ⟨set7_box HB1.out _ _ _ _ _ _ _, rfl⟩, set7_fr HF1.out _ _ _ _ _ _ _, .inl rfl, .inl rfl, fun j e => by cases e⟩
    have HXV2 := hide (HXV.out.fr (set7_fr (Fr.refl R none w1) (.int .i64 3) (.int .i64 0) (.slice none 0 0) (.bool false) (.int .i64 0) (.int .i64 0) (.slice none 0 0)) hne (by simp))
    clear hq
    dsimp only [hsI]
    go_wp2
    refine bodyPost_ret (results_msg rfl rfl (HXV2.out.set2 (.int .i64 3) (.slice none 0 0))) rfl ?_
    refine ⟨_, _, rfl, ?_⟩
    rw [HE.out]
    exact (HT.out.put (Nat.le_refl _) HXV2.out hne 0 _).put (Nat.le_refl _) (HXV2.out.set 0 _) hne 1 _

end Go.Proofs.YtnflbplhokodjaaDoor
