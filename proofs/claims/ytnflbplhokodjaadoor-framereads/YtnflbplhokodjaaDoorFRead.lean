/- Frame: a reader in memory; begin, part, skip, New, Over. -/
import Derived.Test.YtnflbplhokodjaaDoorFAdd2
namespace Go.Proofs.YtnflbplhokodjaaDoor
set_option linter.unusedVariables false
set_option linter.unusedSimpArgs false
set_option maxRecDepth 100000
open Go Go.RowKit Go.Shelf Go.Lib

theorem results_msg {fn : Func} {i : Tmp} (h : fn.results = #[.cell i 34]) {tmps : Array Value} {W : World} {b : Nat} {x y : Value} {t : TypeId} (hp : tmps.getD i undef = .pointer (some ⟨b, 0, none⟩)) (T : BoxC W b t #[x, y]) :
    (results fn tmps).run Tryd.prog W = .ok (.agg #[x, y]) W := by
  have c0 : W.cell? ⟨b, 0, none⟩ = some x := T.cell 0
  have c1 : W.cell? ⟨b, 1, none⟩ = some y := T.cell 1
  have hp' : tmps[i]?.getD undef = .pointer (some ⟨b, 0, none⟩) := by simpa using hp
  simp [results, h, hp', go_sem, c0, c1]
theorem results_msg2 {fn : Func} {i j : Tmp} (h : fn.results = #[.tmp j, .cell i 34]) {tmps : Array Value} {W : World} {b : Nat} {x y v : Value} {t : TypeId} (hj : tmps.getD j undef = v) (hp : tmps.getD i undef = .pointer (some ⟨b, 0, none⟩)) (T : BoxC W b t #[x, y]) :
    (results fn tmps).run Tryd.prog W = .ok (.tuple #[v, .agg #[x, y]]) W := by
  have c0 : W.cell? ⟨b, 0, none⟩ = some x := T.cell 0
  have c1 : W.cell? ⟨b, 1, none⟩ = some y := T.cell 1
  have hp' : tmps[i]?.getD undef = .pointer (some ⟨b, 0, none⟩) := by simpa using hp
  have hj' : tmps[j]?.getD undef = v := by simpa using hj
  simp [results, h, hp', hj', go_sem, c0, c1]

def nilS : Value := .slice none 0 0
def zeroI : Value := .int .i64 0
/-- A reader in memory: what it is, and the block of its row, if it has one. -/
def Rdr (n₀ : Nat) (w : World) (R : Nat) : St → Option Nat → Prop
  | .head h, row => ∃ lv, BoxC w R 48 (rcells zeroI (.int .i64 (h.size : Int)) lv h.told h.length zeroI nilS) ∧ OwnB n₀ w lv h.line ∧ row = lv.ownBlock ∧ h.line.length ≤ h.size ∧ h.size ≤ 4096 ∧ (∀ x ∈ h.line, x < 256) ∧ h.length < 10000000000
  | .body l got, row => ∃ bv, BoxC w R 48 (rcells (.int .i64 1) zeroI nilS false 0 (.int .i64 (l : Int)) bv) ∧ OwnB n₀ w bv got ∧ row = bv.ownBlock ∧ 0 < l ∧ l + got.length ≤ 16777216 ∧ (∀ x ∈ got, x < 256)
  | .skip l, row => BoxC w R 48 (rcells (.int .i64 2) zeroI nilS false 0 (.int .i64 (l : Int)) nilS) ∧ row = none ∧ 0 < l ∧ l < 10000000000
  | .nothing, row => BoxC w R 48 (rcells (.int .i64 3) zeroI nilS false 0 zeroI nilS) ∧ row = none
theorem Rdr.box {n₀ : Nat} {w : World} {R : Nat} {s : St} {row : Option Nat} (h : Rdr n₀ w R s row) : ∃ cs, BoxC w R 48 cs := by
  cases s with
  | head h0 => obtain ⟨lv, hb, _⟩ := h; exact ⟨_, hb⟩
  | body l got => obtain ⟨lv, hb, _⟩ := h; exact ⟨_, hb⟩
  | skip l => exact ⟨_, h.1⟩
  | nothing => exact ⟨_, h.1⟩
theorem Rdr.row {n₀ : Nat} {w : World} {R : Nat} {s : St} {row : Option Nat} (h : Rdr n₀ w R s row) : ∀ k, row = some k → n₀ ≤ k ∧ k < w.heap.size ∧ k ≠ R := by
  intro k e
  cases s with
  | head h0 =>
    obtain ⟨lv, hb, ho, hr, _⟩ := h
    rw [e] at hr
    exact ⟨(ho.lt k hr.symm).1, (ho.lt k hr.symm).2, fun q => ho.off hb (by rw [← hr, q])⟩
  | body l got =>
    obtain ⟨lv, hb, ho, hr, _⟩ := h
    rw [e] at hr
    exact ⟨(ho.lt k hr.symm).1, (ho.lt k hr.symm).2, fun q => ho.off hb (by rw [← hr, q])⟩
  | skip l => rw [h.2.1] at e; cases e
  | nothing => rw [h.2] at e; cases e
/-- A reader is not touched by what changes other blocks. -/
theorem Rdr.keep {n₀ : Nat} {w w' : World} {R : Nat} {s : St} {row : Option Nat} (h : Rdr n₀ w R s row) (hk : ∀ k, (k = R ∨ row = some k) → w'.heap[k]? = w.heap[k]?) : Rdr n₀ w' R s row := by
  have hb : ∀ {cs : Array Value}, BoxC w R 48 cs → BoxC w' R 48 cs := fun q => (hk R (.inl rfl)).trans q
  have ho : ∀ {v : Value} {T : List Nat}, OwnB n₀ w v T → row = v.ownBlock → OwnB n₀ w' v T := by
    intro v T q e
    rcases id q.2 with ⟨rfl, h0⟩ | ⟨g, cap, cur, rfl, hg, hh, hn, hm, hc, ht⟩
    · exact ⟨q.1, .inl ⟨rfl, h0⟩⟩
    · exact ⟨q.1, .inr ⟨g, cap, cur, rfl, hg, by rw [hk g (.inr e), hh], hn, hm, hc, ht⟩⟩
  cases s with
  | head h0 => obtain ⟨lv, q1, q2, q3, q4⟩ := h; exact ⟨lv, hb q1, ho q2 q3, q3, q4⟩
  | body l got => obtain ⟨lv, q1, q2, q3, q4⟩ := h; exact ⟨lv, hb q1, ho q2 q3, q3, q4⟩
  | skip l => exact ⟨hb h.1, h.2⟩
  | nothing => exact ⟨hb h.1, h.2⟩
theorem Rdr.below {n₀ : Nat} {w w' : World} {R : Nat} {s : St} {row : Option Nat} (h : Rdr n₀ w R s row) (hb : Below w.heap.size w w') : Rdr n₀ w' R s row := by
  refine h.keep fun k hk => hb.block k ?_
  rcases hk with rfl | q
  · obtain ⟨cs, hc⟩ := h.box; exact hc.lt
  · exact (h.row k q).2.1

set_option maxHeartbeats 1000000 in
theorem new_calls (w : World) (n₀ : Nat) : Calls Tryd.prog 11 #[] w fun e w' => e = .returned (.pointer (some ⟨w.heap.size, 0, none⟩)) ∧ Rdr n₀ w' w.heap.size (.head hd0) none ∧ Below w.heap.size w w' ∧ w'.heap.size = w.heap.size + 1 := by
  go_enter Tryd.func11, Tryd.ntmps11
  go_wp2
  go_ret
  exact ⟨rfl, ⟨nilS, BoxC.new w 48 (rcells zeroI zeroI nilS false 0 zeroI nilS), World.ownsRow_nil _ _ _ _, rfl, Nat.le_refl _, by decide, fun x hx => (by cases hx), by decide⟩, bel _ _, World.size_alloc _ _⟩

set_option maxHeartbeats 1000000 in
theorem over_calls (w : World) (n₀ R : Nat) (s : St) (row : Option Nat) (h : Rdr n₀ w R s row) : Calls Tryd.prog 14 #[.pointer (some ⟨R, 0, none⟩)] w fun e w' => e = .returned (.bool s.over) ∧ w' = w := by
  have key : ∀ z : Int, w.cell? ⟨R, 0, none⟩ = some (.int .i64 z) → (z == 3) = s.over → Calls Tryd.prog 14 #[.pointer (some ⟨R, 0, none⟩)] w fun e w' => e = .returned (.bool s.over) ∧ w' = w := by
    intro z c0 hz
    clear h
    go_enter Tryd.func14, Tryd.ntmps14
    go_wp2
    go_ret
    exact ⟨rfl, rfl⟩
  cases s with
  | head h0 => obtain ⟨lv, q1, _⟩ := h; exact key 0 (q1.cell 0) rfl
  | body l got => obtain ⟨lv, q1, _⟩ := h; exact key 1 (q1.cell 0) rfl
  | skip l => exact key 2 (h.1.cell 0) rfl
  | nothing => exact key 3 (h.1.cell 0) rfl

set_option maxHeartbeats 1000000 in
theorem part_calls (w : World) (R l n c m : Nat) (ao : Option Addr) (hm : min (l : Int) (n : Int) = (m : Int)) (h : w.cell? ⟨R, 5, none⟩ = some (.int .i64 (l : Int))) (hl : l < 10000000000) (hn : n ≤ 1000000000) : Calls Tryd.prog 28 #[.pointer (some ⟨R, 0, none⟩), .slice ao n c] w fun e w' => e = .returned (.int .i64 (m : Int)) ∧ w' = w := by
  go_enter Tryd.func28, Tryd.ntmps28
  go_wp2
  go_ret
  exact ⟨rfl, rfl⟩

/-- A message's kind and body, as a value: what came, or nothing. -/
def MsgV (n₀ : Nat) (w : World) (k bv : Value) : List Msg → Prop
  | [] => k = zeroI ∧ bv = nilS
  | [(m, B)] => m ≠ 0 ∧ k = .int .i64 (m : Int) ∧ OwnB n₀ w bv B ∧ ∀ x ∈ B, x < 256
  | _ => False

/-- All cells of a reader anew. -/
def set7 (w : World) (R : Nat) (a b c d e f g : Value) : World := ((((((w.setCell ⟨R, 0, none⟩ a).setCell ⟨R, 1, none⟩ b).setCell ⟨R, 2, none⟩ c).setCell ⟨R, 3, none⟩ d).setCell ⟨R, 4, none⟩ e).setCell ⟨R, 5, none⟩ f).setCell ⟨R, 6, none⟩ g
theorem set7_box {w : World} {R : Nat} {t : TypeId} {a b c d e f g : Value} (h : BoxC w R t #[a, b, c, d, e, f, g]) (a' b' c' d' e' f' g' : Value) : BoxC (set7 w R a' b' c' d' e' f' g') R t #[a', b', c', d', e', f', g'] := by
  have h0 : BoxC _ R t #[a', b, c, d, e, f, g] := h.set 0 a'
  have h1 : BoxC _ R t #[a', b', c, d, e, f, g] := h0.set 1 b'
  have h2 : BoxC _ R t #[a', b', c', d, e, f, g] := h1.set 2 c'
  have h3 : BoxC _ R t #[a', b', c', d', e, f, g] := h2.set 3 d'
  have h4 : BoxC _ R t #[a', b', c', d', e', f, g] := h3.set 4 e'
  have h5 : BoxC _ R t #[a', b', c', d', e', f', g] := h4.set 5 f'
  have h6 : BoxC _ R t #[a', b', c', d', e', f', g'] := h5.set 6 g'
  exact h6
theorem set7_fr {w w0 : World} {R : Nat} {row : Option Nat} (h : Fr R row w0 w) (a b c d e f g : Value) : Fr R row w0 (set7 w R a b c d e f g) :=
  ((((((h.set 0 a).set 1 b).set 2 c).set 3 d).set 4 e).set 5 f).set 6 g
theorem set7_size (w : World) (R : Nat) (a b c d e f g : Value) : (set7 w R a b c d e f g).heap.size = w.heap.size := by simp [set7]
theorem new_at {W : World} {n : Nat} (hs : W.heap.size = n) (t : TypeId) (cs : Array Value) : BoxC (W.alloc (.cells cs t)) n t cs := by rw [← hs]; exact BoxC.new W t cs

set_option maxHeartbeats 2000000 in
theorem begin_calls (w : World) (n₀ R n : Nat) (a b c d e5 f g : Value) (hbx : BoxC w R 48 #[a, b, c, d, e5, f, g]) (hn : n < 10000000000) :
    Calls Tryd.prog 27 #[.pointer (some ⟨R, 0, none⟩), .int .i64 (n : Int)] w fun e w' => ∃ k, e = .returned (.agg #[k, nilS]) ∧ MsgV n₀ w' k nilS (beginL n).2 ∧ Rdr n₀ w' R (beginL n).1 none ∧ Fr R none w w' := by
  have hne : w.heap.size ≠ R := by have := hbx.lt; omega
  have hne' : R ≠ w.heap.size := hne.symm
  have lR := hbx.lt
  have c0 : w.cell? ⟨R, 0, none⟩ = some a := hbx.cell 0
  have c1 : w.cell? ⟨R, 1, none⟩ = some b := hbx.cell 1
  have c2 : w.cell? ⟨R, 2, none⟩ = some c := hbx.cell 2
  have c3 : w.cell? ⟨R, 3, none⟩ = some d := hbx.cell 3
  have c4 : w.cell? ⟨R, 4, none⟩ = some e5 := hbx.cell 4
  have c5 : w.cell? ⟨R, 5, none⟩ = some f := hbx.cell 5
  have c6 : w.cell? ⟨R, 6, none⟩ = some g := hbx.cell 6
  have f0 := hbx.frozen 0
  have f1 := hbx.frozen 1
  have f2 := hbx.frozen 2
  have f3 := hbx.frozen 3
  have f4 := hbx.frozen 4
  have f5 := hbx.frozen 5
  have f6 := hbx.frozen 6
  have HX := hide hbx
  clear hbx
  by_cases h0 : n = 0
  · subst h0
    go_enter Tryd.func27, Tryd.ntmps27
    go_wp2
    refine bodyPost_ret (results_msg rfl rfl (new_at (set7_size w R (.int .i64 0) (.int .i64 0) (.slice none 0 0) (.bool false) (.int .i64 0) (.int .i64 0) (.slice none 0 0)) 34 #[.int .i64 1, .slice none 0 0])) rfl ?_
    have hb := bel (set7 w R (.int .i64 0) (.int .i64 0) (.slice none 0 0) (.bool false) (.int .i64 0) (.int .i64 0) (.slice none 0 0)) (.cells #[.int .i64 1, .slice none 0 0] 34)
    refine ⟨_, rfl, ?_, ?_, (set7_fr (Fr.refl R none w) _ _ _ _ _ _ _).then hb⟩
    · exact ⟨by decide, rfl, World.ownsRow_nil _ _ _ _, fun x hx => by cases hx⟩
    · exact ⟨nilS, (set7_box HX.out _ _ _ _ _ _ _).below hb, World.ownsRow_nil _ _ _ _, rfl, Nat.le_refl _, by decide, fun x hx => (by cases hx), by decide⟩
  · have e0 : ((n : Int) == 0) = false := beq_eq_false_iff_ne.2 (by omega)
    by_cases hbig : 16777216 < n
    · have e1 : (16777216 : Int) < (n : Int) := by omega
      have HE : Hid (beginL n = (.skip n, [(2, [])])) := by
        show beginL n = _
        unfold beginL
        rw [if_neg h0, if_pos hbig]
      have HN : Hid (0 < n) := show 0 < n by omega
      clear h0 hbig
      go_enter Tryd.func27, Tryd.ntmps27
      go_wp2
      refine bodyPost_ret (results_msg rfl rfl (new_at (set7_size w R (.int .i64 2) (.int .i64 0) (.slice none 0 0) (.bool false) (.int .i64 0) (.int .i64 (n : Int)) (.slice none 0 0)) 34 #[.int .i64 2, .slice none 0 0])) rfl ?_
      have hb := bel (set7 w R (.int .i64 2) (.int .i64 0) (.slice none 0 0) (.bool false) (.int .i64 0) (.int .i64 (n : Int)) (.slice none 0 0)) (.cells #[.int .i64 2, .slice none 0 0] 34)
      rw [HE.out]
      refine ⟨_, rfl, ?_, ?_, (set7_fr (Fr.refl R none w) _ _ _ _ _ _ _).then hb⟩
      · exact ⟨by decide, rfl, World.ownsRow_nil _ _ _ _, fun x hx => by cases hx⟩
      · exact ⟨(set7_box HX.out _ _ _ _ _ _ _).below hb, rfl, HN.out, hn⟩
    · have e1 : ¬ (16777216 : Int) < (n : Int) := by omega
      have HE : Hid (beginL n = (.body n [], [])) := by
        show beginL n = _
        unfold beginL
        rw [if_neg h0, if_neg hbig]
      have HN : Hid (0 < n ∧ n ≤ 16777216) := show _ ∧ _ by omega
      clear h0 hbig
      go_enter Tryd.func27, Tryd.ntmps27
      go_wp2
      refine bodyPost_ret (results_msg rfl rfl (new_at (set7_size w R (.int .i64 1) (.int .i64 0) (.slice none 0 0) (.bool false) (.int .i64 0) (.int .i64 (n : Int)) (.slice none 0 0)) 34 #[.int .i64 0, .slice none 0 0])) rfl ?_
      have hb := bel (set7 w R (.int .i64 1) (.int .i64 0) (.slice none 0 0) (.bool false) (.int .i64 0) (.int .i64 (n : Int)) (.slice none 0 0)) (.cells #[.int .i64 0, .slice none 0 0] 34)
      rw [HE.out]
      refine ⟨_, rfl, ?_, ?_, (set7_fr (Fr.refl R none w) _ _ _ _ _ _ _).then hb⟩
      · exact ⟨rfl, rfl⟩
      · exact ⟨nilS, (set7_box HX.out _ _ _ _ _ _ _).below hb, World.ownsRow_nil _ _ _ _, rfl, HN.out.1, HN.out.2, fun x hx => by cases hx⟩

end Go.Proofs.YtnflbplhokodjaaDoor
