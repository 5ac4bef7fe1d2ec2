/- Frame: a reader takes what is part of one thing. -/
import Derived.Test.YtnflbplhokodjaaDoorFTake2
namespace Go.Proofs.YtnflbplhokodjaaDoor
set_option linter.unusedVariables false
set_option linter.unusedSimpArgs false
set_option maxRecDepth 100000
open Go Go.RowKit Go.Shelf Go.Lib

theorem MsgV.form {n₀ : Nat} {w : World} {k bv : Value} {ms : List Msg} (h : MsgV n₀ w k bv ms) : ∃ z a n c, k = .int .i64 z ∧ bv = .slice a n c := by
  match ms, h with
  | [], h => exact ⟨0, none, 0, 0, h.1, h.2⟩
  | [(m, B)], h => obtain ⟨a, n, c, e⟩ := h.2.2.1.slice; exact ⟨_, a, n, c, h.2.1, e⟩
  | _ :: _ :: _, h => exact h.elim
theorem RowTo.from {w w0 : World} {a b : Option Nat} (h : RowTo w0 a b) (hs : w.heap.size ≤ w0.heap.size) : RowTo w a b := by
  rcases h with q | q | ⟨k, q, hk⟩
  · exact .inl q
  · exact .inr (.inl q)
  · exact .inr (.inr ⟨k, q, by omega⟩)
theorem TakeR.from {n₀ : Nat} {w w0 : World} {R : Nat} {row : Option Nat} {s : St} {ms : List Msg} {k bv : Value} {w' : World} (hb : Below w.heap.size w w0) (h : TakeR n₀ w0 R row s ms k bv w') : TakeR n₀ w R row s ms k bv w' := by
  obtain ⟨row', h1, h2, h3, h4, h5, h6⟩ := h
  exact ⟨row', h1, h2, Fr.after hb h3, h4.from hb.size, h5.from hb.size, h6⟩
theorem TakeR.fr {n₀ : Nat} {w : World} {R : Nat} {row : Option Nat} {s : St} {ms : List Msg} {k bv : Value} {w' : World} (h : TakeR n₀ w R row s ms k bv w') : Fr R row w w' := by
  obtain ⟨row', h1, h2, h3, h4, h5, h6⟩ := h
  exact h3
theorem TakeR.form {n₀ : Nat} {w : World} {R : Nat} {row : Option Nat} {s : St} {ms : List Msg} {k bv : Value} {w' : World} (h : TakeR n₀ w R row s ms k bv w') : ∃ z a n c, k = .int .i64 z ∧ bv = .slice a n c := by
  obtain ⟨row', h1, h2, h3, h4, h5, h6⟩ := h
  exact h1.form
def standI : St → Int
  | .head _ => 0
  | .body _ _ => 1
  | .skip _ => 2
  | .nothing => 3
theorem Rdr.first {n₀ : Nat} {w : World} {R : Nat} {s : St} {row : Option Nat} (h : Rdr n₀ w R s row) : w.cell? ⟨R, 0, none⟩ = some (.int .i64 (standI s)) := by
  cases s with
  | head h0 => obtain ⟨lv, q1, _⟩ := h; exact q1.cell 0
  | body l got => obtain ⟨lv, q1, _⟩ := h; exact q1.cell 0
  | skip l => exact h.1.cell 0
  | nothing => exact h.1.cell 0

set_option maxHeartbeats 8000000 in
theorem take_calls (w : World) (n₀ R : Nat) (s : St) (row : Option Nat) (ao : Option Addr) (cap : Nat) (T : List Nat) (hr : Rdr n₀ w R s row) (hn : 0 < T.length) (hn2 : T.length ≤ 100000000) (hB : Byts w (.slice ao T.length cap) T) (hcap : T.length ≤ cap) (hnw : n₀ ≤ w.heap.size) (hR : n₀ ≤ R) (hK : Know w) (hG : Glob n₀) :
    Calls Tryd.prog 18 #[.pointer (some ⟨R, 0, none⟩), .slice ao T.length cap] w fun e w' => ∃ n k bv, e = .returned (.tuple #[.int .i64 ((n : Nat) : Int), .agg #[k, bv]]) ∧ 1 ≤ n ∧ n ≤ T.length ∧ TakeR n₀ w R row (feedL s (T.take n)).1 (feedL s (T.take n)).2 k bv w' := by
  have hb0 := bel w (.cells #[.int .i64 0, .slice none 0 0] 34)
  have xV := BoxC.new w 34 #[.int .i64 0, .slice none 0 0]
  obtain ⟨cs, hbx⟩ := hr.box
  have hbl := hbx.lt
  have hrow := hr.row
  have r0 := hr.below hb0
  have hne : w.heap.size ≠ R := by omega
  have hne' : R ≠ w.heap.size := hne.symm
  have hB0 := hB.below hb0
  have hsb := hB.small
  have k0 := hK.below hb0
  have s0 : (w.alloc (.cells #[.int .i64 0, .slice none 0 0] 34)).heap.size = w.heap.size + 1 := World.size_alloc _ _
  have cst := r0.first
  obtain ⟨w0, hw0⟩ : ∃ w0, w.alloc (.cells #[.int .i64 0, .slice none 0 0] 34) = w0 := ⟨_, rfl⟩
  rw [hw0] at hb0 xV r0 hB0 k0 s0 cst
  have HW0 := hide hw0
  have HB0 := hide hb0
  have HXV := hide xV
  have HROW := hide hrow
  have HR0 := hide r0
  have HBT := hide hB0
  have HK0 := hide k0
  have hn0 : n₀ ≤ w0.heap.size := by omega
  have lV : w.heap.size < w0.heap.size := xV.lt
  have HKEEP : Hid (∀ w1, Fr R row w0 w1 → BoxC w1 w.heap.size 34 #[.int .i64 0, .slice none 0 0]) := fun w1 hf => HXV.out.fr hf hne (fun q => by have := (HROW.out _ q).2.1; omega)
  clear hr hbx hrow r0 hB hB0 hK k0 hw0 hb0 xV
  have tk1 : T.take 1 = [nth T 0] := by
    cases T with
    | nil => simp at hn
    | cons x l => rfl
  cases s with
  | head h =>
    have cst0 : w0.cell? ⟨R, 0, none⟩ = some (.int .i64 0) := cst
    clear cst
    have hB := HBT.out
    obtain ⟨ao', c', e', hb, hc⟩ := hB
    cases e'
    obtain ⟨b, off, rfl, hcell⟩ := hc 0 hn
    rw [Nat.add_zero] at hcell
    have hx := nth_lt hb 0
    have HC := hide (takeHeader_calls w0 n₀ R h row (nth T 0) HR0.out hx hn0 hR HK0.out hG)
    have HE : Hid (feedL (.head h) (T.take 1) = stepF (.head h) (nth T 0)) := by show _ = _; rw [tk1, feed_one]
    have dn : (0 : Int) < (T.length : Int) := by omega
    clear hc hb tk1
    generalize nth T 0 = x at *
    go_enter Tryd.func18, Tryd.ntmps18
    go_upto_region 1 with fail
    rw [HW0.out]
    clear HW0
    go_wp2_with fail
    refine HC.out.mono ?_
    rintro e w1 ⟨k, bv, rfl, ht⟩
    have hxv := HKEEP.out w1 ht.fr
    have u0 : w1.cell? ⟨w.heap.size, 0, none⟩ = some (.int .i64 0) := hxv.cell 0
    have u1 : w1.cell? ⟨w.heap.size, 1, none⟩ = some (.slice none 0 0) := hxv.cell 1
    have uf0 := hxv.frozen 0
    have uf1 := hxv.frozen 1
    have lV1 := hxv.lt
    have HXV1 := hide hxv
    have HT := hide (ht.from HB0.out)
    obtain ⟨z, ba, bn, bc, rfl, rfl⟩ := ht.form
    clear ht hxv HC
    go_wp2
    refine bodyPost_ret (results_msg2 rfl rfl rfl (HXV1.out.set2 (.int .i64 z) (.slice ba bn bc))) rfl ?_
    refine ⟨1, _, _, rfl, Nat.le_refl _, hn, ?_⟩
    rw [HE.out]
    exact (HT.out.put (Nat.le_refl _) HXV1.out hne 0 _).put (Nat.le_refl _) (HXV1.out.set 0 _) hne 1 _
  | body l got =>
    have cst0 : w0.cell? ⟨R, 0, none⟩ = some (.int .i64 1) := cst
    obtain ⟨m, hm⟩ : ∃ m : Nat, min (l : Int) (T.length : Int) = (m : Int) := ⟨min l T.length, by omega⟩
    have hl0 : 0 < l := by obtain ⟨bv, _, _, _, q, _⟩ := HR0.out; exact q
    have hmT : m ≤ T.length := by omega
    have hm1 : 1 ≤ m := by omega
    have hlm : (T.take m).length = m := by simp; omega
    have HC := hide (takeBody_calls w0 n₀ R l got row ao cap T m hm HR0.out hn hn2 HBT.out hcap hn0 (feedL (.body l got) (T.take m)).1 (feedL (.body l got) (T.take m)).2 (by
      by_cases q : m = l
      · have e := feed_last l got (T.take m) (by omega) hl0
        exact .inl ⟨q, by rw [e], by rw [e]⟩
      · have e := feed_part l got (T.take m) (by omega)
        exact .inr ⟨by omega, by rw [e, hlm], by rw [e]⟩))
    have HM := hide hmT
    have HM1 := hide hm1
    clear cst tk1 hm hlm hmT hm1 hl0
    go_enter Tryd.func18, Tryd.ntmps18
    go_upto_region 1 with fail
    rw [HW0.out]
    clear HW0
    go_wp2_with fail
    refine HC.out.mono ?_
    rintro e w1 ⟨k, bv, rfl, ht⟩
    have hxv := HKEEP.out w1 ht.fr
    have u0 : w1.cell? ⟨w.heap.size, 0, none⟩ = some (.int .i64 0) := hxv.cell 0
    have u1 : w1.cell? ⟨w.heap.size, 1, none⟩ = some (.slice none 0 0) := hxv.cell 1
    have uf0 := hxv.frozen 0
    have uf1 := hxv.frozen 1
    have lV1 := hxv.lt
    have HXV1 := hide hxv
    have HT := hide (ht.from HB0.out)
    obtain ⟨z, ba, bn, bc, rfl, rfl⟩ := ht.form
    clear ht hxv HC
    go_wp2
    refine bodyPost_ret (results_msg2 rfl rfl rfl (HXV1.out.set2 (.int .i64 z) (.slice ba bn bc))) rfl ?_
    exact ⟨m, _, _, rfl, HM1.out, HM.out, (HT.out.put (Nat.le_refl _) HXV1.out hne 0 _).put (Nat.le_refl _) (HXV1.out.set 0 _) hne 1 _⟩
  | skip l =>
    have cst0 : w0.cell? ⟨R, 0, none⟩ = some (.int .i64 2) := cst
    obtain ⟨m, hm⟩ : ∃ m : Nat, min (l : Int) (T.length : Int) = (m : Int) := ⟨min l T.length, by omega⟩
    obtain rfl : row = none := HR0.out.2.1
    have hl0 : 0 < l := HR0.out.2.2.1
    have hmT : m ≤ T.length := by omega
    have hm1 : 1 ≤ m := by omega
    have hlm : (T.take m).length = m := by simp; omega
    have HC := hide (skip_calls w0 n₀ R l ao T.length cap m hm HR0.out hn (by omega))
    have HE : Hid (feedL (.skip l) (T.take m) = (if m = l then .head hd0 else .skip (l - m), [])) := by
      show _ = _
      by_cases q : m = l
      · rw [if_pos q, feed_overlast l (T.take m) (by omega) hl0]
      · rw [if_neg q, feed_over l (T.take m) (by omega), hlm]
    have HM := hide hmT
    have HM1 := hide hm1
    clear cst tk1 hm hlm hmT hm1 hl0
    go_enter Tryd.func18, Tryd.ntmps18
    go_upto_region 1 with fail
    rw [HW0.out]
    clear HW0
    go_wp2_with fail
    refine HC.out.mono ?_
    rintro e w1 ⟨rfl, hr1, hf1⟩
    have hxv := HKEEP.out w1 hf1
    have u0 : w1.cell? ⟨w.heap.size, 0, none⟩ = some (.int .i64 0) := hxv.cell 0
    have u1 : w1.cell? ⟨w.heap.size, 1, none⟩ = some (.slice none 0 0) := hxv.cell 1
    have uf0 := hxv.frozen 0
    have uf1 := hxv.frozen 1
    have lV1 := hxv.lt
    have HXV1 := hide hxv
    have HT : Hid (TakeR n₀ w R none (feedL (.skip l) (T.take m)).1 (feedL (.skip l) (T.take m)).2 (.int .i64 0) (.slice none 0 0) w1) := by
      show TakeR _ _ _ _ _ _ _ _ _
      rw [HE.out]
      exact ⟨none, ⟨rfl, rfl⟩, hr1, Fr.after HB0.out hf1, .inl rfl, .inl rfl, fun j e => by cases e⟩
    clear hr1 hf1 hxv HC HE
    go_wp2
    refine bodyPost_ret (results_msg2 rfl rfl rfl (HXV1.out.set2 (.int .i64 0) (.slice none 0 0))) rfl ?_
    exact ⟨m, _, _, rfl, HM1.out, HM.out, (HT.out.put (Nat.le_refl _) HXV1.out hne 0 _).put (Nat.le_refl _) (HXV1.out.set 0 _) hne 1 _⟩
  | nothing =>
    have cst0 : w0.cell? ⟨R, 0, none⟩ = some (.int .i64 3) := cst
    obtain rfl : row = none := HR0.out.2
    have hxv := HXV.out
    have u0 : w0.cell? ⟨w.heap.size, 0, none⟩ = some (.int .i64 0) := hxv.cell 0
    have u1 : w0.cell? ⟨w.heap.size, 1, none⟩ = some (.slice none 0 0) := hxv.cell 1
    have uf0 := hxv.frozen 0
    have uf1 := hxv.frozen 1
    have HT : Hid (TakeR n₀ w R none (feedL .nothing (T.take T.length)).1 (feedL .nothing (T.take T.length)).2 (.int .i64 0) (.slice none 0 0) w0) := by
      show TakeR _ _ _ _ _ _ _ _ _
      rw [feed_nothing]
      exact ⟨none, ⟨rfl, rfl⟩, HR0.out, Fr.of HB0.out, .inl rfl, .inl rfl, fun j e => by cases e⟩
    clear cst tk1 hxv
    go_enter Tryd.func18, Tryd.ntmps18
    go_upto_region 1 with fail
    rw [HW0.out]
    clear HW0
    go_wp2
    refine bodyPost_ret (results_msg2 rfl rfl rfl (HXV.out.set2 (.int .i64 0) (.slice none 0 0))) rfl ?_
    exact ⟨T.length, _, _, rfl, hn, Nat.le_refl _, (HT.out.put (Nat.le_refl _) HXV.out hne 0 _).put (Nat.le_refl _) (HXV.out.set 0 _) hne 1 _⟩

end Go.Proofs.YtnflbplhokodjaaDoor
