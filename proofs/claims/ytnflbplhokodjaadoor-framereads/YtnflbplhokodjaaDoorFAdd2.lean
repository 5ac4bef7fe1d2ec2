/- Frame: a header takes a byte. -/
import Derived.Test.YtnflbplhokodjaaDoorFAdd
import Derived.Maps.AppendAt
namespace Go.Proofs.YtnflbplhokodjaaDoor
set_option linter.unusedVariables false
set_option linter.unusedSimpArgs false
set_option maxRecDepth 100000
open Go Go.RowKit Go.Shelf Go.Lib

theorem OwnB.fr {n₀ R : Nat} {row : Option Nat} {w w' : World} {v : Value} {T : List Nat} (h : OwnB n₀ w v T) (k : Fr R row w w') (h1 : v.ownBlock ≠ some R) (h2 : v.ownBlock = none ∨ v.ownBlock ≠ row) : OwnB n₀ w' v T := by
  rcases id h.2 with ⟨rfl, h0⟩ | ⟨g, cap, cur, rfl, hg, hh, hn, hm, hc, ht⟩
  · exact ⟨h.1, .inl ⟨rfl, h0⟩⟩
  · have e : (Value.slice (some ⟨g, 0, none⟩) T.length cap).ownBlock = some g := rfl
    rw [e] at h1 h2
    have hlt : g < w.heap.size := (Array.getElem?_eq_some_iff.1 hh).1
    refine ⟨h.1, .inr ⟨g, cap, cur, rfl, hg, ?_, hn, hm, hc, ht⟩⟩
    rw [k.block hlt (fun q => h1 (by rw [q])) (fun q => by
      rcases h2 with h2 | h2
      · cases h2
      · exact h2 q.symm), hh]
theorem OwnB.slice {n₀ : Nat} {w : World} {v : Value} {T : List Nat} (h : OwnB n₀ w v T) : ∃ ao n c, v = .slice ao n c := by
  rcases id h.2 with ⟨rfl, h0⟩ | ⟨g, cap, cur, rfl, hg, hh, hn, hm, hc, ht⟩
  · exact ⟨none, 0, 0, rfl⟩
  · exact ⟨_, _, _, rfl⟩
/-- A row of bytes is no reader. -/
theorem OwnB.off {n₀ R : Nat} {w : World} {v : Value} {T : List Nat} {cs : Array Value} (h : OwnB n₀ w v T) (hb : BoxC w R 48 cs) : v.ownBlock ≠ some R := by
  intro e
  obtain ⟨c, fz, hk⟩ := Lib.ownsRow_kind h R e
  rw [show w.heap[R]? = _ from hb] at hk
  cases hk
theorem OwnB.below {n₀ : Nat} {w w' : World} {v : Value} {T : List Nat} (h : OwnB n₀ w v T) (k : Below w.heap.size w w') : OwnB n₀ w' v T := by
  rcases id h.2 with ⟨rfl, h0⟩ | ⟨g, cap, cur, rfl, hg, hh, hn, hm, hc, ht⟩
  · exact ⟨h.1, .inl ⟨rfl, h0⟩⟩
  · have hlt : g < w.heap.size := (Array.getElem?_eq_some_iff.1 hh).1
    exact ⟨h.1, .inr ⟨g, cap, cur, rfl, hg, by rw [k.block g hlt, hh], hn, hm, hc, ht⟩⟩
/-- Appending bytes, whatever they are, to one's own: the row is that one still, or a new one. -/
theorem wpList_appA (w : World) {ops : Array Oper} {rest : List Oper} {o : Oper} {a : Act} {Q : Exit → Act → World → Prop} (hg : o.guard = none) (s x : Operand)
    (ho : o.op = .call { callee := .builtin .append, args := #[s, x], argTypes := #[25, 25] })
    (n₀ : Nat) (v : Value) (gs : List Nat) (hs : a.eval s = v) (hown : OwnB n₀ w v gs) (xv : Value) (xs : List Nat) (hx : a.eval x = xv) (hl : Byts w xv xs) (hsum : gs.length + xs.length ≤ 1000000000) (hbase : n₀ ≤ w.heap.size)
    (h : ∀ v' w', OwnB n₀ w' v' (gs ++ xs) → w.grownBy w' v.ownBlock → (v'.ownBlock = v.ownBlock ∨ v'.ownBlock = some w.heap.size) → wpList Tryd.prog ops Q rest (a.put o.dst v') w') : wpList Tryd.prog ops Q (o :: rest) a w := by
  obtain ⟨ao, cap, rfl, h3, h4⟩ := hl
  obtain ⟨i0, hi, hz0, hz1, hz2⟩ := info_parts infoByte
  by_cases hz : xs.length = 0 ∧ ao = none
  · obtain ⟨hz, rfl⟩ := hz
    obtain rfl : xs = [] := List.length_eq_zero_iff.1 hz
    refine wpList_plain hg fun K hK => ?_
    have hrun := run_append_none w n₀ o.type v gs cap hown
    unfold Oper.wp
    simp only [List.length_nil] at hx
    simp [execOp, ho, resolve, invoke, builtin, hs, hx, hrun, Result.andThen]
    exact hK _ _ (h v w (by simpa using hown) ⟨rfl, rfl, rfl, Nat.le_refl _, fun _ _ _ => rfl⟩ (.inl rfl))
  · obtain ⟨ad, had⟩ : ∃ ad, ao = some ad := by
      cases hA : ao with
      | some ad => exact ⟨ad, rfl⟩
      | none =>
        exfalso
        apply hz
        refine ⟨?_, hA⟩
        rcases Nat.eq_zero_or_pos xs.length with e | e
        · exact e
        · obtain ⟨b, off, e2, _⟩ := h4 0 e
          rw [hA] at e2
          cases e2
    subst had
    refine wpList_append_own_at w hg s x 25 ho n₀ 5 i0 (.int .u8 0) 1 1 Tryd.underlying25 hi hz0 hz1 hz2 rfl (by decide) v gs.length (u8s gs) hs hown ad xs.length cap (u8s xs) hx (by simp [u8s]) ?_ ?_ (by unfold maxLen; omega) (by omega) hbase ?_
    · intro j u hj
      have hj2 : j < xs.length := by
        have := (List.getElem?_eq_some_iff.1 hj).1
        rw [u8s_length] at this
        exact this
      obtain ⟨b, off, e, hc⟩ := h4 j hj2
      cases e
      rw [addr_add', hc]
      simp [u8s, hj2] at hj
      simp [nth, hj2, hj]
    · intro u hu
      obtain ⟨z, _, rfl⟩ := List.mem_map.1 hu
      rfl
    · intro v' w' hown' hgrow _ hrow
      refine h v' w' ?_ hgrow hrow
      unfold OwnB
      rw [List.length_append, u8s_append]
      exact hown'

/-- Where the tables lie. -/
def Glob (n : Nat) : Prop := 7 < n ∧ 4 < n ∧ 1 < n ∧ 8 < n
theorem Know.glob {w : World} (h : Know w) : Glob w.heap.size := h.lt
theorem Know.low {n : Nat} {w w' : World} (h : Know w) (hg : Glob n) (hb : Below n w w') : Know w' := by
  obtain ⟨g1, g2, g3, g4⟩ := hg
  refine ⟨tabs_keep h.1 fun p v hp hq => ?_, fun c h1 => ?_, ?_⟩
  · exact (hb.cell (p := p) (by rcases hq with q | q <;> rw [q] <;> assumption)).trans hp
  · exact (hb.cell (p := ⟨4, c, none⟩) g2).trans (h.2.1 c h1)
  · obtain ⟨m, hm⟩ := h.2.2
    exact ⟨m, (hb.cell (p := ⟨1, 0, none⟩) g3).trans hm⟩
theorem Know.fr {n R : Nat} {row : Option Nat} {w w' : World} (h : Know w) (hg : Glob n) (k : Fr R row w w') (hR : n ≤ R) (hr : ∀ j, row = some j → n ≤ j) (hn : n ≤ w.heap.size) : Know w' := h.low hg (k.below hR hr hn)

/-- What add answers: row is the line's block. -/
def AddR (h : Hd) (c n₀ : Nat) (w : World) (R : Nat) (st left bv : Value) (row : Option Nat) (e : Ending) (w' : World) : Prop :=
  e = .returned (.int .i64 (hsI (addL h c).1)) ∧ ∃ lv', BoxC w' R 48 (rcells st (.int .i64 ((addL h c).2.size : Int)) lv' (addL h c).2.told (addL h c).2.length left bv) ∧ OwnB n₀ w' lv' (addL h c).2.line ∧ Fr R row w w' ∧ RowTo w row lv'.ownBlock
theorem addR_of {h h' : Hd} {c n₀ : Nat} {w w' : World} {R : Nat} {st left bv lv' : Value} {row : Option Nat} {s : HS} (he : addL h c = (s, h'))
    (hb : BoxC w' R 48 (rcells st (.int .i64 (h'.size : Int)) lv' h'.told h'.length left bv)) (ho : OwnB n₀ w' lv' h'.line) (hf : Fr R row w w') (hr : RowTo w row lv'.ownBlock) : AddR h c n₀ w R st left bv row (.returned (.int .i64 (hsI s))) w' := by
  unfold AddR
  rw [he]
  exact ⟨rfl, lv', hb, ho, hf, hr⟩
theorem add_long {h : Hd} {c : Nat} (h1 : 4096 < h.size + 1) : addL h c = (.none, { h with size := h.size + 1 }) := if_pos h1
theorem add_byte {h : Hd} {c : Nat} (h1 : ¬ 4096 < h.size + 1) (h2 : c ≠ 10) : addL h c = (.opn, { h with size := h.size + 1, line := h.line ++ [c] }) := by
  unfold addL
  rw [if_neg h1, if_pos h2]
theorem add_bad {h : Hd} {c : Nat} (h1 : ¬ 4096 < h.size + 1) (h2 : c = 10) (h3 : h.line.getLast? ≠ some 13) : addL h c = (.none, { h with size := h.size + 1, line := [] }) := by
  unfold addL
  rw [if_neg h1, if_neg (by simp [h2]), if_neg h3]
theorem add_end {h : Hd} {c : Nat} (h1 : ¬ 4096 < h.size + 1) (h2 : c = 10) (h3 : h.line.getLast? = some 13) : addL h c = endLineL { h with size := h.size + 1, line := [] } h.line.dropLast := by
  unfold addL
  rw [if_neg h1, if_neg (by simp [h2]), if_pos h3]
/-- A line's end leaves size and line alone. -/
theorem end_keeps (h : Hd) (T : List Nat) : (endLineL h T).2.size = h.size ∧ (endLineL h T).2.line = h.line := by
  by_cases h0 : T.length = 0
  · rw [end_empty h0]; exact ⟨rfl, rfl⟩
  · by_cases h1 : (T.takeWhile (· ≠ 58)).length = T.length ∨ (T.takeWhile (· ≠ 58)).length = 0
    · rw [end_bad h0 h1]; exact ⟨rfl, rfl⟩
    · cases h2 : isLenL (T.takeWhile (· ≠ 58)) with
      | false => rw [end_other h0 h1 h2]; exact ⟨rfl, rfl⟩
      | true =>
        rw [end_len h0 h1 h2]
        cases lengthL (T.drop ((T.takeWhile (· ≠ 58)).length + 1)) with
        | none => exact ⟨rfl, rfl⟩
        | some n => cases h.told <;> exact ⟨rfl, rfl⟩

set_option maxHeartbeats 4000000 in
theorem add_calls (w : World) (R n₀ : Nat) (st lv left bv : Value) (h : Hd) (c : Nat) (hbx : BoxC w R 48 (rcells st (.int .i64 (h.size : Int)) lv h.told h.length left bv)) (how : OwnB n₀ w lv h.line) (hne : lv.ownBlock ≠ some R) (hn : n₀ ≤ w.heap.size) (hR : n₀ ≤ R)
    (hl : ∀ x ∈ h.line, x < 256) (hsz : h.line.length ≤ h.size ∧ h.size ≤ 4096) (hc : c < 256) (hK : Know w) (hG : Glob n₀) :
    Calls Tryd.prog 26 #[.pointer (some ⟨R, 1, none⟩), .int .u8 (c : Int)] w fun e w' => AddR h c n₀ w R st left bv lv.ownBlock e w' := by
  obtain ⟨s1, hs1⟩ : ∃ s1, h.size + 1 = s1 := ⟨_, rfl⟩
  have c1 : w.cell? ⟨R, 1, none⟩ = some (.int .i64 (h.size : Int)) := hbx.cell 1
  have f1 := hbx.frozen 1
  have lR := hbx.lt
  have hx1 : BoxC (w.setCell ⟨R, 1, none⟩ (.int .i64 (s1 : Int))) R 48 (rcells st (.int .i64 (s1 : Int)) lv h.told h.length left bv) := hbx.set 1 (.int .i64 (s1 : Int))
  have fr1 : Fr R lv.ownBlock w (w.setCell ⟨R, 1, none⟩ (.int .i64 (s1 : Int))) := (Fr.refl _ _ _).set 1 _
  have ow1 : OwnB n₀ (w.setCell ⟨R, 1, none⟩ (.int .i64 (s1 : Int))) lv h.line := how.fr ((Fr.refl R none w).set 1 _) hne (by cases lv.ownBlock <;> simp)
  have k1 : Know (w.setCell ⟨R, 1, none⟩ (.int .i64 (s1 : Int))) := hK.fr hG ((Fr.refl R none w).set 1 _) hR (fun j e => by cases e) hn
  have e1 : (h.size : Int) + 1 = (s1 : Int) := by omega
  have hlb := hsz.1
  have hsb : h.size ≤ 4096 := hsz.2
  have C2 : Hid (w.cell? ⟨R, 2, none⟩ = some lv) := hbx.cell 2
  have F2 := hide (hbx.frozen 2)
  have HX := hide hx1
  have HF := hide fr1
  have HO := hide ow1
  have HK := hide k1
  have HS1 := hide hs1
  have HL := hide hl
  have HNE := hide hne
  have HLB := hide hlb
  clear hx1 fr1 ow1 k1 how hbx hK hl hsz hlb hs1 hne
  have hs1b : s1 ≤ 4097 := by omega
  by_cases hbig : 4096 < s1
  · have HE := hide (add_long (h := h) (c := c) (by have := HS1.out; omega))
    rw [HS1.out] at HE
    have d1 : (4096 : Int) < (s1 : Int) := by omega
    clear hbig
    generalize h.size = sz at *
    go_enter Tryd.func26, Tryd.ntmps26
    go_wp2
    go_ret
    exact addR_of HE.out HX.out HO.out HF.out (.inr (.inl rfl))
  · have d1 : ¬ (4096 : Int) < (s1 : Int) := by omega
    have c2 : w.cell? ⟨R, 2, none⟩ = some lv := C2.out
    have f2 := F2.out
    by_cases hc10 : c = 10
    · subst hc10
      have hsz1 : (w.setCell ⟨R, 1, none⟩ (.int .i64 (s1 : Int))).heap.size = w.heap.size := World.size_setCell _ _ _
      obtain ⟨ao, cap, hlv, hB, hcap, hn0, _, hblk⟩ := own_byts HL.out HO.out
      subst hlv
      obtain ⟨wA, hwA⟩ : ∃ wA, (w.setCell ⟨R, 1, none⟩ (.int .i64 (s1 : Int))).alloc (.cells #[.int .u8 13] 5 (1, 2)) = wA := ⟨_, rfl⟩
      have hc1 : (convert 25 25 (.slice (some ⟨w.heap.size, 0, none⟩) 1 1)).run Tryd.prog ((w.setCell ⟨R, 1, none⟩ (.int .i64 (s1 : Int))).alloc (.cells #[.int .u8 13] 5)) = .ok (.slice (some ⟨w.heap.size, 0, none⟩) 1 1) wA := by
        rw [← hwA]
        have := run_convert_bytes_const (P := Tryd.prog) (w.setCell ⟨R, 1, none⟩ (.int .i64 (s1 : Int))) 25 5 #[.int .u8 13] 1 1 Tryd.underlying25 Tryd.underlying5
        rw [hsz1] at this
        exact this
      have hs : wA.cell? ⟨w.heap.size, 0, none⟩ = some (.int .u8 13) := by
        have h1 := byts_lit (w.setCell ⟨R, 1, none⟩ (.int .i64 (s1 : Int))) [13] (by decide) (1, 2)
        rw [hsz1] at h1
        obtain ⟨a1, c1, e1, _, h2⟩ := h1
        cases e1
        obtain ⟨b', off', e', hx⟩ := h2 0 (by decide)
        cases e'
        rw [← hwA]
        exact hx
      have hb1 : Below (w.setCell ⟨R, 1, none⟩ (.int .i64 (s1 : Int))).heap.size (w.setCell ⟨R, 1, none⟩ (.int .i64 (s1 : Int))) wA := by rw [← hwA]; exact bel _ _
      have hll : h.line.length ≤ 4096 := Nat.le_trans HLB.out hsb
      have HBA := hide (hB.below hb1)
      have HC := hide (cutR_calls wA ao cap w.heap.size h.line HBA.out hcap (by omega) hs)
      have hxA := HX.out.below hb1
      have c2A : wA.cell? ⟨R, 2, none⟩ = some (.slice ao h.line.length cap) := hxA.cell 2
      have f2A := hxA.frozen 2
      have lRA := hxA.lt
      have HXA := hide hxA
      have HFA := hide (HF.out.then hb1)
      have HKA := hide (HK.out.below hb1)
      have HBK := hide hblk
      have hnA : n₀ ≤ wA.heap.size := by have := hb1.size; omega
      have E1 := hide (add_bad (h := h) (c := 10) (by have := HS1.out; omega) rfl)
      have E2 := hide (add_end (h := h) (c := 10) (by have := HS1.out; omega) rfl)
      rw [HS1.out] at E1 E2
      have HCP := hide hcap
      have HN0 := hide hn0
      clear hxA hb1 hs hB hwA hsz1 hblk hcap hn0 hbig
      go_enter Tryd.func26, Tryd.ntmps26
      go_wp2_with fail
      refine HC.out.mono ?_
      rintro e w3 ⟨hres, hw⟩
      rw [hw]
      clear hw hc1
      rcases hres with ⟨hlast, rfl⟩ | ⟨hlast, rfl⟩
      · have HE := hide (E2.out hlast)
        have hdl : h.line.dropLast.length = h.line.length - 1 := by simp
        have hcd : h.line.dropLast = h.line.take (h.line.length - 1) := List.dropLast_eq_take
        have x4 : BoxC (wA.setCell ⟨R, 2, none⟩ (.slice none 0 0)) R 48 (rcells st (.int .i64 (s1 : Int)) (.slice none 0 0) h.told h.length left bv) := HXA.out.set 2 (.slice none 0 0)
        have hfb := HBA.out.front (k := h.line.length - 1) (by omega)
        rw [← hcd] at hfb
        have hfb4 : Byts (wA.setCell ⟨R, 2, none⟩ (.slice none 0 0)) (.slice ao (h.line.length - 1) cap) h.line.dropLast := hfb.fr ((Fr.refl R none wA).set 2 _) (fun a e => ⟨fun q => HNE.out (by rw [HBK.out a e, q]), by simp⟩)
        have k4 : Know (wA.setCell ⟨R, 2, none⟩ (.slice none 0 0)) := HKA.out.fr hG ((Fr.refl R none wA).set 2 _) hR (fun j e => by cases e) hnA
        rw [← hdl] at hfb4
        have HEC := hide (endLine_calls _ R st (.int .i64 (s1 : Int)) (.slice none 0 0) left bv { h with size := s1, line := [] } x4 ao cap h.line.dropLast hfb4 (by have := HCP.out; omega) HN0.out (by omega) k4)
        rw [hdl] at HEC
        have HK4 := hide (end_keeps { h with size := s1, line := [] } h.line.dropLast)
        clear hfb hfb4 k4 x4 hcd hdl hlast E1 E2 HC
        go_wp2_with fail
        refine HEC.out.mono ?_
        rintro e w5 ⟨rfl, hb5, hf5⟩
        have HB5 := hide hb5
        have HF5 := hide hf5
        clear hb5 hf5
        go_wp2
        go_ret
        refine ⟨by rw [HE.out]; rfl, .slice none 0 0, ?_, ?_, (HFA.out.set 2 _).trans HF5.out (.inl rfl), .inl rfl⟩
        · rw [HE.out, HK4.out.1]
          exact HB5.out
        · rw [HE.out, HK4.out.2]
          exact World.ownsRow_nil _ _ _ _
      · have HE := hide (E1.out hlast)
        clear hlast E1 E2 HC
        go_wp2
        go_ret
        exact addR_of HE.out (HXA.out.set 2 (.slice none 0 0)) (World.ownsRow_nil _ _ _ _) (HFA.out.set 2 _) (.inl rfl)
    · have d2 : ((c : Int) != 10) = true := by simp; omega
      have HE := hide (add_byte (h := h) (c := c) (by have := HS1.out; omega) hc10)
      rw [HS1.out] at HE
      have hb1 := bel (w.setCell ⟨R, 1, none⟩ (.int .i64 (s1 : Int))) (.cells #[.int .u8 (c : Int)] 5)
      have HB1 := hide hb1
      have HO1 := hide (HO.out.below hb1)
      have HBY : Hid (Byts ((w.setCell ⟨R, 1, none⟩ (.int .i64 (s1 : Int))).alloc (.cells #[.int .u8 (c : Int)] 5)) (.slice (some ⟨(w.setCell ⟨R, 1, none⟩ (.int .i64 (s1 : Int))).heap.size, 0, none⟩) 1 1) [c]) := byts_lit (w.setCell ⟨R, 1, none⟩ (.int .i64 (s1 : Int))) [c] (by simpa using hc) (0, 0)
      have HX1 := hide (HX.out.below hb1)
      have hsz1 : (w.setCell ⟨R, 1, none⟩ (.int .i64 (s1 : Int))).heap.size = w.heap.size := World.size_setCell _ _ _
      rw [hsz1] at HBY
      have HSZ := hide hsz1
      have hll : h.line.length ≤ 4096 := Nat.le_trans HLB.out hsb
      clear hb1 hsz1 hbig hc10
      go_enter Tryd.func26, Tryd.ntmps26
      go_wp2_with (at_builtin; go_must (refine wpList_appA _ rfl (.tmp 25) (.tmp 27) rfl n₀ lv h.line rfl HO1.out _ [c] rfl HBY.out (by simp; omega) (by have := HB1.out.size; have := HSZ.out; omega) ?_; intro v' w2 hown' hgrow hrow); have HOW := hide hown'; obtain ⟨av, LL, cv, hv'⟩ := hown'.slice; subst hv'; have hx2 := HX1.out.kept hgrow (fun q => HNE.out q.symm); have c2' := hx2.cell 2; have f2' := hx2.frozen 2; have lR' := hx2.lt; have HX2 := hide hx2; have HG2 := hide hgrow; have HR2 := hide hrow; clear hown' hgrow hrow hx2)
      go_ret
      have hf2 : Fr R lv.ownBlock w w2 := (HF.out.then HB1.out).trans (Fr.grown HG2.out) (.inr (.inl rfl))
      refine addR_of HE.out (HX2.out.set 2 (.slice av LL cv)) (HOW.out.fr ((Fr.refl R none w2).set 2 _) (HOW.out.off HX2.out) (by cases (Value.slice av LL cv).ownBlock <;> simp)) (hf2.set 2 _) ?_
      rcases HR2.out with q | q
      · exact .inr (.inl q)
      · exact .inr (.inr ⟨_, q, by have := HB1.out.size; have := HSZ.out; omega⟩)

end Go.Proofs.YtnflbplhokodjaaDoor
