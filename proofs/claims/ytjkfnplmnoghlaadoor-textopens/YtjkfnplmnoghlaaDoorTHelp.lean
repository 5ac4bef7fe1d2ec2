/- The law's same; the reference's Apply; a document's bytes and edits. -/
import Derived.Test.YtjkfnplmnoghlaaDoorTChs
import Derived.Test.YtjkfnplmnoghlaaDoorTROne
import Derived.Test.YtjkfnplmnoghlaaDoorTOpen
import Derived.Deep.QuietTactic
import Derived.BigQuiet
namespace Go.Proofs.YtjkfnplmnoghlaaDoor
set_option linter.unusedVariables false
set_option linter.unusedSimpArgs false
set_option maxRecDepth 100000
open Go Go.RowKit Go.Shelf Go.Lib

theorem bdrewN {n : Nat} {w W : World} (h : Below n w W) (k : Nat) : Below n w (W.drewN k) := by
  induction k with
  | zero => exact h
  | succ k ih => exact ih.drew

set_option maxHeartbeats 8000000 in
theorem same_calls (w : World) (va vb : Value) (L : List Ed) (ha : EdsIn w va L) (hb : EdsIn w vb L) (hL : L.length ≤ 1000000) :
    Calls Tryd.prog 18 #[va, vb] w fun e w' => e = .returned (.bool true) ∧ Below w.heap.size w w' := by
  obtain ⟨ao, acap, rfl, hac, has⟩ := ha
  obtain ⟨bo, bcap, rfl, hbc, hbs⟩ := hb
  have HA := hide has
  have HB := hide hbs
  clear has hbs
  generalize hLn : L.length = Ln at *
  have HLN := hide hLn
  clear hLn
  go_enter Tryd.func18, Tryd.ntmps18
  go_wp2
  go_loopw [5] (fun iv wr => ∃ k : Nat, k ≤ Ln ∧ iv = .int .i64 (k : Int) ∧ Below w.heap.size w wr) (fun iv _ => Ln - (RowKit.intOf iv).toNat)
  case atStart => exact ⟨0, Nat.zero_le _, rfl, Below.refl _ _⟩
  case round =>
    obtain ⟨k, hk, rfl, hbw⟩ := hrel
    have HBW := hide hbw
    by_cases hlt : k < Ln
    · obtain ⟨⟨a, b, z⟩, hx⟩ : ∃ x, L[k]? = some x := ⟨_, List.getElem?_eq_getElem (by rw [HLN.out]; exact hlt)⟩
      obtain ⟨eb, eo, rfl, c0, c1, c2⟩ := HA.out k _ hx
      obtain ⟨fb, fo, rfl, m0, m1, m2⟩ := HB.out k _ hx
      have c0' : wr.cell? ⟨eb, eo + k * 3, none⟩ = some (.int .i64 a) := (hbw.cell (p := ⟨eb, eo + k * 3, none⟩) (block_lt c0)).trans c0
      have c1' : wr.cell? ⟨eb, eo + k * 3 + 1, none⟩ = some (.int .i64 b) := (hbw.cell (p := ⟨eb, eo + k * 3 + 1, none⟩) (block_lt c1)).trans c1
      have c2' : wr.cell? ⟨eb, eo + k * 3 + 2, none⟩ = some (.int .i64 z) := (hbw.cell (p := ⟨eb, eo + k * 3 + 2, none⟩) (block_lt c2)).trans c2
      have m0' : wr.cell? ⟨fb, fo + k * 3, none⟩ = some (.int .i64 a) := (hbw.cell (p := ⟨fb, fo + k * 3, none⟩) (block_lt m0)).trans m0
      have m1' : wr.cell? ⟨fb, fo + k * 3 + 1, none⟩ = some (.int .i64 b) := (hbw.cell (p := ⟨fb, fo + k * 3 + 1, none⟩) (block_lt m1)).trans m1
      have m2' : wr.cell? ⟨fb, fo + k * 3 + 2, none⟩ = some (.int .i64 z) := (hbw.cell (p := ⟨fb, fo + k * 3 + 2, none⟩) (block_lt m2)).trans m2
      have d1 : (k : Int) < (Ln : Int) := by omega
      have d0 : (0 : Int) ≤ (k : Int) := by omega
      clear c0 c1 c2 m0 m1 m2 hx hbw
      go_wp2
      go_quiet (fail)
      go_wp2
      go_roundw
      case rel => exact ⟨k + 1, by omega, by go_num, bdrewN HBW.out _⟩
      case measure => simp [RowKit.intOf]; omega
    · obtain rfl : k = Ln := by omega
      have d1 : ¬ (k : Int) < (k : Int) := by omega
      go_wp2
      go_ret
      exact ⟨rfl, HBW.out⟩

/-- What the reference's Apply answers. -/
def RAppR (T : List Nat) (L : List Ch) (W : World) (sv : ByteArray) (rv : Value) (r : Int) : Prop := ∃ NT D, ApplyR T L r NT D ∧ (r = 0 → sv = strOf NT ∧ EdsIn W rv D)

set_option maxHeartbeats 8000000 in
theorem rapply_calls (w : World) (T : List Nat) (v : Value) (L : List Ch) (hT : ∀ y ∈ T, y < 256) (hTl : T.length ≤ 1048576) (h : ChsIn w v L) (hX : ∀ (j : Nat) (x : Ch), L[j]? = some x → x.2.2.2.2.2.length ≤ 1000000) (hL : L.length ≤ 1000000) :
    Calls Tryd.prog 14 #[.string (strOf T), v] w fun e w' => ∃ (r : Int) (sv : ByteArray) (rv : Value), e = .returned (.tuple #[.string sv, rv, .int .i64 r]) ∧ RAppR T L w' sv rv r ∧ Below w.heap.size w w' := by
  obtain ⟨i0, hi, hz0, hz1, hz2⟩ := info_parts infoREd
  obtain ⟨co, cc, rfl, hcl, hch⟩ := h
  have HCH := hide hch
  have HX := hide hX
  have HT := hide hT
  generalize hLn : L.length = Ln at *
  have HLN := hide hLn
  clear hch hX hT hLn
  go_enter Tryd.func14, Tryd.ntmps14
  go_wp2
  go_loopw [0, 7, 8] (fun sv ov iv wr => ∃ (k : Nat) (T' : List Nat) (D' : List Ed), k ≤ Ln ∧ iv = .int .i64 (k : Int) ∧ sv = .string (strOf T') ∧ Pre T L k T' D' ∧ wr.ownsRow w.heap.size 79 3 ov D'.length (ecells D') ∧ Below w.heap.size w wr) (fun _ _ iv _ => Ln - (RowKit.intOf iv).toNat)
  case atStart => exact ⟨0, T, [], Nat.zero_le _, rfl, rfl, ⟨rfl, rfl⟩, World.ownsRow_nil _ _ _ _, Below.refl _ _⟩
  case round =>
    obtain ⟨k, T', D', hk, rfl, rfl, hpre, hown, hb⟩ := hrel
    have hTl' : T'.length ≤ 1048576 := pre_size hTl hpre
    have hDl : D'.length = k := pre_length hpre
    have hDb : D'.length ≤ 1000000 := by omega
    have HPRE := hide hpre
    have HOWN := hide hown
    have HB := hide hb
    have HDL := hide hDl
    clear hpre hown hDl
    by_cases hlt : k < Ln
    · obtain ⟨⟨rg, p, u, q, v, X⟩, hx⟩ : ∃ x, L[k]? = some x := ⟨_, List.getElem?_eq_getElem (by rw [HLN.out]; exact hlt)⟩
      obtain ⟨hok, cb, cof, rfl, hca⟩ := HCH.out k _ hx
      obtain ⟨e0, e1, e2, e3, e4, e5⟩ := (hca.below (W := w) hb)
      dsimp only at e0 e1 e2 e3 e4 e5
      have d1 : (k : Int) < (Ln : Int) := by omega
      have d0 : (0 : Int) ≤ (k : Int) := by omega
      have l2 : cb < wr.heap.size := block_lt e0
      have hsm : ∀ y ∈ T', y < 256 := pre_small HT.out (fun j x hj => (HCH.out j x hj).1) HPRE.out
      have hone := r7one_calls wr T' rg p u q v X hsm hTl' hok.2.2 (HX.out k _ hx) hok.1 hok.2.1
      unfold chV at hone
      have HONE := hide hone
      have HXK := hide hx
      clear hone hsm hok hca hx hb
      generalize strOf X = sx at *
      generalize strOf T' = sT at *
      go_wp2_with fail
      refine HONE.out.mono ?_
      rintro e w2 ⟨r, NT, ⟨da, db, dz⟩, sv2, rfl, hst, hgood, hb2⟩
      dsimp only
      have HST := hide hst
      have HGOOD := hide hgood
      have OW2 := hide (ownsRow_keep HOWN.out hb2)
      have HB2 := hide (bafter HB.out hb2 (by have := HB.out.size; omega))
      have ls := HB2.out.size
      have k3 := bel w2 (.cells #[.int .i64 da, .int .i64 db, .int .i64 dz] 79)
      have OW3 := hide (ownsRow_keep OW2.out k3)
      have HB3 := hide (bafter HB2.out k3 (by have := HB2.out.size; omega))
      clear hst hgood hb2 k3 HONE e0 e1 e2 e3 e4 e5
      by_cases hr : r = 0
      · subst hr
        obtain rfl := HGOOD.out rfl
        have HONE : Hid (∀ y ∈ ([.int .i64 da, .int .i64 db, .int .i64 dz] : List Value), y.oneCell' = true) := fun x hx => by
          simp at hx
          rcases hx with rfl | rfl | rfl <;> rfl
        obtain ⟨W4, hW4⟩ : ∃ W4, w2.alloc (.cells #[.int .i64 da, .int .i64 db, .int .i64 dz] 79) = W4 := ⟨_, rfl⟩
        have t12 : BoxC W4 w2.heap.size 79 #[.int .i64 da, .int .i64 db, .int .i64 dz] := by rw [← hW4]; exact BoxC.new _ _ _
        rw [hW4] at OW3 HB3
        have t0 : W4.cell? ⟨w2.heap.size, 0, none⟩ = some (.int .i64 da) := t12.cell 0
        have t1 : W4.cell? ⟨w2.heap.size, 1, none⟩ = some (.int .i64 db) := t12.cell 1
        have t2 : W4.cell? ⟨w2.heap.size, 2, none⟩ = some (.int .i64 dz) := t12.cell 2
        have OW5 := hide (ownsRow_keep OW3.out (bel W4 (.cells #[.int .i64 da, .int .i64 db, .int .i64 dz] 79)))
        have ls4 := HB3.out.size
        generalize hsN : strOf NT = sN at *
        have HSN := hide hsN
        clear hsN
        go_upto_region 9 with fail
        try rw [hW4]
        clear hW4 t12
        go_wp2_with (at_builtin; go_must (refine wpList_append_own _ rfl (.tmp 32) (.tmp 34) 31 rfl w.heap.size 79 i0 (.agg #[.int .i64 0, .int .i64 0, .int .i64 0]) 3 24 Tryd.underlying31 hi hz0 hz1 hz2 rfl (by decide) _ D'.length (ecells D') rfl OW5.out ⟨W4.heap.size, 0, none⟩ 1 1 [.int .i64 da, .int .i64 db, .int .i64 dz] rfl rfl (by exact World.news_of_block (World.alloc_heap_new _ _)) HONE.out (by unfold maxLen; omega) (by omega) (by simp; omega) ?_; intro v' w5 hown' hgrow hnil))
        have hb5 : Below w.heap.size w w5 := (HB3.out.alloc ls4 (.cells #[.int .i64 da, .int .i64 db, .int .i64 dz] 79)).grown hgrow (by simp; omega) (fun j hj => by have := (HOWN.out.lt j hj).1; omega)
        have hown5 : w5.ownsRow w.heap.size 79 3 v' (D' ++ [(da, db, dz)]).length (ecells (D' ++ [(da, db, dz)])) := by
          rw [ecells_snoc, List.length_append]
          exact hown'
        have OW6 := hide hown5
        have HB5 := hide hb5
        clear hb5 hown5 hown' hgrow hnil OW3 OW5 HONE t0 t1 t2
        go_wp2
        go_roundw
        case rel => exact ⟨k + 1, NT, D' ++ [(da, db, dz)], by omega, by go_num, by rw [HSN.out], ⟨T', D', _, _, HPRE.out, HXK.out, HST.out, rfl⟩, OW6.out, HB5.out⟩
        case measure => simp [RowKit.intOf]; omega
      · have HR := hide hr
        go_wp2
        go_ret3
        exact ⟨r, _, _, rfl, ⟨[], [], .inr ⟨HR.out, k, T', D', _, NT, (da, db, dz), HPRE.out, HXK.out, HST.out⟩, fun e => absurd e HR.out⟩, HB3.out⟩
    · obtain rfl : k = Ln := by omega
      have d1 : ¬ (k : Int) < (k : Int) := by omega
      clear hb
      go_wp2
      go_ret3
      exact ⟨0, _, _, rfl, ⟨T', D', .inl ⟨rfl, by rw [HLN.out]; exact HPRE.out⟩, fun _ => ⟨rfl, edsIn_of HOWN.out⟩⟩, HB.out⟩

set_option maxHeartbeats 4000000 in
theorem bclone_nil (w : World) : Calls Tryd.prog 32 #[.slice none 0 0] w fun e w' => e = .returned (.slice none 0 0) ∧ w' = w := by
  have qT : ∀ (w : World) (n c : Nat), (binOp .eql 36 (.slice none n c) (.slice none 0 0)).run Tryd.prog w = .ok (.bool true) w := fun w n c => Lib.run_eql_slice_nil w 36 5 none n c 0 0 Tryd.underlying36
  go_enter Tryd.func32, Tryd.ntmps32
  go_wp2
  go_ret
  exact ⟨rfl, rfl⟩

set_option maxHeartbeats 4000000 in
theorem eclone_nil (w : World) (c : Nat) : Calls Tryd.prog 33 #[.slice none 0 c] w fun e w' => e = .returned (.slice none 0 0) ∧ w' = w := by
  have qT : ∀ (w : World) (n c : Nat), (binOp .eql 41 (.slice none n c) (.slice none 0 0)).run Tryd.prog w = .ok (.bool true) w := fun w n c => Lib.run_eql_slice_nil w 41 69 none n c 0 0 Tryd.underlying41
  go_enter Tryd.func33, Tryd.ntmps33
  go_wp2
  go_ret
  exact ⟨rfl, rfl⟩

set_option maxHeartbeats 4000000 in
theorem bytes_any (w : World) (D : Nat) (ver : Int) (T : List Nat) (E : List Ed) (h : DocIs w D ver T E) (hlen : T.length ≤ 100000000) :
    Calls Tryd.prog 16 #[.pointer (some ⟨D, 0, none⟩)] w fun e w' => ∃ ao c, e = .returned (.slice ao T.length c) ∧ Byt w' ao c T ∧ Below w.heap.size w w' := by
  obtain ⟨ao, c, lo, ln, lc, eo, ec, h1, h2, h3, h4, h5, h6, h7, h8⟩ := h
  cases ao with
  | some a => exact bytes_calls w D ver a c T lo ln lc eo _ ec h1 h2.1 hlen
  | none =>
    have hc : c = 0 := h2.1.2.2 rfl
    have hT : T = [] := List.length_eq_zero_iff.1 (by have := h2.1.2.1; omega)
    subst hc hT
    have c1 : w.cell? ⟨D, 1, none⟩ = some (.slice none 0 0) := BoxC.cell h1 1
    have HB := hide h2
    clear h1 h2 h3 h4 h5 h6 h7 h8
    go_enter Tryd.func16, Tryd.ntmps16
    go_wp2_with fail
    refine (bclone_nil w).mono ?_
    rintro e w1 ⟨rfl, hw⟩
    rw [hw]
    go_wp2
    go_ret
    exact ⟨none, 0, rfl, HB.out.1, Below.refl _ _⟩

set_option maxHeartbeats 4000000 in
theorem edits_any (w : World) (D : Nat) (ver : Int) (T : List Nat) (E : List Ed) (h : DocIs w D ver T E) (hlen : E.length ≤ 1000000) :
    Calls Tryd.prog 17 #[.pointer (some ⟨D, 0, none⟩)] w fun e w' => ∃ ao c, e = .returned (.slice ao E.length c) ∧ EdsIn w' (.slice ao E.length c) E ∧ Below w.heap.size w w' := by
  obtain ⟨ao, c, lo, ln, lc, eo, ec, h1, h2, h3, h4, h5, h6, h7, h8⟩ := h
  cases eo with
  | some a =>
    obtain ⟨b, o, rfl⟩ := h7 a rfl
    refine (dedits_calls w D ver ao _ c lo ln lc b o ec E h1 h6 hlen).mono fun e w' ⟨rv, k1, k2, k3⟩ => ?_
    obtain ⟨ao', c', rfl, _⟩ := id k2
    exact ⟨ao', c', k1, k2, k3⟩
  | none =>
    have hE : E = [] := by
      cases E with
      | nil => rfl
      | cons x l =>
        obtain ⟨ao', cap', e, _, hs⟩ := h6
        obtain ⟨b, off, e2, _⟩ := hs 0 x rfl
        cases e
        cases e2
    subst hE
    obtain ⟨ao', cap', e, hcap, hs⟩ := id h6
    have c1 : w.cell? ⟨D, 3, none⟩ = some (.slice none 0 ec) := BoxC.cell h1 3
    have H6 := hide h6
    clear h1 h2 h3 h4 h5 h6 h7 h8 e hcap hs
    go_enter Tryd.func17, Tryd.ntmps17
    go_wp2_with fail
    refine (eclone_nil w ec).mono ?_
    rintro e w1 ⟨rfl, hw⟩
    rw [hw]
    go_wp2
    go_ret
    exact ⟨none, 0, rfl, ⟨none, 0, rfl, Nat.le_refl _, fun j x hj => by simp at hj⟩, Below.refl _ _⟩

end Go.Proofs.YtjkfnplmnoghlaaDoor
