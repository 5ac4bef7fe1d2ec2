/- A document behind any changes: Apply. -/
import Derived.Test.YthhpfdjcggfhaaaDoorTChg
import Derived.Test.YthhpfdjcggfhaaaDoorTApply
namespace Go.Proofs.YthhpfdjcggfhaaaDoor
set_option linter.unusedVariables false
set_option linter.unusedSimpArgs false
set_option maxRecDepth 100000
open Go Go.RowKit Go.Shelf Go.Lib

/-- Nothing but block D is other than it was. -/
def But (D : Nat) (w w' : World) : Prop := w'.os = w.os ∧ w'.tape = w.tape ∧ w'.output = w.output ∧ w.heap.size ≤ w'.heap.size ∧ ∀ k, k < w.heap.size → k ≠ D → w'.heap[k]? = w.heap[k]?
theorem But.of {D : Nat} {w w' : World} (h : Below w.heap.size w w') : But D w w' := ⟨h.os, h.tape, h.output, h.size, fun k hk _ => h.block k hk⟩
theorem But.set {D : Nat} {w w' : World} (h : But D w w') (i : Nat) (x : Value) : But D w (w'.setCell ⟨D, i, none⟩ x) := by
  refine ⟨h.1, h.2.1, h.2.2.1, ?_, fun k hk hne => (Below.heap_setCell w' ⟨D, i, none⟩ x k hne).trans (h.2.2.2.2 k hk hne)⟩
  have := (Below.refl 0 w').setCell (p := ⟨D, i, none⟩) (Nat.zero_le _) x
  exact Nat.le_trans h.2.2.2.1 this.size
theorem But.trans {D : Nat} {a b c : World} (h : But D a b) (k : But D b c) : But D a c :=
  ⟨k.1.trans h.1, k.2.1.trans h.2.1, k.2.2.1.trans h.2.2.1, Nat.le_trans h.2.2.2.1 k.2.2.2.1, fun i hi hne => (k.2.2.2.2 i (Nat.lt_of_lt_of_le hi h.2.2.2.1) hne).trans (h.2.2.2.2 i hi hne)⟩
theorem But.after {D n : Nat} {a b c : World} (h : Below n a b) (k : But D b c) (hn : n ≤ D) (hb : n ≤ b.heap.size) : Below n a c :=
  ⟨k.1.trans h.os, k.2.1.trans h.tape, k.2.2.1.trans h.output, Nat.le_trans h.size k.2.2.2.1, fun i hi => (k.2.2.2.2 i (by omega) (by omega)).trans (h.block i hi)⟩
theorem But.cell {D : Nat} {w w' : World} (h : But D w w') {p : Addr} (hp : p.block < w.heap.size) (hne : p.block ≠ D) : w'.cell? p = w.cell? p := World.cell?_of_block (w := w) (h.2.2.2.2 p.block hp hne)
theorem BoxC.but {D : Nat} {w w' : World} {B : Nat} {t : TypeId} {cs : Array Value} (h : BoxC w B t cs) (k : But D w w') (hne : B ≠ D) : BoxC w' B t cs := (k.2.2.2.2 B h.lt hne).trans h

/-- Not in block D. -/
def Off (D : Nat) (ao : Option Addr) : Prop := ∀ a, ao = some a → a.block ≠ D
theorem Far.off {n D : Nat} {ao : Option Addr} (h : Far n ao) (hD : D < n) : Off D ao := fun a e => by have := h a e; omega
theorem Byt.but {D : Nat} {W W' : World} {ao : Option Addr} {cap : Nat} {T : List Nat} (h : Byt W ao cap T) (k : But D W W') (ho : Off D ao) : Byt W' ao cap T := by
  obtain ⟨⟨ao', c', e, h1, h2⟩, h3, h4⟩ := h
  cases e
  refine ⟨⟨ao, cap, rfl, h1, fun j hj => ?_⟩, h3, h4⟩
  obtain ⟨b, off, e, hc⟩ := h2 j hj
  exact ⟨b, off, e, (k.cell (p := ⟨b, off + j, none⟩) (block_lt hc) (show b ≠ D from ho ⟨b, off, none⟩ e)).trans hc⟩
theorem IntsIn.but {D : Nat} {W W' : World} {ao : Option Addr} {n cap : Nat} {L : List Int} (h : IntsIn W (.slice ao n cap) L) (k : But D W W') (ho : Off D ao) : IntsIn W' (.slice ao n cap) L := by
  obtain ⟨ao', c', e, h2⟩ := h
  cases e
  refine ⟨ao, cap, rfl, fun j hj => ?_⟩
  obtain ⟨b, off, e, hc⟩ := h2 j hj
  exact ⟨b, off, e, (k.cell (p := ⟨b, off + j, none⟩) (block_lt hc) (show b ≠ D from ho ⟨b, off, none⟩ e)).trans hc⟩
theorem Body.but {D : Nat} {W W' : World} {ao : Option Addr} {cap : Nat} {lo : Option Addr} {ln lc : Nat} {T : List Nat} (h : Body W ao cap (.slice lo ln lc) T) (k : But D W W') (h1 : Off D ao) (h2 : Off D lo) : Body W' ao cap (.slice lo ln lc) T := ⟨h.1.but k h1, h.2.but k h2⟩
theorem EdsIn.but {D : Nat} {W W' : World} {ao : Option Addr} {n cap : Nat} {L : List Ed} (h : EdsIn W (.slice ao n cap) L) (k : But D W W') (ho : Off D ao) : EdsIn W' (.slice ao n cap) L := by
  obtain ⟨ao', c', e, h2, h3⟩ := h
  cases e
  refine ⟨ao, cap, rfl, h2, fun j y hj => ?_⟩
  obtain ⟨b, off, e, c0, c1, c2⟩ := h3 j y hj
  exact ⟨b, off, e, (k.cell (p := ⟨b, off + j * 3, none⟩) (block_lt c0) (show b ≠ D from ho ⟨b, off, none⟩ e)).trans c0, (k.cell (p := ⟨b, off + j * 3 + 1, none⟩) (block_lt c1) (show b ≠ D from ho ⟨b, off, none⟩ e)).trans c1, (k.cell (p := ⟨b, off + j * 3 + 2, none⟩) (block_lt c2) (show b ≠ D from ho ⟨b, off, none⟩ e)).trans c2⟩
theorem But.grown {D : Nat} {W W' : World} {row : Option Nat} (hg : W.grownBy W' row) (hr : ∀ j, row = some j → j = D) : But D W W' := by
  have b := (Below.refl 0 W).grown hg (Nat.zero_le _) (fun _ _ => Nat.zero_le _)
  exact ⟨b.os, b.tape, b.output, b.size, fun k hk hne => hg.block k hk (fun e => hne (hr k e.symm))⟩
theorem Body.grown {W W' : World} {row : Option Nat} {ao : Option Addr} {cap : Nat} {lo : Option Addr} {ln lc : Nat} {T : List Nat} (h : Body W ao cap (.slice lo ln lc) T) (hg : W.grownBy W' row) (hne : ∀ j, row = some j → Off j ao ∧ Off j lo) : Body W' ao cap (.slice lo ln lc) T := by
  cases hrow : row with
  | none =>
    subst hrow
    exact h.below ((Below.refl _ W).grown hg (Nat.le_refl _) (fun _ e => by cases e))
  | some j =>
    subst hrow
    exact h.but (But.grown hg (fun i e => by cases e; rfl)) (hne j rfl).1 (hne j rfl).2

theorem own_plain {W : World} {base : Nat} {e : TypeId} {size : Nat} {ao : Option Addr} {m c n : Nat} {xs : List Value} (h : W.ownsRow base e size (.slice ao m c) n xs) : Plain ao := by
  rcases h.2 with ⟨hv, _⟩ | ⟨g2, cap, cur, hv, h1, _⟩
  · cases hv; intro a e; cases e
  · cases hv; exact plain_some g2 0
theorem own_slice {W : World} {base : Nat} {e : TypeId} {size : Nat} {v : Value} {n : Nat} {xs : List Value} (h : W.ownsRow base e size v n xs) : ∃ ao c, v = .slice ao n c := by
  rcases h.2 with ⟨hv, h0⟩ | ⟨g2, cap, cur, hv, h1, _⟩
  · exact ⟨none, 0, by rw [hv, h0]⟩
  · exact ⟨_, _, hv⟩

/-- What lay outside of a block lies outside of it still. -/
def KeepOff (w : World) (ao lo ao' lo' : Option Addr) : Prop := ∀ B, B < w.heap.size → Off B ao → Off B lo → Off B ao' ∧ Off B lo'

set_option maxHeartbeats 16000000 in
theorem apply_any (w : World) (D : Nat) (ver ver2 : Int) (ao : Option Addr) (cap : Nat) (lo : Option Addr) (ln lc : Nat) (eo : Option Addr) (en ec : Nat) (T : List Nat) (co : Option Addr) (cc : Nat) (L : List Ch)
    (hD : DocAt w D ver ao T.length cap lo ln lc eo en ec) (h : Body w ao cap (.slice lo ln lc) T) (hpl : Plain ao) (o1 : Off D ao) (o2 : Off D lo) (hK : Know w) (hT : T.length ≤ 1048576)
    (hC : ChsIn w (.slice co L.length cc) L) (hX : ∀ (j : Nat) (x : Ch), L[j]? = some x → x.2.2.2.2.2.length ≤ 1000000) (hL : L.length ≤ 1000000) :
    Calls Tryd.prog 12 #[.pointer (some ⟨D, 0, none⟩), .int .i64 ver2, .slice co L.length cc] w fun e w' => ∃ (r : Int) (NT : List Nat) (Dl : List Ed), e = .returned (.int .i64 r) ∧ ApplyR T L r NT Dl ∧
      ((r ≠ 0 ∧ Below w.heap.size w w') ∨ (r = 0 ∧ ∃ ao2 c2 lo2 ln2 lc2 eo2 ec2, DocAt w' D ver2 ao2 NT.length c2 lo2 ln2 lc2 eo2 Dl.length ec2 ∧ Body w' ao2 c2 (.slice lo2 ln2 lc2) NT ∧ Plain ao2 ∧ Off D ao2 ∧ Off D lo2 ∧ EdsIn w' (.slice eo2 Dl.length ec2) Dl ∧ Plain eo2 ∧ Off D eo2 ∧ But D w w' ∧ ∀ B, B < w.heap.size → Off B ao → Off B lo → Off B ao2 ∧ Off B lo2 ∧ Off B eo2)) := by
  obtain ⟨i0, hi, hz0, hz1, hz2⟩ := info_parts infoEd
  obtain ⟨co', cc', ec', hcl, hch⟩ := hC
  cases ec'
  have HCH := hide hch
  have HX := hide hX
  have H := hide h
  have HPL := hide hpl
  have HO1 := hide o1
  have HO2 := hide o2
  have HK := hide hK
  generalize hLn : L.length = Ln at *
  have HLN := hide hLn
  clear hch hX h hpl o1 o2 hK hLn
  have HD := hide hD
  have c0 : w.cell? ⟨D, 0, none⟩ = some (.int .i64 ver) := BoxC.cell hD 0
  have c1 : w.cell? ⟨D, 1, none⟩ = some (.slice ao T.length cap) := BoxC.cell hD 1
  have c2 : w.cell? ⟨D, 2, none⟩ = some (.slice lo ln lc) := BoxC.cell hD 2
  have c3 : w.cell? ⟨D, 3, none⟩ = some (.slice eo en ec) := BoxC.cell hD 3
  have lD : D < w.heap.size := BoxC.lt hD
  clear hD
  have b7 := hide (BoxC.new w 40 #[.slice ao T.length cap, .slice lo ln lc])
  have k7 := hide (bel w (.cells #[.slice ao T.length cap, .slice lo ln lc] 40))
  go_enter Tryd.func12, Tryd.ntmps12
  go_wp2
  go_loopw [8, 22] (fun sv iv wr => Below w.heap.size w wr ∧ ∃ (k : Nat) (T' : List Nat) (D' : List Ed) (ao' : Option Addr) (c' : Nat) (lo' : Option Addr) (ln' lc' : Nat), k ≤ Ln ∧ iv = .int .i64 (k : Int) ∧ Pre T L k T' D' ∧ BoxC wr w.heap.size 40 #[.slice ao' T'.length c', .slice lo' ln' lc'] ∧ Body wr ao' c' (.slice lo' ln' lc') T' ∧ Plain ao' ∧ KeepOff w ao lo ao' lo' ∧ wr.ownsRow (w.heap.size + 1) 66 3 sv D'.length (ecells D')) (fun _ iv _ => Ln - (RowKit.intOf iv).toNat)
  case atStart => exact ⟨k7.out, 0, T, [], ao, cap, lo, ln, lc, Nat.zero_le _, rfl, ⟨rfl, rfl⟩, b7.out, H.out.below k7.out, HPL.out, fun B _ h1 h2 => ⟨h1, h2⟩, World.ownsRow_nil _ _ _ _⟩
  case round =>
    obtain ⟨hb, k, T', D', ao', c', lo', ln', lc', hk, rfl, hpre, x7, hbd, hpl, hko, hown⟩ := hrel
    clear c0 c1 c2 c3 b7 k7
    have hTl : T'.length ≤ 1048576 := pre_size hT hpre
    have hDl : D'.length = k := pre_length hpre
    have HPRE := hide hpre
    have HBD := hide hbd
    have HPL' := hide hpl
    have HKO := hide hko
    have HO1' := hide (hko D lD HO1.out HO2.out).1
    have HO2' := hide (hko D lD HO1.out HO2.out).2
    have HB := hide hb
    have HOWN := hide hown
    have X7 := hide x7
    have HDL := hide hDl
    have hDb : D'.length ≤ 1000000 := by omega
    clear hpre hbd hpl hko hown hDl
    by_cases hlt : k < Ln
    · obtain ⟨⟨rg, p, u, q, v, X⟩, hx⟩ : ∃ x, L[k]? = some x := ⟨_, List.getElem?_eq_getElem (by rw [HLN.out]; exact hlt)⟩
      obtain ⟨hok, cb, cof, rfl, hca⟩ := HCH.out k _ hx
      obtain ⟨e0, e1, e2, e3, e4, e5⟩ := hca.below hb
      dsimp only at e0 e1 e2 e3 e4 e5
      have hXl : X.length ≤ 1000000 := HX.out k _ hx
      have hXs : ∀ y ∈ X, y < 256 := hok.2.2
      have HXK := hide hx
      have d1 : (k : Int) < (Ln : Int) := by omega
      have d0 : (0 : Int) ≤ (k : Int) := by omega
      have s0 : wr.cell? ⟨w.heap.size, 0, none⟩ = some (.slice ao' T'.length c') := x7.cell 0
      have s1 : wr.cell? ⟨w.heap.size, 1, none⟩ = some (.slice lo' ln' lc') := x7.cell 1
      have l1 : w.heap.size < wr.heap.size := x7.lt
      have l2 : cb < wr.heap.size := block_lt e0
      have HXS := hide hXs
      have HXL := hide hXl
      have hstep := fun (W : World) (hbW : Below wr.heap.size wr W) => changed_any W ao' c' lo' ln' lc' T' rg p u q v X (HBD.out.below hbW) HPL'.out (HK.out.below (bafter HB.out hbW (by have := HB.out.size; omega))) hTl HXL.out HXS.out
      unfold chV at hstep
      have HCALL := hide hstep
      clear hstep hca hok hx hXl hXs x7
      generalize strOf X = sx at *
      have k1 := bel wr (.cells #[.bool rg, .int .i64 p, .int .i64 u, .int .i64 q, .int .i64 v, .string sx] 71)
      have K1 := hide k1
      have Y7 := hide (X7.out.below k1)
      have OW1 := hide (ownsRow_keep HOWN.out k1)
      have HB1 := hide (bafter HB.out k1 (by have := HB.out.size; omega))
      clear k1 hb
      go_wp2_with fail
      refine (HCALL.out _ K1.out).mono ?_
      rintro e w2 ⟨r, NT, ⟨da, db, dz⟩, ao2, n2, cp2, lo2, ln2, lc2, rfl, hst, hgood, hb2⟩
      dsimp only
      have HST := hide hst
      have Z7 := hide (Y7.out.below hb2)
      have OW2 := hide (ownsRow_keep OW1.out hb2)
      have HB2 := hide (bafter HB1.out hb2 (by have := HB1.out.size; omega))
      have hsz1 : w.heap.size + 1 ≤ (wr.alloc (.cells #[.bool rg, .int .i64 p, .int .i64 u, .int .i64 q, .int .i64 v, .string sx] 71)).heap.size := by simp; omega
      have HGOOD : Hid (r = 0 → n2 = NT.length ∧ Body w2 ao2 cp2 (.slice lo2 ln2 lc2) NT ∧ Far (wr.heap.size + 1) ao2 ∧ Far (wr.heap.size + 1) lo2 ∧ Plain ao2) := fun e => by
        obtain ⟨g1, g2, g3, g4, g5⟩ := hgood e
        simp only [World.size_alloc] at g3 g4
        exact ⟨g1, g2, g3, g4, g5⟩
      clear hst hgood hb2 HB1 Y7 OW1 HCALL e0 e1 e2 e3 e4 e5 s0 s1 hsz1 K1
      obtain ⟨W3, hW3⟩ : ∃ W3, (w2.alloc (.cells #[.slice ao2 n2 cp2, .slice lo2 ln2 lc2] 40)).alloc (.cells #[.int .i64 da, .int .i64 db, .int .i64 dz] 66) = W3 := ⟨_, rfl⟩
      have k3 : Below w2.heap.size w2 W3 := by rw [← hW3]; exact (bel w2 _).alloc (by simp) _
      have z11 : BoxC W3 w2.heap.size 40 #[.slice ao2 n2 cp2, .slice lo2 ln2 lc2] := by rw [← hW3]; exact (BoxC.new w2 _ _).alloc _
      have z12 : BoxC W3 (w2.heap.size + 1) 66 #[.int .i64 da, .int .i64 db, .int .i64 dz] := by
        have := BoxC.new (w2.alloc (.cells #[.slice ao2 n2 cp2, .slice lo2 ln2 lc2] 40)) 66 #[.int .i64 da, .int .i64 db, .int .i64 dz]
        rw [← hW3]; simpa using this
      have HW3 := hide hW3
      have V7 := hide (Z7.out.below k3)
      have OW3 := hide (ownsRow_keep OW2.out k3)
      have HB3 := hide (bafter HB2.out k3 (by have := HB2.out.size; omega))
      have HK3 := hide k3
      have Z11 := hide z11
      have Z12 := hide z12
      have l3 : w.heap.size < w2.heap.size := Z7.out.lt
      clear hW3 k3 z11 z12
      by_cases hr : r = 0
      · subst hr
        obtain ⟨rfl, g2, g3, g4, g5⟩ := HGOOD.out rfl
        have HG2 := hide (g2.below HK3.out)
        have HG3 := hide g3
        have HG4 := hide g4
        have HG5 := hide g5
        clear g2 g3 g4 g5 HGOOD HK3 Z7 OW2
        go_upto_region 11 with fail
        rw [HW3.out]
        clear HW3
        have s0 : W3.cell? ⟨w2.heap.size, 0, none⟩ = some (.slice ao2 NT.length cp2) := Z11.out.cell 0
        have s1 : W3.cell? ⟨w2.heap.size, 1, none⟩ = some (.slice lo2 ln2 lc2) := Z11.out.cell 1
        have r0 : W3.cell? ⟨w.heap.size, 0, none⟩ = some (.slice ao' T'.length c') := V7.out.cell 0
        have r1 : W3.cell? ⟨w.heap.size, 1, none⟩ = some (.slice lo' ln' lc') := V7.out.cell 1
        have r2 := V7.out.frozen 0
        have r3 := V7.out.frozen 1
        have l4 : w.heap.size < W3.heap.size := V7.out.lt
        go_upto_region 12 with fail
        obtain ⟨W4, hW4⟩ : ∃ W4, (W3.setCell ⟨w.heap.size, 0, none⟩ (.slice ao2 NT.length cp2)).setCell ⟨w.heap.size, 1, none⟩ (.slice lo2 ln2 lc2) = W4 := ⟨_, rfl⟩
        have ne1 : w2.heap.size + 1 ≠ w.heap.size := by omega
        have U7 : Hid (BoxC W4 w.heap.size 40 #[.slice ao2 NT.length cp2, .slice lo2 ln2 lc2]) := by rw [← hW4]; exact (V7.out.set 0 _).set 1 _
        have v12 : BoxC W4 (w2.heap.size + 1) 66 #[.int .i64 da, .int .i64 db, .int .i64 dz] := by rw [← hW4]; exact (Z12.out.other ne1 0 _).other ne1 1 _
        have HBD4 : Hid (Body W4 ao2 cp2 (.slice lo2 ln2 lc2) NT) := by
          rw [← hW4]
          exact (HG2.out.other HG3.out HG4.out (by omega) 0 _).other HG3.out HG4.out (by omega) 1 _
        have OW4 : Hid (W4.ownsRow (w.heap.size + 1) 66 3 u8 D'.length (ecells D')) := by
          rw [← hW4]
          exact ownsRow_other (ownsRow_other OW3.out (Nat.lt_succ_self _) _ _) (Nat.lt_succ_self _) _ _
        have HB4 : Hid (Below w.heap.size w W4) := by
          rw [← hW4]
          exact (HB3.out.setCell (p := ⟨w.heap.size, 0, none⟩) (Nat.le_refl _) _).setCell (p := ⟨w.heap.size, 1, none⟩) (Nat.le_refl _) _
        rw [hW4]
        have l5 : w.heap.size < W4.heap.size := U7.out.lt
        have t0 : W4.cell? ⟨w2.heap.size + 1, 0, none⟩ = some (.int .i64 da) := v12.cell 0
        have t1 : W4.cell? ⟨w2.heap.size + 1, 1, none⟩ = some (.int .i64 db) := v12.cell 1
        have t2 : W4.cell? ⟨w2.heap.size + 1, 2, none⟩ = some (.int .i64 dz) := v12.cell 2
        have HONE : Hid (∀ x ∈ ([.int .i64 da, .int .i64 db, .int .i64 dz] : List Value), x.oneCell' = true) := fun x hx => by
          simp at hx
          rcases hx with rfl | rfl | rfl <;> rfl
        have k5 := bel W4 (.cells #[.int .i64 da, .int .i64 db, .int .i64 dz] 66)
        have OW5 := hide (ownsRow_keep OW4.out k5)
        have K5 := hide k5
        have HBC : Hid (∀ j, u8.ownBlock = some j → w.heap.size + 1 ≤ j ∧ j < W4.heap.size) := fun j hj => OW4.out.lt j hj
        clear hW4 v12 V7 Z12 Z11 HG2 HB3 s0 s1 r0 r1 r2 r3 k5 OW3
        go_wp2_with (at_builtin; go_must (refine wpList_append_own _ rfl (.tmp 37) (.tmp 39) 41 rfl (w.heap.size + 1) 66 i0 (.agg #[.int .i64 0, .int .i64 0, .int .i64 0]) 3 24 Tryd.underlying41 hi hz0 hz1 hz2 rfl (by decide) _ D'.length (ecells D') rfl OW5.out ⟨W4.heap.size, 0, none⟩ 1 1 [.int .i64 da, .int .i64 db, .int .i64 dz] rfl rfl (by exact World.news_of_block (World.alloc_heap_new _ _)) HONE.out (by unfold maxLen; omega) (by omega) (by simp; omega) ?_; intro v' w5 hown' hgrow hnil))
        have hb5 : Below w.heap.size w w5 := (HB4.out.alloc (Nat.le_of_lt l5) (.cells #[.int .i64 da, .int .i64 db, .int .i64 dz] 66)).grown hgrow (by simp; omega) (fun j hj => by have := (HOWN.out.lt j hj).1; omega)
        have q7 : BoxC w5 w.heap.size 40 #[.slice ao2 NT.length cp2, .slice lo2 ln2 lc2] := (U7.out.alloc _).kept hgrow (fun e => by have := (HOWN.out.lt _ e.symm).1; omega)
        have hbd5 : Body w5 ao2 cp2 (.slice lo2 ln2 lc2) NT := (HBD4.out.below K5.out).grown hgrow (fun j hj => by have := (HOWN.out.lt j hj).2; exact ⟨HG3.out.off (by omega), HG4.out.off (by omega)⟩)
        have hown5 : w5.ownsRow (w.heap.size + 1) 66 3 v' (D' ++ [(da, db, dz)]).length (ecells (D' ++ [(da, db, dz)])) := by
          rw [ecells_snoc, List.length_append]
          exact hown'
        have Q7 := hide q7
        have HBD5 := hide hbd5
        have OW6 := hide hown5
        have HB5 := hide hb5
        clear hb5 q7 hbd5 hown5 hown' hgrow hnil U7 HBD4 HB4 OW4 OW5 K5 t0 t1 t2 HONE HBC
        go_wp2
        go_roundw
        case rel => exact ⟨HB5.out, k + 1, NT, D' ++ [(da, db, dz)], ao2, cp2, lo2, ln2, lc2, by omega, by go_num, ⟨T', D', _, _, HPRE.out, HXK.out, HST.out, rfl⟩, Q7.out, HBD5.out, HG5.out, fun B hB _ _ => ⟨HG3.out.off (by omega), HG4.out.off (by omega)⟩, OW6.out⟩
        case measure => simp [RowKit.intOf]; omega
      · have HR := hide hr
        clear HGOOD HK3 Z7 OW2 V7 OW3 Z11 Z12
        go_wp2
        rw [HW3.out]
        go_ret
        exact ⟨r, [], [], rfl, .inr ⟨HR.out, k, T', D', _, NT, (da, db, dz), HPRE.out, HXK.out, HST.out⟩, .inl ⟨HR.out, HB3.out⟩⟩
    · obtain rfl : k = Ln := by omega
      have d1 : ¬ (k : Int) < (k : Int) := by omega
      have hdr : BoxC wr D 43 #[.int .i64 ver, .slice ao T.length cap, .slice lo ln lc, .slice eo en ec] := BoxC.below HD.out hb
      have r0 : wr.cell? ⟨D, 0, none⟩ = some (.int .i64 ver) := hdr.cell 0
      have r1 : wr.cell? ⟨D, 1, none⟩ = some (.slice ao T.length cap) := hdr.cell 1
      have r2 : wr.cell? ⟨D, 2, none⟩ = some (.slice lo ln lc) := hdr.cell 2
      have r3 : wr.cell? ⟨D, 3, none⟩ = some (.slice eo en ec) := hdr.cell 3
      have f0 := hdr.frozen 0
      have f1 := hdr.frozen 1
      have f2 := hdr.frozen 2
      have f3 := hdr.frozen 3
      have l1 := hdr.lt
      have s0 : wr.cell? ⟨w.heap.size, 0, none⟩ = some (.slice ao' T'.length c') := x7.cell 0
      have s1 : wr.cell? ⟨w.heap.size, 1, none⟩ = some (.slice lo' ln' lc') := x7.cell 1
      have HDR := hide hdr
      obtain ⟨eo2, ec2, hsv⟩ := own_slice HOWN.out
      have HSV := hide hsv
      clear hdr hb x7 X7
      subst hsv
      go_wp2
      go_ret
      have kB : But D w ((((wr.setCell ⟨D, 0, none⟩ (.int .i64 ver2)).setCell ⟨D, 1, none⟩ (.slice ao' T'.length c')).setCell ⟨D, 2, none⟩ (.slice lo' ln' lc')).setCell ⟨D, 3, none⟩ (.slice eo2 D'.length ec2)) := ((((But.of HB.out).set 0 _).set 1 _).set 2 _).set 3 _
      have kR : But D wr ((((wr.setCell ⟨D, 0, none⟩ (.int .i64 ver2)).setCell ⟨D, 1, none⟩ (.slice ao' T'.length c')).setCell ⟨D, 2, none⟩ (.slice lo' ln' lc')).setCell ⟨D, 3, none⟩ (.slice eo2 D'.length ec2)) := ((((But.of (Below.refl _ wr)).set 0 _).set 1 _).set 2 _).set 3 _
      have oE : Off D eo2 := (own_far HOWN.out).off (by omega)
      first
        | exact ⟨0, T', D', rfl, .inl ⟨rfl, by rw [HLN.out]; exact HPRE.out⟩, .inr ⟨rfl, ao', c', lo', ln', lc', eo2, ec2, (((HDR.out.set 0 _).set 1 _).set 2 _).set 3 _, HBD.out.but kR HO1'.out HO2'.out, HPL'.out, HO1'.out, HO2'.out, (edsIn_of HOWN.out).but kR oE, own_plain HOWN.out, oE, kB, fun B hB h1 h2 => ⟨(HKO.out B hB h1 h2).1, (HKO.out B hB h1 h2).2, (own_far HOWN.out).off (by omega)⟩⟩⟩
        | exact ⟨0, rfl, T', D', .inl ⟨rfl, by rw [HLN.out]; exact HPRE.out⟩, .inr ⟨rfl, ao', c', lo', ln', lc', eo2, ec2, (((HDR.out.set 0 _).set 1 _).set 2 _).set 3 _, HBD.out.but kR HO1'.out HO2'.out, HPL'.out, HO1'.out, HO2'.out, (edsIn_of HOWN.out).but kR oE, own_plain HOWN.out, oE, kB, fun B hB h1 h2 => ⟨(HKO.out B hB h1 h2).1, (HKO.out B hB h1 h2).2, (own_far HOWN.out).off (by omega)⟩⟩⟩

end Go.Proofs.YthhpfdjcggfhaaaDoor
