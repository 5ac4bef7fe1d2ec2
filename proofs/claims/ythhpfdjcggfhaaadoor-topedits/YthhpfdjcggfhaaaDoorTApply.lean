/- A document behind one change. -/
import Derived.Test.YthhpfdjcggfhaaaDoorTChanged
import Derived.Test.YthhpfdjcggfhaaaDoorTDoc
import Derived.Test.YthhpfdjcggfhaaaDoorTEdits
namespace Go.Proofs.YthhpfdjcggfhaaaDoor
set_option linter.unusedVariables false
set_option linter.unusedSimpArgs false
set_option maxRecDepth 100000
open Go Go.RowKit Go.Shelf Go.Lib

theorem EdsIn.other {W : World} {b off n c : Nat} {L : List Ed} (h : EdsIn W (.slice (some ⟨b, off, none⟩) n c) L) {B : Nat} (hne : b ≠ B) (i : Nat) (x : Value) : EdsIn (W.setCell ⟨B, i, none⟩ x) (.slice (some ⟨b, off, none⟩) n c) L := by
  obtain ⟨ao, cap, e, h2, h3⟩ := h
  cases e
  refine ⟨_, _, rfl, h2, fun j y hj => ?_⟩
  obtain ⟨b', off', e, c0, c1, c2⟩ := h3 j y hj
  cases e
  exact ⟨b, off, rfl, (cell_other hne).trans c0, (cell_other hne).trans c1, (cell_other hne).trans c2⟩

set_option maxHeartbeats 8000000 in
theorem apply_calls (w : World) (D : Nat) (ver ver2 : Int) (bb oo cap : Nat) (lo : Option Addr) (ln lc : Nat) (eo : Option Addr) (en ec : Nat) (T : List Nat) (cb : Nat) (p u q v : Int) (X : List Nat) (N F G : Nat)
    (hD : DocAt w D ver (some ⟨bb, oo, none⟩) T.length cap lo ln lc eo en ec) (hC : BoxC w cb 71 #[.bool true, .int .i64 p, .int .i64 u, .int .i64 q, .int .i64 v, .string (strOf X)])
    (h : Body w (some ⟨bb, oo, none⟩) cap (.slice lo ln lc) T) (hK : Know w) (hT : T.length ≤ 1000000) (hX : X.length ≤ 1000)
    (hx : ∀ x ∈ X, x < 256) (n1 : ∀ k, k < N → posL X k < X.length) (n2 : posL X N = X.length) (n3 : ∀ k, k < N → runeAt X (posL X k) ≠ -1)
    (hF : ∀ r, OffR T (linesL T) p u r → r = (F : Int)) (hG : ∀ r, OffR T (linesL T) q v r → r = (G : Int)) (hFG : F ≤ G) (hGT : G < T.length) :
    Calls Tryd.prog 12 #[.pointer (some ⟨D, 0, none⟩), .int .i64 ver2, .slice (some ⟨cb, 0, none⟩) 1 1] w fun e w' => ∃ ao c lo2 ln2 lc2 eb ec, e = .returned (.int .i64 0) ∧ DocAt w' D ver2 ao (T.take F ++ X ++ T.drop G).length c lo2 ln2 lc2 (some ⟨eb, 0, none⟩) 1 ec ∧ Body w' ao c (.slice lo2 ln2 lc2) (T.take F ++ X ++ T.drop G) ∧ EdsIn w' (.slice (some ⟨eb, 0, none⟩) 1 ec) [((F : Int), (G : Int), (X.length : Int))] ∧ Below D w w' := by
  obtain ⟨i0, hi, hz0, hz1, hz2⟩ := info_parts infoEd
  have hch := fun (W : World) (hb : Below w.heap.size w W) => changed_calls W bb oo cap lo ln lc T p u q v X N F G (h.below hb) (hK.below hb) hT hX hx n1 n2 n3 hF hG hFG hGT
  unfold chV at hch
  have HCH := hide hch
  generalize hNT : T.take F ++ X ++ T.drop G = NT at *
  generalize hsx : strOf X = sx at *
  clear hch h hK hx n1 n2 n3 hF hG hNT hsx
  have HD := hide hD
  have c0 : w.cell? ⟨D, 0, none⟩ = some (.int .i64 ver) := BoxC.cell hD 0
  have c1 : w.cell? ⟨D, 1, none⟩ = some (.slice (some ⟨bb, oo, none⟩) T.length cap) := BoxC.cell hD 1
  have c2 : w.cell? ⟨D, 2, none⟩ = some (.slice lo ln lc) := BoxC.cell hD 2
  have c3 : w.cell? ⟨D, 3, none⟩ = some (.slice eo en ec) := BoxC.cell hD 3
  have lD : D < w.heap.size := BoxC.lt hD
  have HC := hide hC
  clear hD hC
  have b7 := hide (BoxC.new w 40 #[.slice (some ⟨bb, oo, none⟩) T.length cap, .slice lo ln lc])
  have k7 := hide (bel w (.cells #[.slice (some ⟨bb, oo, none⟩) T.length cap, .slice lo ln lc] 40))
  go_enter Tryd.func12, Tryd.ntmps12
  go_wp2
  go_loopw [8, 22] (fun sv iv wr => Below w.heap.size w wr ∧ ((iv = .int .i64 0 ∧ sv = .slice none 0 0 ∧ BoxC wr w.heap.size 40 #[.slice (some ⟨bb, oo, none⟩) T.length cap, .slice lo ln lc]) ∨ (iv = .int .i64 1 ∧ ∃ ao c lo2 ln2 lc2, BoxC wr w.heap.size 40 #[.slice ao NT.length c, .slice lo2 ln2 lc2] ∧ Body wr ao c (.slice lo2 ln2 lc2) NT ∧ Far (w.heap.size + 1) ao ∧ Far (w.heap.size + 1) lo2 ∧ ∃ eb ec, sv = .slice (some ⟨eb, 0, none⟩) 1 ec ∧ EdsIn wr (.slice (some ⟨eb, 0, none⟩) 1 ec) [((F : Int), (G : Int), (X.length : Int))] ∧ w.heap.size < eb))) (fun _ iv _ => 1 - (RowKit.intOf iv).toNat)
  case atStart => exact ⟨k7.out, .inl ⟨rfl, rfl, b7.out⟩⟩
  case round =>
    obtain ⟨hb, ⟨rfl, rfl, x7⟩ | ⟨rfl, ao, c, lo2, ln2, lc2, x7, hbd, hf1, hf2, eb, ec2, rfl, hed, hfe⟩⟩ := hrel
    · have hCr := HC.out.below hb
      have e0 : wr.cell? ⟨cb, 0, none⟩ = some (.bool true) := hCr.cell 0
      have e1 : wr.cell? ⟨cb, 1, none⟩ = some (.int .i64 p) := hCr.cell 1
      have e2 : wr.cell? ⟨cb, 2, none⟩ = some (.int .i64 u) := hCr.cell 2
      have e3 : wr.cell? ⟨cb, 3, none⟩ = some (.int .i64 q) := hCr.cell 3
      have e4 : wr.cell? ⟨cb, 4, none⟩ = some (.int .i64 v) := hCr.cell 4
      have e5 : wr.cell? ⟨cb, 5, none⟩ = some (.string sx) := hCr.cell 5
      have s0 : wr.cell? ⟨w.heap.size, 0, none⟩ = some (.slice (some ⟨bb, oo, none⟩) T.length cap) := x7.cell 0
      have s1 : wr.cell? ⟨w.heap.size, 1, none⟩ = some (.slice lo ln lc) := x7.cell 1
      have l1 : w.heap.size < wr.heap.size := x7.lt
      have l2 : cb < wr.heap.size := hCr.lt
      have X7 := hide (x7.alloc (.cells #[.bool true, .int .i64 p, .int .i64 u, .int .i64 q, .int .i64 v, .string sx] 71))
      have HB := hide (hb.alloc hb.size (.cells #[.bool true, .int .i64 p, .int .i64 u, .int .i64 q, .int .i64 v, .string sx] 71))
      clear hb hCr x7 c0 c1 c2 c3 b7 k7
      go_wp2_with fail
      refine (HCH.out _ HB.out).mono ?_
      rintro e w2 ⟨ao, c, lo2, ln2, lc2, rfl, hbd, hf1, hf2, hb2⟩
      have Y7 := hide (X7.out.below hb2)
      have HB2 := hide (bafter HB.out hb2 (by have := HB.out.size; omega))
      have HBD := hide hbd
      have HF1 := hide (hf1.mono (show w.heap.size + 1 ≤ (wr.alloc (.cells #[.bool true, .int .i64 p, .int .i64 u, .int .i64 q, .int .i64 v, .string sx] 71)).heap.size by simp; omega))
      have HF2 := hide (hf2.mono (show w.heap.size + 1 ≤ (wr.alloc (.cells #[.bool true, .int .i64 p, .int .i64 u, .int .i64 q, .int .i64 v, .string sx] 71)).heap.size by simp; omega))
      clear hbd hf1 hf2 hb2 HB X7 e0 e1 e2 e3 e4 e5 s0 s1
      go_upto_region 11 with fail
      obtain ⟨W3, hW3⟩ : ∃ W3, (w2.alloc (.cells #[.slice ao NT.length c, .slice lo2 ln2 lc2] 40)).alloc (.cells #[.int .i64 (F : Int), .int .i64 (G : Int), .int .i64 (X.length : Int)] 66) = W3 := ⟨_, rfl⟩
      have k3 : Below w2.heap.size w2 W3 := by rw [← hW3]; exact (bel w2 _).alloc (by simp) _
      have Z7 := hide (Y7.out.below k3)
      have z11 : BoxC W3 w2.heap.size 40 #[.slice ao NT.length c, .slice lo2 ln2 lc2] := by rw [← hW3]; exact (BoxC.new w2 _ _).alloc _
      have z12 : BoxC W3 (w2.heap.size + 1) 66 #[.int .i64 (F : Int), .int .i64 (G : Int), .int .i64 (X.length : Int)] := by
        have := BoxC.new (w2.alloc (.cells #[.slice ao NT.length c, .slice lo2 ln2 lc2] 40)) 66 #[.int .i64 (F : Int), .int .i64 (G : Int), .int .i64 (X.length : Int)]
        rw [← hW3]; simpa using this
      have Z12 := hide z12
      have HBD3 := hide (HBD.out.below k3)
      have HB3 := hide (bafter HB2.out k3 (by have := HB2.out.size; omega))
      have l3 : w.heap.size < w2.heap.size := Y7.out.lt
      rw [hW3]
      have s0 : W3.cell? ⟨w2.heap.size, 0, none⟩ = some (.slice ao NT.length c) := z11.cell 0
      have s1 : W3.cell? ⟨w2.heap.size, 1, none⟩ = some (.slice lo2 ln2 lc2) := z11.cell 1
      have r0 : W3.cell? ⟨w.heap.size, 0, none⟩ = some (.slice (some ⟨bb, oo, none⟩) T.length cap) := Z7.out.cell 0
      have r1 : W3.cell? ⟨w.heap.size, 1, none⟩ = some (.slice lo ln lc) := Z7.out.cell 1
      have r2 := Z7.out.frozen 0
      have r3 := Z7.out.frozen 1
      have l4 : w.heap.size < W3.heap.size := Z7.out.lt
      clear hW3 k3 z11 z12 HBD HB2 Y7
      go_upto_region 12 with fail
      obtain ⟨W4, hW4⟩ : ∃ W4, (W3.setCell ⟨w.heap.size, 0, none⟩ (.slice ao NT.length c)).setCell ⟨w.heap.size, 1, none⟩ (.slice lo2 ln2 lc2) = W4 := ⟨_, rfl⟩
      have ne1 : w2.heap.size + 1 ≠ w.heap.size := by omega
      have V7 : Hid (BoxC W4 w.heap.size 40 #[.slice ao NT.length c, .slice lo2 ln2 lc2]) := by rw [← hW4]; exact (Z7.out.set 0 _).set 1 _
      have v12 : BoxC W4 (w2.heap.size + 1) 66 #[.int .i64 (F : Int), .int .i64 (G : Int), .int .i64 (X.length : Int)] := by rw [← hW4]; exact (Z12.out.other ne1 0 _).other ne1 1 _
      have HBD4 : Hid (Body W4 ao c (.slice lo2 ln2 lc2) NT) := by
        rw [← hW4]
        exact (HBD3.out.other HF1.out HF2.out (Nat.lt_succ_self _) 0 _).other HF1.out HF2.out (Nat.lt_succ_self _) 1 _
      have HB4 : Hid (Below w.heap.size w W4) := by
        rw [← hW4]
        exact (HB3.out.setCell (p := ⟨w.heap.size, 0, none⟩) (Nat.le_refl _) _).setCell (p := ⟨w.heap.size, 1, none⟩) (Nat.le_refl _) _
      rw [hW4]
      have l5 : w.heap.size < W4.heap.size := V7.out.lt
      have t0 : W4.cell? ⟨w2.heap.size + 1, 0, none⟩ = some (.int .i64 (F : Int)) := v12.cell 0
      have t1 : W4.cell? ⟨w2.heap.size + 1, 1, none⟩ = some (.int .i64 (G : Int)) := v12.cell 1
      have t2 : W4.cell? ⟨w2.heap.size + 1, 2, none⟩ = some (.int .i64 (X.length : Int)) := v12.cell 2
      have HONE : Hid (∀ x ∈ ([.int .i64 (F : Int), .int .i64 (G : Int), .int .i64 (X.length : Int)] : List Value), x.oneCell' = true) := fun x hx => by
        simp at hx
        rcases hx with rfl | rfl | rfl <;> rfl
      clear hW4 v12 Z7 Z12 HBD3 HB3 s0 s1 r0 r1 r2 r3
      go_wp2_with (at_builtin; go_must (refine wpList_append_own _ rfl (.tmp 37) (.tmp 39) 41 rfl (w.heap.size + 1) 66 i0 (.agg #[.int .i64 0, .int .i64 0, .int .i64 0]) 3 24 Tryd.underlying41 hi hz0 hz1 hz2 rfl (by decide) _ 0 (ecells []) rfl (by exact World.ownsRow_nil _ _ _ _) ⟨W4.heap.size, 0, none⟩ 1 1 [.int .i64 (F : Int), .int .i64 (G : Int), .int .i64 (X.length : Int)] rfl rfl (by exact World.news_of_block (World.alloc_heap_new _ _)) HONE.out (by unfold maxLen; omega) (by omega) (by simp; omega) ?_; intro v' w5 hown' hgrow hnil))
      have k5 : Below W4.heap.size W4 w5 := (bel W4 (.cells #[.int .i64 (F : Int), .int .i64 (G : Int), .int .i64 (X.length : Int)] 66)).grown hgrow (by simp) (fun j hj => by cases hj)
      obtain ⟨eb, ec2, rfl, hfe⟩ : ∃ eb ec2, v' = Value.slice (some ⟨eb, 0, none⟩) 1 ec2 ∧ w.heap.size < eb := by
        rcases hown'.2 with ⟨_, e⟩ | ⟨g, cp, cur, e, hg, _⟩
        · omega
        · exact ⟨g, cp, e, hg⟩
      have HED : Hid (EdsIn w5 (.slice (some ⟨eb, 0, none⟩) 1 ec2) [((F : Int), (G : Int), (X.length : Int))]) := edsIn_of (n₀ := w.heap.size + 1) (e := 66) hown'
      have HFE := hide hfe
      have U7 := hide (V7.out.below k5)
      have HBD5 := hide (HBD4.out.below k5)
      have HB5 := hide (bafter HB4.out k5 (by have := HB4.out.size; omega))
      clear k5 hown' hgrow hnil hfe V7 HBD4 HB4 t0 t1 t2 HONE
      go_wp2
      go_roundw
      case rel => exact ⟨HB5.out, .inr ⟨rfl, ao, c, lo2, ln2, lc2, U7.out, HBD5.out, HF1.out, HF2.out, eb, ec2, rfl, HED.out, HFE.out⟩⟩
      case measure => simp [RowKit.intOf]
    · have dD := HD.out
      have hdr : BoxC wr D 43 #[.int .i64 ver, .slice (some ⟨bb, oo, none⟩) T.length cap, .slice lo ln lc, .slice eo en ec] := BoxC.below dD hb
      have r0 : wr.cell? ⟨D, 0, none⟩ = some (.int .i64 ver) := hdr.cell 0
      have r1 : wr.cell? ⟨D, 1, none⟩ = some (.slice (some ⟨bb, oo, none⟩) T.length cap) := hdr.cell 1
      have r2 : wr.cell? ⟨D, 2, none⟩ = some (.slice lo ln lc) := hdr.cell 2
      have r3 : wr.cell? ⟨D, 3, none⟩ = some (.slice eo en ec) := hdr.cell 3
      have f0 := hdr.frozen 0
      have f1 := hdr.frozen 1
      have f2 := hdr.frozen 2
      have f3 := hdr.frozen 3
      have l1 := hdr.lt
      have s0 : wr.cell? ⟨w.heap.size, 0, none⟩ = some (.slice ao NT.length c) := x7.cell 0
      have s1 : wr.cell? ⟨w.heap.size, 1, none⟩ = some (.slice lo2 ln2 lc2) := x7.cell 1
      have HDR := hide hdr
      have HBD := hide hbd
      have HF1 := hide hf1
      have HF2 := hide hf2
      have HED := hide hed
      have HFE := hide hfe
      have HB := hide (hb.mono (Nat.le_of_lt lD))
      clear hdr hbd hf1 hf2 hed hfe hb dD x7 c0 c1 c2 c3 b7 k7
      go_wp2
      go_ret
      refine ⟨ao, c, lo2, ln2, lc2, eb, ec2, rfl, (((HDR.out.set 0 _).set 1 _).set 2 _).set 3 _, ?_, ?_, ?_⟩
      · exact (((HBD.out.other HF1.out HF2.out (by omega) 0 _).other HF1.out HF2.out (by omega) 1 _).other HF1.out HF2.out (by omega) 2 _).other HF1.out HF2.out (by omega) 3 _
      · have ne : eb ≠ D := by have := HFE.out; omega
        exact (((HED.out.other ne 0 _).other ne 1 _).other ne 2 _).other ne 3 _
      · exact (((HB.out.setCell (p := ⟨D, 0, none⟩) (Nat.le_refl _) _).setCell (p := ⟨D, 1, none⟩) (Nat.le_refl _) _).setCell (p := ⟨D, 2, none⟩) (Nat.le_refl _) _).setCell (p := ⟨D, 3, none⟩) (Nat.le_refl _) _

end Go.Proofs.YthhpfdjcggfhaaaDoor
