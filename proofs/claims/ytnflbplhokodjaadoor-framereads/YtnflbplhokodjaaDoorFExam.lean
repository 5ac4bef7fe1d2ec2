/- Frame: the example. -/
import Derived.Test.YtnflbplhokodjaaDoorFFeed
namespace Go.Proofs.YtnflbplhokodjaaDoor
set_option linter.unusedVariables false
set_option linter.unusedSimpArgs false
set_option maxRecDepth 100000
open Go Go.RowKit Go.Shelf Go.Lib

def exA : List Nat := [99, 111, 110, 116, 101, 110, 116]
def exB : List Nat := [45, 108, 101, 110, 103, 116, 104, 58, 32, 50, 13, 10, 13, 10, 97]
def exC : List Nat := [98, 120, 13, 10]
theorem ex1 : (feedL (.head hd0) exA).2 = [] := by decide
theorem ex2 : (feedL (feedL (.head hd0) exA).1 exB).2 = [] := by decide
theorem ex3 : (feedL (feedL (feedL (.head hd0) exA).1 exB).1 exC).2 = [(1, [97, 98]), (3, [])] := by decide
theorem ex4 : (feedL (feedL (feedL (.head hd0) exA).1 exB).1 exC).1.over = true := by decide

def lit (T : List Nat) : Array Value := (T.map (fun x : Nat => Value.int .u8 (x : Int))).toArray
/-- A constant's bytes, as they are handed on. -/
theorem lit_conv (w : World) (T : List Nat) (n : Nat) (hn : T.length = n) : (convert 25 25 (.slice (some ⟨w.heap.size, 0, none⟩) n n)).run Tryd.prog (w.alloc (.cells (lit T) 5)) = .ok (.slice (some ⟨w.heap.size, 0, none⟩) n n) (w.alloc (.cells (lit T) 5 (n, n + 1))) := by
  have h := run_convert_bytes_const (P := Tryd.prog) w 25 5 (lit T) n n Tryd.underlying25 Tryd.underlying5
  have hl : (lit T).size = n := by rw [← hn]; simp [lit]
  rw [hl] at h
  exact h
theorem lit_byts (w : World) (T : List Nat) (hT : ∀ x ∈ T, x < 256) (fz : Nat × Nat) : Byts (w.alloc (.cells (lit T) 5 fz)) (.slice (some ⟨w.heap.size, 0, none⟩) T.length T.length) T := byts_lit w T hT fz
/-- Feed of a constant. -/
theorem feedLit (w : World) (n₀ R : Nat) (s : St) (row : Option Nat) (T : List Nat) (fz : Nat × Nat) (hT : ∀ x ∈ T, x < 256) (hn2 : T.length ≤ 1000) (hr : Rdr n₀ w R s row) (hnw : n₀ ≤ w.heap.size) (hR : n₀ ≤ R) (hK : Know w) (hG : Glob n₀) :
    Calls Tryd.prog 12 #[.pointer (some ⟨R, 0, none⟩), .slice (some ⟨w.heap.size, 0, none⟩) T.length T.length] (w.alloc (.cells (lit T) 5 fz)) fun e w' => ∃ gv, e = .returned gv ∧ FeedR n₀ (w.alloc (.cells (lit T) 5 fz)) R row s T gv w' := by
  have hb := bel w (.cells (lit T) 5 fz)
  obtain ⟨cs, hbx⟩ := hr.box
  have := hbx.lt
  refine feed_calls _ n₀ R s row _ _ T (hr.below hb) (by omega) (lit_byts w T hT fz) (Nat.le_refl _) ?_ (by have := hb.size; omega) hR (hK.below hb) hG
  intro _ a e
  cases e
  exact ⟨by show w.heap.size ≠ R; omega, fun q => by have := (hr.row _ q).2.1; exact absurd this (Nat.lt_irrefl _)⟩
/-- What Feed leaves is a reader, and all below it is as it was. -/
theorem FeedR.next {n₀ : Nat} {w w' : World} {R : Nat} {row : Option Nat} {s : St} {T : List Nat} {gv : Value} (h : FeedR n₀ w R row s T gv w') (hR : n₀ ≤ R) (hr : ∀ k, row = some k → n₀ ≤ k) (hn : n₀ ≤ w.heap.size) : ∃ row', Rdr n₀ w' R (feedL s T).1 row' ∧ Below n₀ w w' := by
  obtain ⟨L, row', h1, h2, h3, h4, h5, h6⟩ := h
  exact ⟨row', h3, h5.below hR hr hn⟩
theorem FeedR.none {n₀ : Nat} {w w' : World} {R : Nat} {row : Option Nat} {s : St} {T : List Nat} {gv : Value} (h : FeedR n₀ w R row s T gv w') (he : (feedL s T).2 = []) : ∃ a c, gv = .slice a 0 c := by
  obtain ⟨L, row', h1, h2, h3, h4, h5, h6⟩ := h
  rw [he] at h2
  obtain ⟨a, c, e⟩ := h1.slice
  have hl := h2.len
  exact ⟨a, c, by rw [e, hl]; rfl⟩
/-- The messages, one by one, in memory. -/
theorem OwnM.cells {n₁ : Nat} {w : World} {v : Value} {L : List (Nat × Value)} (q : OwnM n₁ w v L) {j : Nat} {x : Nat × Value} (hj : L[j]? = some x) : ∃ g c, v = .slice (some ⟨g, 0, none⟩) L.length c ∧ w.cell? ⟨g, j * 2, none⟩ = some (.int .i64 (x.1 : Int)) ∧ w.cell? ⟨g, j * 2 + 1, none⟩ = some x.2 := by
  have hjl : j < L.length := (List.getElem?_eq_some_iff.1 hj).1
  rcases id q.2 with ⟨rfl, h0⟩ | ⟨g, cap, cur, rfl, hg, hh, hn, hm, hc, ht⟩
  · omega
  · have hat := mcells_at L j x hj
    refine ⟨g, cap, rfl, ?_, ?_⟩
    · rw [World.ownsRow.cellAt q (j * 2) (by omega)]; exact hat.1
    · rw [World.ownsRow.cellAt q (j * 2 + 1) (by omega)]; exact hat.2

theorem strAB : strOf [97, 98] = ⟨#[97, 98]⟩ := rfl

set_option maxHeartbeats 8000000 in
theorem framed_calls (w : World) (hK : Know w) : Calls Tryd.prog 8 #[] w fun e w' => e = .returned (.bool true) ∧ Below w.heap.size w w' := by
  have hG := hK.glob
  have HK := hide hK
  have HG := hide hG
  clear hK hG
  go_enter Tryd.func8, Tryd.ntmps8
  go_wp2_with fail
  refine (new_calls w w.heap.size).mono ?_
  rintro e w1 ⟨rfl, hr1, hb1, hs1⟩
  have HR1 := hide hr1
  have HL1 := hide hb1
  have HK1 := hide (HK.out.below hb1)
  have HN1 := hide hb1.size
  clear hr1 hb1 hs1
  have hc1 : (convert 25 25 (.slice (some ⟨w1.heap.size, 0, none⟩) 7 7)).run Tryd.prog (w1.alloc (.cells #[.int .u8 99, .int .u8 111, .int .u8 110, .int .u8 116, .int .u8 101, .int .u8 110, .int .u8 116] 5)) = .ok (.slice (some ⟨w1.heap.size, 0, none⟩) 7 7) (w1.alloc (.cells (lit exA) 5 (7, 8))) := lit_conv w1 exA 7 rfl
  have hb1 := bel w1 (.cells (lit exA) 5 (7, 8))
  have HF1 := hide (feedLit w1 w.heap.size w.heap.size _ _ exA (7, 8) (by decide) (by decide) HR1.out HN1.out (Nat.le_refl _) HK1.out HG.out)
  obtain ⟨wA, hwA⟩ : ∃ wA, w1.alloc (.cells (lit exA) 5 (7, 8)) = wA := ⟨_, rfl⟩
  rw [hwA] at HF1 hb1 hc1
  have HB1 := hide hb1
  have HRA1 := hide (HR1.out.below hb1)
  clear hb1 hwA
  go_wp2_with fail
  refine HF1.out.mono ?_
  rintro e w2 ⟨gv1, rfl, hf1⟩
  have HH1 := hide hf1
  obtain ⟨row1, hr1, hl1⟩ := hf1.next (Nat.le_refl _) (fun k e => (HRA1.out.row k e).1) (by have := HN1.out; have := HB1.out.size; omega)
  have HR2 := hide hr1
  have HL2 : Hid (Below w.heap.size w w2) := (bafter HL1.out HB1.out (Nat.le_refl _)).trans hl1
  have HK2 := hide (HK.out.low HG.out HL2.out)
  have HN2 := hide HL2.out.size
  clear hf1 hr1 hl1 hc1 HF1
  obtain ⟨ga1, gc1, hg1⟩ := HH1.out.none ex1
  subst hg1
  clear HH1
  have hc2 : (convert 25 25 (.slice (some ⟨w2.heap.size, 0, none⟩) 15 15)).run Tryd.prog (w2.alloc (.cells #[.int .u8 45, .int .u8 108, .int .u8 101, .int .u8 110, .int .u8 103, .int .u8 116, .int .u8 104, .int .u8 58, .int .u8 32, .int .u8 50, .int .u8 13, .int .u8 10, .int .u8 13, .int .u8 10, .int .u8 97] 5)) = .ok (.slice (some ⟨w2.heap.size, 0, none⟩) 15 15) (w2.alloc (.cells (lit exB) 5 (15, 16))) := lit_conv w2 exB 15 rfl
  have hb2 := bel w2 (.cells (lit exB) 5 (15, 16))
  have HF2 := hide (feedLit w2 w.heap.size w.heap.size _ _ exB (15, 16) (by decide) (by decide) HR2.out HN2.out (Nat.le_refl _) HK2.out HG.out)
  obtain ⟨wB, hwB⟩ : ∃ wB, w2.alloc (.cells (lit exB) 5 (15, 16)) = wB := ⟨_, rfl⟩
  rw [hwB] at HF2 hb2 hc2
  have HB2 := hide hb2
  have HRA2 := hide (HR2.out.below hb2)
  clear hb2 hwB
  go_wp2_with fail
  refine HF2.out.mono ?_
  rintro e w3 ⟨gv2, rfl, hf2⟩
  have HH2 := hide hf2
  obtain ⟨row2, hr2, hl2⟩ := hf2.next (Nat.le_refl _) (fun k e => (HRA2.out.row k e).1) (by have := HN2.out; have := HB2.out.size; omega)
  have HR3 := hide hr2
  have HL3 : Hid (Below w.heap.size w w3) := (bafter HL2.out HB2.out (Nat.le_refl _)).trans hl2
  have HK3 := hide (HK.out.low HG.out HL3.out)
  have HN3 := hide HL3.out.size
  clear hf2 hr2 hl2 hc2 HF2
  obtain ⟨ga2, gc2, hg2⟩ := HH2.out.none ex2
  subst hg2
  clear HH2
  have hc3 : (convert 25 25 (.slice (some ⟨w3.heap.size, 0, none⟩) 4 4)).run Tryd.prog (w3.alloc (.cells #[.int .u8 98, .int .u8 120, .int .u8 13, .int .u8 10] 5)) = .ok (.slice (some ⟨w3.heap.size, 0, none⟩) 4 4) (w3.alloc (.cells (lit exC) 5 (4, 5))) := lit_conv w3 exC 4 rfl
  have hb3 := bel w3 (.cells (lit exC) 5 (4, 5))
  have HF3 := hide (feedLit w3 w.heap.size w.heap.size _ _ exC (4, 5) (by decide) (by decide) HR3.out HN3.out (Nat.le_refl _) HK3.out HG.out)
  obtain ⟨wC, hwC⟩ : ∃ wC, w3.alloc (.cells (lit exC) 5 (4, 5)) = wC := ⟨_, rfl⟩
  rw [hwC] at HF3 hb3 hc3
  have HB3 := hide hb3
  have HRA3 := hide (HR3.out.below hb3)
  clear hb3 hwC
  go_wp2_with fail
  refine HF3.out.mono ?_
  rintro e w4 ⟨gv3, rfl, hf3⟩
  have HH3 := hide hf3
  obtain ⟨row3, hr3, hl3⟩ := hf3.next (Nat.le_refl _) (fun k e => (HRA3.out.row k e).1) (by have := HN3.out; have := HB3.out.size; omega)
  have HR4 := hide hr3
  have HL4 : Hid (Below w.heap.size w w4) := (bafter HL3.out HB3.out (Nat.le_refl _)).trans hl3
  have HK4 := hide (HK.out.low HG.out HL4.out)
  have HN4 := hide HL4.out.size
  clear hf3 hr3 hl3 hc3 HF3
  obtain ⟨L, row4, m1, m2, m3, m4, m5, m6⟩ := HH3.out
  rw [ex3] at m2
  have hl := m2.len
  obtain ⟨x0, hx0⟩ : ∃ x, L[0]? = some x := ⟨_, List.getElem?_eq_getElem (by rw [hl]; decide)⟩
  obtain ⟨x1, hx1⟩ : ∃ x, L[1]? = some x := ⟨_, List.getElem?_eq_getElem (by rw [hl]; decide)⟩
  obtain ⟨y0, hy0, hk0, ho0, _⟩ := m2.at hx0
  obtain ⟨y1, hy1, hk1, ho1, _⟩ := m2.at hx1
  cases hy0
  cases hy1
  obtain ⟨g, gc, rfl, c0, c1⟩ := m1.cells hx0
  obtain ⟨g', gc', hge, c2, c3⟩ := m1.cells hx1
  cases hge
  rw [hl, hk0] at *
  rw [hk1] at c2
  obtain ⟨b0, x0v⟩ := x0
  obtain ⟨ba, bc, rfl, hby, _⟩ := own_byts (by decide) ho0
  have hcv0 := conv_byts hby
  rw [strAB] at hcv0
  have hcv : (convert 25 9 (.slice ba 2 bc)).run Tryd.prog w4 = .ok (.string ⟨#[97, 98]⟩) w4 := hcv0
  have k0 : w4.cell? ⟨g, 0, none⟩ = some (.int .i64 1) := c0
  have k1 : w4.cell? ⟨g, 1, none⟩ = some (.slice ba 2 bc) := c1
  have k2 : w4.cell? ⟨g, 2, none⟩ = some (.int .i64 3) := c2
  have HO := hide (over_calls w4 w.heap.size w.heap.size _ row4 m3)
  rw [ex4] at HO
  clear HH3 m1 m2 m3 m4 m5 m6 hx0 hx1 ho0 ho1 hby hk0 hk1 c0 c1 c2 c3 hcv0
  go_wp2_with fail
  refine HO.out.mono ?_
  rintro e w5 ⟨rfl, hw5⟩
  rw [hw5]
  clear hw5
  go_wp2
  go_ret
  exact ⟨rfl, HL4.out⟩

end Go.Proofs.YtnflbplhokodjaaDoor
