/- The law's own example (lettered): it is so. -/
import Derived.Test.YtgabkehalhjcmaaDoorUPlace
import Derived.Lib.SlBytesConst
namespace Go.Proofs.YtgabkehalhjcmaaDoor
set_option linter.unusedVariables false
set_option linter.unusedSimpArgs false
open Go Go.RowKit Go.Shelf Go.Lib

def exA : List Nat := [97, 226, 130, 172, 98]
def exB : List Nat := [237, 160, 128]

theorem byt_lit (w : World) (T : List Nat) (hT : ∀ x ∈ T, x < 256) (fr : Nat × Nat) : Byt (w.alloc (.cells (T.map (fun x : Nat => Value.int .u8 (x : Int))).toArray 5 fr)) (some ⟨w.heap.size, 0, none⟩) T.length T := by
  refine ⟨⟨some ⟨w.heap.size, 0, none⟩, T.length, rfl, hT, fun j hj => ⟨w.heap.size, 0, rfl, ?_⟩⟩, Nat.le_refl _, fun e => by cases e⟩
  have hh : (w.alloc (.cells (T.map (fun x : Nat => Value.int .u8 (x : Int))).toArray 5 fr)).heap[w.heap.size]? = _ := World.alloc_heap_new w _
  rw [Nat.zero_add]
  simp only [World.cell?, hh]
  simp [nth, hj]

theorem exA_pos : posL exA 0 = 0 ∧ posL exA 1 = 1 ∧ posL exA 2 = 4 ∧ posL exA 3 = 5 := by decide
theorem exA_units : unitsL exA 0 = 0 ∧ unitsL exA 1 = 1 ∧ unitsL exA 2 = 2 ∧ unitsL exA 3 = 3 := by decide
theorem exA_lines : linesL exA = [0] := by decide
theorem exB_rune : runeAt exB 0 = -1 := by decide
theorem exA_line {f en : Nat} (hf : f = 0) (h : IsEnd exA f en) : lineL exA f en = exA := by
  subst hf
  obtain ⟨h1, h2, h3, h4⟩ := h
  have h5 : exA.length = 5 := rfl
  have : en = 5 := by
    rw [h5] at h2 h4
    have he : en = 0 ∨ en = 1 ∨ en = 2 ∨ en = 3 ∨ en = 4 ∨ en = 5 := by omega
    rcases he with rfl | rfl | rfl | rfl | rfl | rfl
    all_goals first | rfl | (exfalso; exact absurd (h4 (by omega)) (by decide))
  rw [this]
  rfl
theorem exA_count {N : Nat} (h1 : ∀ k, k < N → posL exA k < exA.length) (h2 : posL exA N = exA.length) : N = 3 := by
  have e := exA_pos
  have h5 : exA.length = 5 := rfl
  rw [h5] at h1 h2
  rcases Nat.lt_or_ge 3 N with g | g
  · have := h1 3 g; omega
  · have hn : N = 0 ∨ N = 1 ∨ N = 2 ∨ N = 3 := by omega
    rcases hn with rfl | rfl | rfl | rfl <;> omega
theorem exA_off {r : Int} (h : OffR exA [0] 0 2 r) : r = 4 := by
  rcases h with ⟨h, _⟩ | ⟨_, h, _⟩ | ⟨i, f, en, N, hi, hi2, hc, hE, n1, n2, hI⟩
  · omega
  · simp at h
  · obtain rfl : i = 0 := by omega
    have hf : f = 0 := by
      have : clamp (nthI [0] 0) (exA.length : Int) = 0 := by decide
      omega
    rw [exA_line hf hE] at n1 n2 hI
    obtain rfl := exA_count n1 n2
    have eu := exA_units
    have ep := exA_pos
    rcases hI with ⟨k, hk, h1, h2, rfl⟩ | ⟨h1, _⟩
    · have hkk : k = 0 ∨ k = 1 ∨ k = 2 := by omega
      rcases hkk with rfl | rfl | rfl
      · rw [eu.2.1] at h1; omega
      · rw [eu.2.2.1] at h1; omega
      · rw [ep.2.2.1, hf]; rfl
    · have := h1 2 (by omega)
      rw [eu.2.2.2] at this
      omega
theorem exA_place {ln un : Int} (h : PlaceR exA [0] 2 ln un) : ln = 0 ∧ un = 1 := by
  rcases h with ⟨h, _⟩ | ⟨a, i, f, en, N, k, _, ha, hl, rfl, hc, hE, n1, n2, hk, h1, h2, rfl⟩
  · cases h
  · have hi : i = 0 := by have := hl.1; simp at this; exact this
    subst hi
    have hf : f = 0 := by
      have : clamp (nthI [0] 0) (exA.length : Int) = 0 := by decide
      omega
    have haa : a = 2 := by
      have : clamp 2 (exA.length : Int) = 2 := by decide
      omega
    rw [exA_line hf hE] at n1 n2 h1 h2 ⊢
    obtain rfl := exA_count n1 n2
    have eu := exA_units
    have ep := exA_pos
    have hkk : k = 0 ∨ k = 1 ∨ k = 2 ∨ k = 3 := by omega
    rcases hkk with rfl | rfl | rfl | rfl
    · have := h2 (by omega); rw [ep.2.1] at this; omega
    · exact ⟨rfl, by rw [eu.2.1]; rfl⟩
    · have := h1 1 (by omega); rw [ep.2.2.1] at this; omega
    · have := h1 1 (by omega); rw [ep.2.2.1] at this; omega
theorem exB_told {a : Nat} {e : Int} (h : Told exB 3 a e) : a = 0 ∧ e = 10 := by
  rcases h with ⟨k, _, h1, h2, rfl, rfl⟩ | ⟨h, _⟩
  · rcases Nat.eq_zero_or_pos k with rfl | hk
    · exact ⟨rfl, rfl⟩
    · exact absurd exB_rune (h1 0 hk)
  · exact absurd exB_rune (h 0 (by omega))
theorem exB_count : (∀ k, k < 3 → posL exB k < exB.length) ∧ posL exB 3 = exB.length := by decide
theorem exA_three : (∀ k, k < 3 → posL exA k < exA.length) ∧ posL exA 3 = exA.length := by decide
theorem ex_small : (∀ x ∈ exA, x < 256) ∧ (∀ x ∈ exB, x < 256) := by decide

def arA : Array Value := #[.int .u8 97, .int .u8 226, .int .u8 130, .int .u8 172, .int .u8 98]
def arB : Array Value := #[.int .u8 237, .int .u8 160, .int .u8 128]
theorem arA_eq : (exA.map (fun x : Nat => Value.int .u8 (x : Int))).toArray = arA := rfl
theorem arB_eq : (exB.map (fun x : Nat => Value.int .u8 (x : Int))).toArray = arB := rfl

set_option maxRecDepth 100000 in
set_option maxHeartbeats 4000000 in
theorem lettered_calls (w : World) (hK : Know w) :
    Calls Tryd.prog 8 #[] w fun e w' => e = .returned (.bool true) ∧ Below w.heap.size w w' := by
  have HK := hide hK
  clear hK
  obtain ⟨wA, hwA⟩ : ∃ wA, w.alloc (.cells arA 5 (5, 6)) = wA := ⟨_, rfl⟩
  obtain ⟨wB, hwB⟩ : ∃ wB, wA.alloc (.cells arB 5 (3, 4)) = wB := ⟨_, rfl⟩
  have hc1 : (convert 22 22 (.slice (some ⟨w.heap.size, 0, none⟩) 5 5)).run Tryd.prog (w.alloc (.cells arA 5)) = .ok (.slice (some ⟨w.heap.size, 0, none⟩) 5 5) wA := by
    rw [← hwA]; exact run_convert_bytes_const w 22 5 arA 5 5 Tryd.underlying22 Tryd.underlying5
  have hc2 : (convert 22 22 (.slice (some ⟨wA.heap.size, 0, none⟩) 3 3)).run Tryd.prog (wA.alloc (.cells arB 5)) = .ok (.slice (some ⟨wA.heap.size, 0, none⟩) 3 3) wB := by
    rw [← hwB]; exact run_convert_bytes_const wA 22 5 arB 3 3 Tryd.underlying22 Tryd.underlying5
  have hA : Byt wA (some ⟨w.heap.size, 0, none⟩) 5 exA := by rw [← hwA, ← arA_eq]; exact byt_lit w exA ex_small.1 (5, 6)
  have hBb : Byt wB (some ⟨wA.heap.size, 0, none⟩) 3 exB := by rw [← hwB, ← arB_eq]; exact byt_lit wA exB ex_small.2 (3, 4)
  have hb1 : Below w.heap.size w wA := by rw [← hwA]; exact bel _ _
  have hb2 : Below wA.heap.size wA wB := by rw [← hwB]; exact bel _ _
  have HB := hide hBb
  have HA2 := hide (hA.below hb2)
  have KB := hide (bafter hb1 hb2 (Nat.le_refl _))
  clear hb1 hb2 hA hBb hwA hwB
  unfold arA at hc1
  unfold arB at hc2
  go_enter Tryd.func8, Tryd.ntmps8
  go_wp2_with fail
  refine (valid_calls _ _ _ exB 3 HB.out.1 (HK.out.below KB.out).tabs exB_count.1 exB_count.2 (by decide) HB.out.2.1).mono ?_
  rintro e W1 ⟨a, er, rfl, hT, hb1⟩
  obtain ⟨rfl, rfl⟩ := exB_told hT
  have hA3 := HA2.out.below hb1
  have hB2 := bafter KB.out hb1 (Nat.le_refl _)
  clear hT hb1 HA2 KB HB
  have HA3 := hide hA3
  have KB := hide hB2
  clear hA3 hB2
  go_wp2_with fail
  refine (units_calls _ _ _ exA 3 HA3.out.1 (HK.out.below KB.out).tabs exA_three.1 exA_three.2 (by decide) HA3.out.2.1).mono ?_
  rintro e W2 ⟨rfl, hb2⟩
  rw [exA_units.2.2.2]
  have HA4 := hide (HA3.out.below hb2)
  have KB2 := hide (bafter KB.out hb2 (Nat.le_refl _))
  clear hb2 HA3 KB
  go_wp2_with fail
  refine (lines_calls _ _ _ exA HA4.out.1 (by decide)).mono ?_
  rintro e W3 ⟨rv, rfl, hO, hb3⟩
  rw [exA_lines] at hO
  have HA5 := hide (HA4.out.below hb3)
  have KB3 := hide (bafter KB2.out hb3 (Nat.le_refl _))
  have HL := hide hO.ints
  clear hb3 hO HA4 KB2
  go_wp2_with fail
  refine (offset_calls _ _ _ exA _ [0] 0 2 HA5.out HL.out (HK.out.below KB3.out) (by decide)).mono ?_
  rintro e W4 ⟨r, rfl, hr, hb4⟩
  obtain rfl := exA_off hr
  have HA6 := hide (HA5.out.below hb4)
  have KB4 := hide (bafter KB3.out hb4 (Nat.le_refl _))
  clear hb4 hr HA5 KB3 HL
  go_wp2_with fail
  refine (lines_calls _ _ _ exA HA6.out.1 (by decide)).mono ?_
  rintro e W5 ⟨rv, rfl, hO, hb5⟩
  rw [exA_lines] at hO
  have HA7 := hide (HA6.out.below hb5)
  have KB5 := hide (bafter KB4.out hb5 (Nat.le_refl _))
  have HL := hide hO.ints
  clear hb5 hO HA6 KB4
  go_wp2_with fail
  refine (place_calls _ _ _ exA _ [0] 2 HA7.out HL.out (HK.out.below KB5.out) (by decide) (by decide)).mono ?_
  rintro e W6 ⟨ln, un, rfl, hp, hb6⟩
  obtain ⟨rfl, rfl⟩ := exA_place hp
  have KB6 := hide (bafter KB5.out hb6 (Nat.le_refl _))
  clear hb6 hp HA7 KB5 HL
  go_wp2
  go_ret
  exact ⟨rfl, KB6.out⟩

end Go.Proofs.YtgabkehalhjcmaaDoor
