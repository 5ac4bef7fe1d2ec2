/- Tokens that lie in memory, one by one; the law's own example: it is so. -/
import Derived.Test.YtehflaenehehhaaLTokens
import Derived.Laws.OwnMore
namespace Go.Proofs.Ytehflaenehehhaa
set_option linter.unusedVariables false
set_option linter.unusedSimpArgs false
set_option maxRecDepth 100000
open Go Go.RowKit Go.Shelf Go.Lib

theorem tkcells_get (T : List Nat) : ∀ (L : List Tok) (j : Nat) (t : Tok), L[j]? = some t → ∀ i, i < 4 → (tkcells T L)[j * 4 + i]? = (tokCells T t)[i]? := by
  intro L
  induction L with
  | nil => intro j t h; simp at h
  | cons a l ih =>
    intro j t h i hi
    have e : tkcells T (a :: l) = tokCells T a ++ tkcells T l := by simp [tkcells]
    have el : (tokCells T a).length = 4 := rfl
    rw [e]
    cases j with
    | zero =>
      simp at h
      subst h
      rw [List.getElem?_append_left (by omega)]
      congr 1
      omega
    | succ j =>
      rw [List.getElem?_append_right (by omega), el, show (j + 1) * 4 + i - 4 = j * 4 + i by omega]
      exact ih j t (by simpa using h) i hi

/-- A slice of tokens: it holds these. -/
def ToksIn (W : World) (v : Value) (T : List Nat) (L : List Tok) : Prop := ∃ ao cap, v = .slice ao L.length cap ∧ L.length ≤ cap ∧ ∀ j t, L[j]? = some t → ∃ b, ao = some ⟨b, 0, none⟩ ∧ W.cell? ⟨b, j * 4, none⟩ = some (.int .i64 t.1) ∧ W.cell? ⟨b, j * 4 + 1, none⟩ = some (.string (tokText T t)) ∧ W.cell? ⟨b, j * 4 + 2, none⟩ = some (.int .i64 (t.2.1 : Int)) ∧ W.cell? ⟨b, j * 4 + 3, none⟩ = some (.int .i64 (t.2.2 : Int))
theorem ToksIn.below {W W' : World} {v : Value} {T : List Nat} {L : List Tok} (h : ToksIn W v T L) (hb : Below W.heap.size W W') : ToksIn W' v T L := by
  obtain ⟨ao, cap, h1, h2, h3⟩ := h
  refine ⟨ao, cap, h1, h2, fun j t hj => ?_⟩
  obtain ⟨b, e, c0, c1, c2, c3⟩ := h3 j t hj
  exact ⟨b, e, (hb.cell (p := ⟨b, j * 4, none⟩) (block_lt c0)).trans c0, (hb.cell (p := ⟨b, j * 4 + 1, none⟩) (block_lt c1)).trans c1, (hb.cell (p := ⟨b, j * 4 + 2, none⟩) (block_lt c2)).trans c2, (hb.cell (p := ⟨b, j * 4 + 3, none⟩) (block_lt c3)).trans c3⟩

theorem toksIn_of {n₀ : Nat} {W : World} {e : TypeId} {v : Value} {T : List Nat} {L : List Tok} (h : W.ownsRow n₀ e 4 v L.length (tkcells T L)) : ToksIn W v T L := by
  rcases h.2 with ⟨hv, hn⟩ | ⟨g, cap, cur, hv, hg, hh, hc1, hc2, hc3⟩
  · refine ⟨none, 0, by rw [hv, hn], by omega, fun j t hj => ?_⟩
    have : L = [] := List.length_eq_zero_iff.1 hn
    rw [this] at hj
    simp at hj
  · subst hv
    refine ⟨some ⟨g, 0, none⟩, cap, rfl, hc1, fun j t hj => ⟨g, rfl, ?_⟩⟩
    have hlt : j < L.length := (List.getElem?_eq_some_iff.1 hj).1
    have c := fun i hi => (h.cellAt (j * 4 + i) (by omega)).trans (tkcells_get T L j t hj i hi)
    exact ⟨c 0 (by omega), c 1 (by omega), c 2 (by omega), c 3 (by omega)⟩

def exS : List Nat := [97, 60, 61, 98, 49, 32, 47, 47, 32, 99]
def exX : List Nat := [120, 35]
def arS : Array Value := #[.int .u8 97, .int .u8 60, .int .u8 61, .int .u8 98, .int .u8 49, .int .u8 32, .int .u8 47, .int .u8 47, .int .u8 32, .int .u8 99]
def arX : Array Value := #[.int .u8 120, .int .u8 35]
theorem arS_eq : (exS.map (fun x : Nat => Value.int .u8 (x : Int))).toArray = arS := rfl
theorem arX_eq : (exX.map (fun x : Nat => Value.int .u8 (x : Int))).toArray = arX := rfl
theorem exS_count : (∀ k, k < 5 → posP exS k < exS.length) ∧ posP exS 5 = exS.length := by decide +kernel
theorem exX_count : (∀ k, k < 2 → posP exX k < exX.length) ∧ posP exX 2 = exX.length := by decide +kernel
theorem exS_right : ∀ k, k < 5 → faultAt exS k = 0 := by decide +kernel
theorem exX_wrong : faultAt exX 0 = 0 ∧ faultAt exX 1 = 20 ∧ posP exX 1 = 1 := by decide +kernel
theorem exS_toks : toksL exS 5 ++ [(0, exS.length, exS.length)] = [(1, 0, 1), (4, 1, 3), (1, 3, 5), (0, 10, 10)] := by decide +kernel
theorem exS_text : tokText exS (4, 1, 3) = ⟨#[60, 61]⟩ := by rfl

theorem exS_told {W : World} {v : Value} {a er : Int} (h : TokR W exS 5 v a er) : a = 0 ∧ er = 0 ∧ ∃ b cap, v = .slice (some ⟨b, 0, none⟩) 4 cap ∧ W.cell? ⟨b, 5, none⟩ = some (.string ⟨#[60, 61]⟩) ∧ W.cell? ⟨b, 10, none⟩ = some (.int .i64 3) ∧ W.cell? ⟨b, 11, none⟩ = some (.int .i64 5) := by
  rcases h with ⟨k, hk, _, hf, _⟩ | ⟨_, ha, he, n₀, ho⟩
  · exact absurd (exS_right k hk) hf
  · refine ⟨ha, he, ?_⟩
    have hI := toksIn_of ho
    rw [exS_toks] at hI
    obtain ⟨ao, cap, hv, _, hc⟩ := hI
    obtain ⟨b, hb, _, c1, _, _⟩ := hc 1 (4, 1, 3) rfl
    obtain ⟨b', hb', _, _, c2, c3⟩ := hc 2 (1, 3, 5) rfl
    subst hb
    cases hb'
    rw [exS_text] at c1
    exact ⟨b, cap, hv, c1, c2, c3⟩
theorem exX_told {W : World} {v : Value} {a er : Int} (h : TokR W exX 2 v a er) : a = 1 ∧ er = 20 ∧ v = .slice none 0 0 := by
  rcases h with ⟨k, hk, _, hf, hv, ha, he⟩ | ⟨hr, _⟩
  · have : k = 1 := by
      rcases Nat.lt_succ_iff_lt_or_eq.1 hk with g | g
      · exact absurd exX_wrong.1 (by rw [show k = 0 by omega] at hf; exact hf)
      · exact g
    subst this
    rw [exX_wrong.2.2] at ha
    rw [exX_wrong.2.1] at he
    exact ⟨ha, he, hv⟩
  · have := hr 1 (by omega)
    rw [exX_wrong.2.1] at this
    exact absurd this (by decide)

set_option maxHeartbeats 4000000 in
theorem parted_calls (w : World) :
    Calls Try.prog 9 #[] w fun e w' => e = .returned (.bool true) ∧ Below w.heap.size w w' := by
  obtain ⟨wA, hwA⟩ : ∃ wA, w.alloc (.cells arS 5 (10, 11)) = wA := ⟨_, rfl⟩
  have hc1 : (convert 22 22 (.slice (some ⟨w.heap.size, 0, none⟩) 10 10)).run Try.prog (w.alloc (.cells arS 5)) = .ok (.slice (some ⟨w.heap.size, 0, none⟩) 10 10) wA := by
    rw [← hwA]; exact run_convert_bytes_const w 22 5 arS 10 10 Try.underlying22 Try.underlying5
  have hA : Byts wA (.slice (some ⟨w.heap.size, 0, none⟩) 10 10) exS := by rw [← hwA, ← arS_eq]; exact byts_lit w exS (by decide) (10, 11)
  have KB := hide (show Below w.heap.size w wA by rw [← hwA]; exact bel _ _)
  have HA := hide hA
  clear hA hwA
  unfold arS at hc1
  go_enter Try.func9, Try.ntmps9
  go_wp2_with fail
  refine (tokens_calls wA _ 10 exS 5 HA.out exS_count.1 exS_count.2 (by decide) (by decide)).mono ?_
  rintro e W1 ⟨v, a, er, rfl, hT, hb1⟩
  obtain ⟨rfl, rfl, b, cap, rfl, c1, c2, c3⟩ := exS_told hT
  have K1 := hide (bafter KB.out hb1 (Nat.le_refl _))
  clear hT hb1 KB HA hc1
  obtain ⟨wB, hwB⟩ : ∃ wB, W1.alloc (.cells arX 5 (2, 3)) = wB := ⟨_, rfl⟩
  have hc2 : (convert 22 22 (.slice (some ⟨W1.heap.size, 0, none⟩) 2 2)).run Try.prog (W1.alloc (.cells arX 5)) = .ok (.slice (some ⟨W1.heap.size, 0, none⟩) 2 2) wB := by
    rw [← hwB]; exact run_convert_bytes_const W1 22 5 arX 2 2 Try.underlying22 Try.underlying5
  have hX : Byts wB (.slice (some ⟨W1.heap.size, 0, none⟩) 2 2) exX := by rw [← hwB, ← arX_eq]; exact byts_lit W1 exX (by decide) (2, 3)
  have kB : Below W1.heap.size W1 wB := by rw [← hwB]; exact bel _ _
  have KB := hide kB
  have HX := hide hX
  have HC := hide (And.intro c1 (And.intro c2 c3))
  clear hX hwB kB c1 c2 c3
  unfold arX at hc2
  go_wp2_with fail
  refine (tokens_calls wB _ 2 exX 2 HX.out exX_count.1 exX_count.2 (by decide) (by decide)).mono ?_
  rintro e W2 ⟨v, a, er, rfl, hT, hb2⟩
  obtain ⟨rfl, rfl, rfl⟩ := exX_told hT
  have k2 : Below W1.heap.size W1 W2 := bafter KB.out hb2 (Nat.le_refl _)
  have c1 : W2.cell? ⟨b, 5, none⟩ = some (.string ⟨#[60, 61]⟩) := (k2.cell (p := ⟨b, 5, none⟩) (block_lt HC.out.1)).trans HC.out.1
  have c2 : W2.cell? ⟨b, 10, none⟩ = some (.int .i64 3) := (k2.cell (p := ⟨b, 10, none⟩) (block_lt HC.out.2.1)).trans HC.out.2.1
  have c3 : W2.cell? ⟨b, 11, none⟩ = some (.int .i64 5) := (k2.cell (p := ⟨b, 11, none⟩) (block_lt HC.out.2.2)).trans HC.out.2.2
  have K2 := hide (bafter K1.out k2 (Nat.le_refl _))
  clear hT hb2 k2 HC K1 KB HX hc2
  go_wp2
  go_ret
  exact ⟨rfl, K2.out⟩

end Go.Proofs.Ytehflaenehehhaa
