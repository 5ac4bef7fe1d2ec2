/- The pieces of a text, one behind the other; the iterator of them hands them over. -/
import Derived.Test.YtehflaenehehhaaLRange
namespace Go.Proofs.Ytehflaenehehhaa
set_option linter.unusedVariables false
set_option linter.unusedSimpArgs false
open Go Go.RowKit Go.Shelf Go.Lib

/-- The kind and the size of the piece at a place; where the k-th begins. -/
def kindAt (T : List Nat) (p : Nat) : Int := (firstL (T.drop p)).1
def sizeAt (T : List Nat) (p : Nat) : Nat := (firstL (T.drop p)).2
def posP (T : List Nat) : Nat → Nat
  | 0 => 0
  | k + 1 => posP T k + sizeAt T (posP T k)

theorem runL_pos {p : Nat → Bool} {T : List Nat} (h1 : 1 ≤ T.length) (h : p (nth T 0) = true) : 1 ≤ runL p T := by
  match T, h1 with
  | a :: l, _ =>
    have e : p a = true := h
    simp [runL, e]
theorem signL_le {T : List Nat} (h1 : 1 ≤ T.length) : signL T ≤ T.length := by
  unfold signL
  by_cases h : twoB T = true
  · rw [if_pos h]
    unfold twoB at h
    simp at h
    omega
  · rw [if_neg h]
    split <;> omega
theorem first_bounds {T : List Nat} (h1 : 1 ≤ T.length) : 1 ≤ (firstL T).2 ∧ (firstL T).2 ≤ T.length := by
  unfold firstL
  by_cases g1 : blankB (nth T 0) = true
  · rw [if_pos g1]; exact ⟨runL_pos h1 g1, runL_le _ _⟩
  rw [if_neg g1]
  by_cases g2 : remB T = true
  · rw [if_pos g2]
    refine ⟨runL_pos h1 ?_, runL_le _ _⟩
    unfold remB at g2
    simp at g2
    rw [g2.1.2]
    rfl
  rw [if_neg g2]
  by_cases g3 : letterB (nth T 0) = true
  · rw [if_pos g3]
    refine ⟨runL_pos h1 ?_, runL_le _ _⟩
    unfold nameB
    rw [g3]
    rfl
  rw [if_neg g3]
  by_cases g4 : digitB (nth T 0) = true
  · rw [if_pos g4]; exact ⟨runL_pos h1 g4, runL_le _ _⟩
  rw [if_neg g4]
  by_cases g5 : 0 < signL T
  · rw [if_pos g5]; exact ⟨g5, signL_le h1⟩
  · rw [if_neg g5]; exact ⟨Nat.le_refl _, h1⟩

theorem size_bounds {T : List Nat} {p : Nat} (hp : p < T.length) : 1 ≤ sizeAt T p ∧ p + sizeAt T p ≤ T.length := by
  have hl : (T.drop p).length = T.length - p := List.length_drop
  have := first_bounds (T := T.drop p) (by omega)
  unfold sizeAt
  omega

theorem pieces_count (T : List Nat) : ∃ N, (∀ k, k < N → posP T k < T.length) ∧ posP T N = T.length := by
  have key : ∀ m k, T.length - posP T k = m → posP T k ≤ T.length → (∀ j, j < k → posP T j < T.length) → ∃ N, (∀ j, j < N → posP T j < T.length) ∧ posP T N = T.length := by
    intro m
    induction m using Nat.strongRecOn with
    | _ m ih =>
      intro k hm hk hj
      by_cases he : posP T k = T.length
      · exact ⟨k, hj, he⟩
      · obtain ⟨h1, h2⟩ := size_bounds (T := T) (p := posP T k) (by omega)
        have e : posP T (k + 1) = posP T k + sizeAt T (posP T k) := rfl
        refine ih (T.length - posP T (k + 1)) (by omega) (k + 1) rfl (by omega) (fun j hj' => ?_)
        rcases Nat.lt_succ_iff_lt_or_eq.1 hj' with h | h
        · exact hj j h
        · rw [h]; omega
  exact key _ 0 rfl (Nat.zero_le _) (fun j hj => by omega)

theorem Byts.drop {W : World} {b off cap cap' : Nat} {T : List Nat} (h : Byts W (.slice (some ⟨b, off, none⟩) T.length cap) T) {p n : Nat} (hp : p ≤ T.length) (hn : n = T.length - p) : Byts W (.slice (some ⟨b, off + p, none⟩) n cap') (T.drop p) := by
  obtain ⟨ao, c, e, h1, h2⟩ := h
  cases e
  refine ⟨some ⟨b, off + p, none⟩, cap', by rw [List.length_drop, hn], fun x hx => h1 x (List.mem_of_mem_drop hx), fun j hj => ?_⟩
  rw [List.length_drop] at hj
  obtain ⟨b', off', e, hc⟩ := h2 (p + j) (by omega)
  cases e
  refine ⟨b, off + p, rfl, ?_⟩
  rw [nth_drop, Nat.add_assoc]
  exact hc

/-- What the iterator must know of memory. -/
def PieceKnow (Bs : Nat) (ao : Option Addr) (cap : Nat) (T : List Nat) (W : World) : Prop := W.cell? ⟨Bs, 0, none⟩ = some (.slice ao T.length cap) ∧ Byts W (.slice ao T.length cap) T
/-- What it hands over. -/
def pieceV (T : List Nat) (k : Nat) : Array Value := #[.int .i64 (kindAt T (posP T k)), .agg #[.int .i64 ((posP T k : Nat) : Int), .int .i64 ((posP T (k + 1) : Nat) : Int)]]

set_option maxRecDepth 100000 in
set_option maxHeartbeats 2000000 in
theorem pieces_hands (Bs : Nat) (ao : Option Addr) (cap : Nat) (T : List Nat) (N : Nat) (h1 : ∀ k, k < N → posP T k < T.length) (h2 : posP T N = T.length) (hlen : T.length ≤ 1000000000) (hcap : T.length ≤ cap) :
    HandsB Try.prog 30 #[.pointer (some ⟨Bs, 0, none⟩)] N (pieceV T) (fun _ W => PieceKnow Bs ao cap T W) := by
  intro l J Jx W hKn hSt hY h0
  refine callsIn_of_wp Try.func30 rfl trivial ?_ rfl
  simp only [Try.ntmps30, List.size_toArray, List.length_cons, List.length_nil, Nat.reduceAdd, Nat.reduceSub, Array.replicate_succ, Array.replicate_zero, List.push_toArray, List.append_toArray, List.nil_append, List.cons_append]
  gi_wp2
  gi_loopw [3] (fun i wr => ∃ k : Nat, k ≤ N ∧ i = .int .i64 ((posP T k : Nat) : Int) ∧ J k wr) (fun i _ => T.length - (RowKit.intOf i).toNat)
  case atStart => exact ⟨0, Nat.zero_le _, rfl, h0⟩
  case round =>
    obtain ⟨k, hk, rfl, hJ⟩ := hrel
    obtain ⟨hc, hB⟩ := hKn k _ hJ
    by_cases hlt : k < N
    · have hp := h1 k hlt
      have hps : posP T (k + 1) = posP T k + sizeAt T (posP T k) := rfl
      obtain ⟨ao', cap', e, hb, hcell⟩ := id hB
      cases e
      obtain ⟨b, off, rfl, _⟩ := hcell 0 (by omega)
      obtain ⟨s1, s2⟩ := size_bounds hp
      have HB := hide hB
      have HSt := hide hSt
      have HY := hide (hY k)
      have HJ := hide hJ
      have hps' := hps
      clear hcell hB hKn hSt hY hJ hb hps h1 h2 h0
      unfold pieceV kindAt at HY
      unfold sizeAt at hps' s1 s2
      generalize hP : posP T k = P at *
      generalize hQ : posP T (k + 1) = Q at *
      have dlt : (P : Int) < (T.length : Int) := by omega
      have dle : (P : Int) ≤ (T.length : Int) := by omega
      have dge : (0 : Int) ≤ (P : Int) := by omega
      have dcap : (T.length : Int) ≤ (cap : Int) := by omega
      have HQ := hide hQ
      clear hQ hP
      gi_wp2_with fail
      refine ⟨trivial, ?_⟩
      have hd := HB.out.drop (cap' := cap - P) (p := P) (by omega) rfl
      have hdl : (T.drop P).length = T.length - P := List.length_drop
      have hf := firstPiece_calls wr b (off + P) (cap - P) (T.drop P) (by rw [hdl]; exact hd) (by omega) (by omega) (by omega)
      rw [hdl] at hf
      refine (callsIn_wide.2 hf).mono ?_
      clear hf hd hdl
      rintro e W2 ⟨rfl, hb2⟩
      have hJ2 := HSt.out k _ _ HJ.out hb2
      have hy0 := HY.out W2 hlt hJ2
      clear HSt HJ HY HB hb2 hJ2 hc
      generalize (firstL (T.drop P)).1 = K0 at *
      generalize (firstL (T.drop P)).2 = Z0 at *
      have hZZ : (P : Int) + (Z0 : Int) = (Q : Int) := by omega
      have hZb : Q ≤ 4611686018427387904 := by omega
      have HlZ := hide (show P < Q ∧ P < T.length from ⟨by omega, by omega⟩)
      clear hps'
      obtain ⟨fn, tmps, assign, body, hy, hR⟩ := hy0
      gi_wp2
      refine hR.mono ?_
      rintro e W3 (⟨rfl, hJ3⟩ | ⟨rfl, hJx3⟩)
      · gi_wp2
        go_roundw
        case rel => exact ⟨k + 1, by omega, by rw [HQ.out], hJ3⟩
        case measure => (have hh := HlZ.out; simp [RowKit.intOf]; omega)
      · gi_wp2
        refine bodyPost_ret (results_none rfl _ _ _) rfl ?_
        exact ⟨⟨_, rfl⟩, .inr ⟨k, hlt, hJx3⟩⟩
    · obtain rfl : k = N := by omega
      have dge : ¬ ((posP T k : Nat) : Int) < (T.length : Int) := by omega
      clear hB hKn
      gi_wp2
      go_end0
      exact ⟨⟨_, rfl⟩, .inl hJ⟩

end Go.Proofs.Ytehflaenehehhaa
