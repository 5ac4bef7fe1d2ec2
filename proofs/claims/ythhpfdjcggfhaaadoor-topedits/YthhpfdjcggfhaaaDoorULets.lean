/- The reference's letters of bytes, gathered in a list; its Valid and Units. -/
import Derived.Test.YthhpfdjcggfhaaaDoorULines
import Derived.Test.YthhpfdjcggfhaaaDoorUOne
namespace Go.Proofs.YthhpfdjcggfhaaaDoor
set_option linter.unusedVariables false
set_option linter.unusedSimpArgs false
open Go Go.RowKit Go.Shelf Go.Lib

theorem infoLet : (Tryd.prog.info? 96).map (fun i => (i.zero, i.size, i.bytes)) = some (some (.agg #[.int .i64 0, .int .i64 0, .int .i64 0]), 3, 24) := by kernel_rfl
theorem three_cells {k : IntKind} {x y z : Int} : ∀ u ∈ [Value.int k x, Value.int k y, Value.int k z], u.oneCell' = true := fun u hu => by
  simp at hu
  rcases hu with rfl | rfl | rfl <;> rfl

/-- The first k letters, as cells. -/
def ltcells (T : List Nat) : Nat → List Value
  | 0 => []
  | k + 1 => ltcells T k ++ [.int .i64 ((posL T k : Nat) : Int), .int .i64 (runeAt T (posL T k)), .int .i64 ((sizeAt T (posL T k) : Nat) : Int)]
theorem ltcells_length (T : List Nat) (k : Nat) : (ltcells T k).length = k * 3 := by
  induction k with
  | zero => rfl
  | succ k ih => unfold ltcells; rw [List.length_append, ih]; simp; omega
theorem ltcells_get (T : List Nat) (k : Nat) : ∀ j, j < k → (ltcells T k)[3 * j]? = some (.int .i64 ((posL T j : Nat) : Int)) ∧ (ltcells T k)[3 * j + 1]? = some (.int .i64 (runeAt T (posL T j))) ∧ (ltcells T k)[3 * j + 2]? = some (.int .i64 ((sizeAt T (posL T j) : Nat) : Int)) := by
  induction k with
  | zero => intro j hj; omega
  | succ k ih =>
    intro j hj
    have hl := ltcells_length T k
    unfold ltcells
    rcases Nat.lt_succ_iff_lt_or_eq.1 hj with h | h
    · obtain ⟨h1, h2, h3⟩ := ih j h
      rw [List.getElem?_append_left (by omega), List.getElem?_append_left (by omega), List.getElem?_append_left (by omega)]
      exact ⟨h1, h2, h3⟩
    · subst h
      rw [List.getElem?_append_right (by omega), List.getElem?_append_right (by omega), List.getElem?_append_right (by omega), hl]
      rw [show 3 * j - j * 3 = 0 by omega, show 3 * j + 1 - j * 3 = 1 by omega, show 3 * j + 2 - j * 3 = 2 by omega]
      exact ⟨rfl, rfl, rfl⟩

/-- A list of letters in memory. -/
def LetsIn (W : World) (v : Value) (T : List Nat) (N : Nat) : Prop := ∃ ao cap, v = .slice ao N cap ∧ ∀ j, j < N → ∃ b, ao = some ⟨b, 0, none⟩ ∧ W.cell? ⟨b, 3 * j, none⟩ = some (.int .i64 ((posL T j : Nat) : Int)) ∧ W.cell? ⟨b, 3 * j + 1, none⟩ = some (.int .i64 (runeAt T (posL T j))) ∧ W.cell? ⟨b, 3 * j + 2, none⟩ = some (.int .i64 ((sizeAt T (posL T j) : Nat) : Int))
theorem LetsIn.below {W W' : World} {v : Value} {T : List Nat} {N : Nat} (h : LetsIn W v T N) (hb : Below W.heap.size W W') : LetsIn W' v T N := by
  obtain ⟨ao, cap, h1, h3⟩ := h
  refine ⟨ao, cap, h1, fun j hj => ?_⟩
  obtain ⟨b, h4, h5, h6, h7⟩ := h3 j hj
  exact ⟨b, h4, (hb.cell (p := ⟨b, 3 * j, none⟩) (block_lt h5)).trans h5, (hb.cell (p := ⟨b, 3 * j + 1, none⟩) (block_lt h6)).trans h6, (hb.cell (p := ⟨b, 3 * j + 2, none⟩) (block_lt h7)).trans h7⟩
def OwnL (n₀ : Nat) (W : World) (v : Value) (T : List Nat) (k : Nat) : Prop := W.ownsRow n₀ 96 3 v k (ltcells T k)
theorem OwnL.lets {n₀ : Nat} {W : World} {v : Value} {T : List Nat} {k : Nat} (h : OwnL n₀ W v T k) : LetsIn W v T k := by
  rcases h.2 with ⟨rfl, h0⟩ | ⟨g, cap, cur, rfl, hg, hh, hn, hm, hc, ht⟩
  · exact ⟨none, 0, by rw [h0], fun j hj => by omega⟩
  · refine ⟨some ⟨g, 0, none⟩, cap, rfl, fun j hj => ⟨g, rfl, ?_⟩⟩
    have hca := World.ownsRow.cellAt (show W.ownsRow n₀ 96 3 (.slice (some ⟨g, 0, none⟩) k cap) k (ltcells T k) from h)
    obtain ⟨h1, h2, h3⟩ := ltcells_get T k j hj
    exact ⟨(hca (3 * j) (by omega)).trans h1, (hca (3 * j + 1) (by omega)).trans h2, (hca (3 * j + 2) (by omega)).trans h3⟩
theorem OwnL.keep {n₀ : Nat} {W W' : World} {v : Value} {T : List Nat} {k : Nat} (h : OwnL n₀ W v T k) (hb : Below W.heap.size W W') : OwnL n₀ W' v T k := ownsRow_keep h hb
theorem OwnL.pushed {n₀ : Nat} {w wr w1 : World} {v v' : Value} {T : List Nat} {k : Nat} {o : Obj} {a r s : Int} (h : OwnL n₀ wr v T k) (hB : Below w.heap.size w wr) (hn : w.heap.size ≤ n₀) (hn2 : n₀ ≤ wr.heap.size)
    (hown : w1.ownsRow n₀ 96 3 v' (k + 1) (ltcells T k ++ [.int .i64 a, .int .i64 r, .int .i64 s])) (hg : (wr.alloc o).grownBy w1 v.ownBlock) (ha : a = ((posL T k : Nat) : Int)) (hr : r = runeAt T (posL T k)) (hs : s = ((sizeAt T (posL T k) : Nat) : Int)) :
    OwnL n₀ w1 v' T (k + 1) ∧ Below w.heap.size w w1 := by
  refine ⟨?_, ?_⟩
  · subst ha hr hs
    exact hown
  · exact (hB.alloc hB.size o).grown hg (by simp; have := hB.size; omega) (fun j hj => by have := (h.lt j hj).1; omega)

theorem rune_none {T : List Nat} {p : Nat} (h : runeAt T p = -1) : sizeAt T p = 1 := by
  unfold runeAt at h
  split at h
  · rename_i hh; exact hh.2
  · omega

set_option maxRecDepth 100000 in
set_option maxHeartbeats 4000000 in
theorem rletters_calls (w : World) (ao : Option Addr) (cap : Nat) (T : List Nat) (N : Nat) (h : Byts w (.slice ao T.length cap) T) (hcap : T.length ≤ cap) (h1 : ∀ k, k < N → posL T k < T.length) (h2 : posL T N = T.length) (hlen : T.length ≤ 1000000000) :
    Calls Tryd.prog 38 #[.slice ao T.length cap] w fun e w' => ∃ rv, e = .returned rv ∧ LetsIn w' rv T N ∧ Below w.heap.size w w' := by
  obtain ⟨i0, hi, hz0, hz1, hz2⟩ := info_parts infoLet
  have H := hide h
  have hsm := h.small
  have hN : N ≤ T.length := by have := posL_ge hsm h1 N (Nat.le_refl _); omega
  clear h
  go_enter Tryd.func38, Tryd.ntmps38
  go_wp2
  go_loopw [3, 4] (fun l i wr => ∃ k : Nat, k ≤ N ∧ i = .int .i64 ((posL T k : Nat) : Int) ∧ OwnL w.heap.size wr l T k ∧ Below w.heap.size w wr) (fun _ i _ => T.length - (RowKit.intOf i).toNat)
  case atStart => exact ⟨0, Nat.zero_le _, rfl, World.ownsRow_nil _ _ _ _, Below.refl _ _⟩
  case round =>
    obtain ⟨k, hk, rfl, hown, hB⟩ := hrel
    by_cases hlt : k < N
    · have hp := h1 k hlt
      have hps : posL T (k + 1) = posL T k + sizeAt T (posL T k) := rfl
      obtain ⟨s1, s2, s3⟩ := size_bounds hsm hp
      obtain ⟨b, off, rfl, _⟩ : ∃ b off, ao = some ⟨b, off, none⟩ ∧ True := by
        obtain ⟨_, _, e, _, hc⟩ := H.out
        cases e
        obtain ⟨b, off, e, _⟩ := hc 0 (by omega)
        exact ⟨b, off, e, trivial⟩
      have HO := hide (rone_calls wr b off cap T (posL T k) (H.out.below hB) hcap hp hlen)
      have Hown := hide hown
      have HB := hide hB
      have Hps := hide hps
      have H1 := hide h1
      have hkN : k ≤ 1000000000 := by omega
      have H2 := hide h2
      have Hsm := hide hsm
      generalize hP : posL T k = P at *
      generalize hS : sizeAt T P = S at *
      generalize hR : runeAt T P = R at *
      have HPP := hide hP
      have HSS := hide hS
      have HRR := hide hR
      clear hown hB hps h1 h2 hsm hP hS
      have dlt : (P : Int) < (T.length : Int) := by omega
      go_wp2_with fail
      refine HO.out.mono ?_
      rintro e W2 ⟨r, s, rfl, hcase, hb2⟩
      have HB2 := hide (bafter HB.out hb2 (Nat.le_refl _))
      have Hown2 := hide (Hown.out.keep hb2)
      have hwr : w.heap.size ≤ W2.heap.size := HB2.out.size
      clear hb2 HO Hown HB
      rcases hcase with ⟨hr, rfl, rfl⟩ | ⟨hr, rfl, rfl⟩
      · have hS1 : S = 1 := by rw [← HSS.out]; exact rune_none (by rw [HRR.out]; exact hr)
        have HSS1 := hide hS1
        have HR := hide hr
        clear hr hR hS1
        go_wp2_with (at_builtin; go_must (refine wpList_append_own _ rfl (.tmp 19) (.tmp 22) 92 rfl w.heap.size 96 i0 (.agg #[.int .i64 0, .int .i64 0, .int .i64 0]) 3 24 Tryd.underlying92 hi hz0 hz1 hz2 rfl (by decide) _ k (ltcells T k) rfl (by exact World.ownsRow.alloc Hown2.out _) ⟨W2.heap.size, 0, none⟩ 1 1 [.int .i64 (P : Int), .int .i64 (-1), .int .i64 1] rfl rfl (by exact World.news_of_block (World.alloc_heap_new _ _)) three_cells (by unfold maxLen; omega) (by omega) (by simp; omega) ?_; intro v' w1 hown' hgrow hnil))
        have hp2 := OwnL.pushed Hown2.out HB2.out (Nat.le_refl _) HB2.out.size hown' hgrow (by rw [HPP.out]) (by rw [HPP.out, HRR.out, HR.out]) (by rw [HPP.out, HSS.out, HSS1.out]; rfl)
        go_roundw
        case rel => exact ⟨k + 1, by omega, by rw [Hps.out, HSS1.out]; go_num, hp2.1, hp2.2⟩
        case measure => simp [RowKit.intOf]; omega
      · have HR := hide hr
        have hS0 : ((S : Int) == 0) = false := beq_eq_false_iff_ne.2 (by omega)
        obtain ⟨Z, hZ⟩ : ∃ Z, P + S = Z := ⟨_, rfl⟩
        have hZ' : (P : Int) + (S : Int) = (Z : Int) := by omega
        have HZ := hide hZ
        clear hr hR hZ
        go_wp2_with (at_builtin; go_must (refine wpList_append_own _ rfl (.tmp 26) (.tmp 31) 92 rfl w.heap.size 96 i0 (.agg #[.int .i64 0, .int .i64 0, .int .i64 0]) 3 24 Tryd.underlying92 hi hz0 hz1 hz2 rfl (by decide) _ k (ltcells T k) rfl (by exact World.ownsRow.alloc Hown2.out _) ⟨W2.heap.size, 0, none⟩ 1 1 [.int .i64 (P : Int), .int .i64 r, .int .i64 (S : Int)] rfl rfl (by exact World.news_of_block (World.alloc_heap_new _ _)) three_cells (by unfold maxLen; omega) (by omega) (by simp; omega) ?_; intro v' w1 hown' hgrow hnil))
        have hp2 := OwnL.pushed Hown2.out HB2.out (Nat.le_refl _) HB2.out.size hown' hgrow (by rw [HPP.out]) (by rw [HPP.out, HRR.out]) (by rw [HPP.out, HSS.out])
        go_roundw
        case rel => exact ⟨k + 1, by omega, by rw [Hps.out, HZ.out], hp2.1, hp2.2⟩
        case measure => (have := HZ.out; simp [RowKit.intOf]; omega)
    · obtain rfl : k = N := by omega
      have d1 : ¬ ((posL T k : Nat) : Int) < (T.length : Int) := by omega
      have Hown := hide hown
      have HB := hide hB
      clear hown hB h1
      go_wp2
      go_ret
      exact ⟨_, rfl, Hown.out.lets, HB.out⟩

end Go.Proofs.YthhpfdjcggfhaaaDoor
