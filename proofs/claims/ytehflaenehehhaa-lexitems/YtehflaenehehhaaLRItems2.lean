/- The reference's Items, walked; whether two lists of spans are the same. -/
import Derived.Test.YtehflaenehehhaaLRItems
import Derived.Test.YtehflaenehehhaaLRSize
namespace Go.Proofs.Ytehflaenehehhaa
set_option linter.unusedVariables false
set_option linter.unusedSimpArgs false
set_option maxRecDepth 100000
open Go Go.RowKit Go.Shelf Go.Lib

theorem spushed {n₀ : Nat} {W W1 w0 : World} {v v' : Value} {L : List (Nat × Nat)} {s : Nat × Nat} {o : Obj} {LN : Nat} (hLN : L.length = LN) (hown : W.ownsRow n₀ 32 2 v LN (scells L)) (hn : n₀ ≤ W.heap.size)
    (hown' : W1.ownsRow n₀ 32 2 v' (LN + 1) (scells L ++ [.int .i64 (s.1 : Int), .int .i64 (s.2 : Int)])) (hg : (W.alloc o).grownBy W1 v.ownBlock) (hB0 : Below n₀ w0 W) :
    W1.ownsRow n₀ 32 2 v' (L ++ [s]).length (scells (L ++ [s])) ∧ Below n₀ w0 W1 := by
  refine ⟨?_, (hB0.alloc hn o).grown hg (by simp; omega) (fun j hj => by have := (hown.lt j hj).1; omega)⟩
  rw [scells_snoc, List.length_append, hLN]
  exact hown'

set_option maxHeartbeats 8000000 in
theorem ritems_calls (w : World) (ao : Option Addr) (cap : Nat) (T : List Nat) (N : Nat) (h : Byts w (.slice ao T.length cap) T) (h1 : ∀ k, k < N → posP T k < T.length) (h2 : posP T N = T.length) (hlen : T.length ≤ 2000) (hcap : T.length ≤ cap) :
    Calls Try.prog 12 #[.slice ao T.length cap] w fun e w' => ∃ rv, e = .returned rv ∧ SpansIn w' rv (itemsL T N) ∧ Below w.heap.size w w' := by
  obtain ⟨i0, hi, hz0, hz1, hz2⟩ := info_parts infoSpan
  have H := hide h
  have HIT := hide (r_items h.small h1 h2)
  clear h h1 h2
  go_enter Try.func12, Try.ntmps12
  go_wp2_with fail
  refine (rmarks_calls w ao cap T H.out (by omega) hcap).mono ?_
  rintro e w1 ⟨rv, rfl, ⟨mb, mc, rfl, hmc, hmk⟩, hb1⟩
  have HMK := hide hmk
  have HB1 := hide hb1
  have HT1 := hide (H.out.below hb1)
  clear hmk hb1
  go_wp2
  go_loopw [4, 5, 6, 7] (fun l fv sv iv wr => ∃ i : Nat, i ≤ T.length ∧ iv = .int .i64 (i : Int) ∧ fv = .int .i64 ((rF T i : Nat) : Int) ∧ sv = .bool (rB T i) ∧ wr.ownsRow w1.heap.size 32 2 l (rL T i).length (scells (rL T i)) ∧ Below w1.heap.size w1 wr) (fun _ _ _ iv _ => T.length - (RowKit.intOf iv).toNat)
  case atStart => exact ⟨0, Nat.zero_le _, rfl, rfl, rfl, World.ownsRow_nil _ _ _ _, Below.refl _ _⟩
  case round =>
    obtain ⟨i, hi', rfl, rfl, rfl, hown, hB⟩ := hrel
    have hll := rL_le T i
    have hfl := rF_le T i
    have HOWN := hide hown
    have HB := hide hB
    have hn1 : w1.heap.size ≤ wr.heap.size := hB.size
    clear hown hB
    generalize hLN : (rL T i).length = LN at *
    have HLN := hide hLN
    clear hLN
    by_cases hlt : i < T.length
    · obtain ⟨_, _, e, _, hcs⟩ := HT1.out.below HB.out
      cases e
      obtain ⟨b, off, rfl, hc⟩ := hcs i hlt
      have cm : wr.cell? ⟨mb, i, none⟩ = some (.int .i64 (markAt T i)) := (HB.out.cell (p := ⟨mb, i, none⟩) (block_lt (HMK.out i hlt))).trans (HMK.out i hlt)
      have d1 : (i : Int) < (T.length : Int) := by omega
      have d0 : (0 : Int) ≤ (i : Int) := by omega
      clear hcs
      cases hm : markB T i with
      | true =>
        rw [show markAt T i = 1 by unfold markAt; rw [hm]; rfl] at cm
        have G := hide (r_marked hm)
        clear hm
        generalize hF : rF T i = F at *
        generalize hS : rB T i = sb at *
        have HF := hide hF
        have HS := hide hS
        clear hF hS
        go_wp2
        go_roundw
        case rel =>
          obtain ⟨e1, e2, e3⟩ := G.out
          exact ⟨i + 1, by omega, by go_num, by rw [e1], by rw [e2], by rw [e3, HLN.out]; exact HOWN.out, HB.out⟩
        case measure => simp [RowKit.intOf]; omega
      | false =>
        rw [show markAt T i = 0 by unfold markAt; rw [hm]; rfl] at cm
        by_cases hx : nth T i = 59
        · have G := hide (r_cut hm hx)
          rw [hx] at hc
          clear hm hx
          generalize hF : rF T i = F at *
          have HONE : Hid (∀ u ∈ ([.int .i64 ((F : Nat) : Int), .int .i64 (((i + 1 : Nat)) : Int)] : List Value), u.oneCell' = true) := fun u hu => by
            simp at hu
            rcases hu with rfl | rfl <;> rfl
          obtain ⟨j, hj⟩ : ∃ j, i + 1 = j := ⟨_, rfl⟩
          rw [hj] at HONE G
          have hij : (i : Int) + 1 = (j : Int) := by omega
          have HIJ := hide hj
          clear hF hj
          go_wp2_with (at_builtin; go_must (refine wpList_append_own _ rfl (.tmp 26) (.tmp 31) 39 rfl w1.heap.size 32 i0 (.agg #[.int .i64 0, .int .i64 0]) 2 16 Try.underlying39 hi hz0 hz1 hz2 rfl (by decide) _ LN (scells (rL T i)) rfl (by exact World.ownsRow.alloc HOWN.out _) ⟨wr.heap.size, 0, none⟩ 1 1 [.int .i64 ((F : Nat) : Int), .int .i64 ((j : Nat) : Int)] rfl rfl (by exact World.news_of_block (World.alloc_heap_new _ _)) HONE.out (by unfold maxLen; omega) (by omega) (by simp; omega) ?_; intro v' w2 hown' hgrow hnil))
          have hp2 := spushed (s := (F, j)) HLN.out HOWN.out hn1 hown' hgrow HB.out
          go_roundw
          case rel =>
            obtain ⟨e1, e2, e3⟩ := G.out
            exact ⟨j, by have := HIJ.out; omega, by first | rfl | go_num, by rw [e1], by rw [e2], by rw [e3]; exact hp2.1, hp2.2⟩
          case measure => (have := HIJ.out; simp [RowKit.intOf]; omega)
        · have G := hide (r_token hm hx)
          have dx : (((nth T i : Nat) : Int) == 59) = false := beq_eq_false_iff_ne.2 (by omega)
          clear hm hx
          generalize hF : rF T i = F at *
          have HF := hide hF
          clear hF
          generalize nth T i = x at *
          go_wp2
          go_roundw
          case rel =>
            obtain ⟨e1, e2, e3⟩ := G.out
            exact ⟨i + 1, by omega, by go_num, by rw [e1], by rw [e2], by rw [e3, HLN.out]; exact HOWN.out, HB.out⟩
          case measure => simp [RowKit.intOf]; omega
    · have ei : i = T.length := by omega
      subst ei
      have d1 : ¬ ((T.length : Nat) : Int) < ((T.length : Nat) : Int) := by omega
      cases hs : rB T T.length with
      | true =>
        rw [hs] at HIT
        have HITT : Hid (itemsL T N = rL T T.length ++ [(rF T T.length, T.length)]) := HIT.out
        clear hs HIT
        generalize hF : rF T T.length = F at *
        clear hF
        have HONE : Hid (∀ u ∈ ([.int .i64 ((F : Nat) : Int), .int .i64 ((T.length : Nat) : Int)] : List Value), u.oneCell' = true) := fun u hu => by
          simp at hu
          rcases hu with rfl | rfl <;> rfl
        go_wp2_with (at_builtin; go_must (refine wpList_append_own _ rfl (.tmp 36) (.tmp 41) 39 rfl w1.heap.size 32 i0 (.agg #[.int .i64 0, .int .i64 0]) 2 16 Try.underlying39 hi hz0 hz1 hz2 rfl (by decide) _ LN (scells (rL T T.length)) rfl (by exact World.ownsRow.alloc HOWN.out _) ⟨wr.heap.size, 0, none⟩ 1 1 [.int .i64 ((F : Nat) : Int), .int .i64 ((T.length : Nat) : Int)] rfl rfl (by exact World.news_of_block (World.alloc_heap_new _ _)) HONE.out (by unfold maxLen; omega) (by omega) (by simp; omega) ?_; intro v' w2 hown' hgrow hnil))
        have hp2 := spushed (s := (F, T.length)) HLN.out HOWN.out hn1 hown' hgrow HB.out
        go_ret
        refine ⟨_, rfl, ?_, HB1.out.trans (hp2.2.mono HB1.out.size)⟩
        rw [HITT.out]
        exact spansIn_of hp2.1
      | false =>
        rw [hs] at HIT
        have HITT : Hid (itemsL T N = rL T T.length ++ []) := HIT.out
        clear hs HIT
        generalize hF : rF T T.length = F at *
        clear hF
        go_wp2
        go_ret
        refine ⟨_, rfl, ?_, HB1.out.trans (HB.out.mono HB1.out.size)⟩
        rw [HITT.out, List.append_nil]
        refine spansIn_of (n₀ := w1.heap.size) (e := 32) ?_
        rw [HLN.out]
        exact HOWN.out

set_option maxHeartbeats 4000000 in
theorem samespans_calls (w : World) (u v : Value) (L : List (Nat × Nat)) (hu : SpansIn w u L) (hv : SpansIn w v L) (hL : L.length ≤ 100000) :
    Calls Try.prog 14 #[u, v] w fun e w' => e = .returned (.bool true) ∧ Below w.heap.size w w' := by
  obtain ⟨ao1, c1, rfl, hc1, hs1⟩ := hu
  obtain ⟨ao2, c2, rfl, hc2, hs2⟩ := hv
  have HS1 := hide hs1
  have HS2 := hide hs2
  clear hs1 hs2
  generalize hLn : L.length = Ln at *
  have HLN := hide hLn
  clear hLn
  have hne : ((Ln : Int) != (Ln : Int)) = false := by simp
  go_enter Try.func14, Try.ntmps14
  go_wp2
  go_loopw [5] (fun i wr => ∃ j : Nat, j ≤ Ln ∧ i = .int .i64 (j : Int) ∧ Below w.heap.size w wr) (fun i _ => Ln - (RowKit.intOf i).toNat)
  case atStart => exact ⟨0, Nat.zero_le _, rfl, Below.refl _ _⟩
  case round =>
    obtain ⟨j, hj, rfl, hB⟩ := hrel
    have HB := hide hB
    clear hB
    by_cases hlt : j < Ln
    · obtain ⟨t, ht⟩ : ∃ t, L[j]? = some t := ⟨_, List.getElem?_eq_getElem (by rw [HLN.out]; exact hlt)⟩
      obtain ⟨b1, rfl, x0, x1⟩ := HS1.out j t ht
      obtain ⟨b2, rfl, y0, y1⟩ := HS2.out j t ht
      clear HS1 HS2 ht
      replace x0 : wr.cell? ⟨b1, j * 2, none⟩ = _ := (HB.out.cell (p := ⟨b1, j * 2, none⟩) (block_lt x0)).trans x0
      replace x1 : wr.cell? ⟨b1, j * 2 + 1, none⟩ = _ := (HB.out.cell (p := ⟨b1, j * 2 + 1, none⟩) (block_lt x1)).trans x1
      replace y0 : wr.cell? ⟨b2, j * 2, none⟩ = _ := (HB.out.cell (p := ⟨b2, j * 2, none⟩) (block_lt y0)).trans y0
      replace y1 : wr.cell? ⟨b2, j * 2 + 1, none⟩ = _ := (HB.out.cell (p := ⟨b2, j * 2 + 1, none⟩) (block_lt y1)).trans y1
      have dj : (j : Int) < (Ln : Int) := by omega
      have dj0 : (0 : Int) ≤ (j : Int) := by omega
      generalize ((t.1 : Nat) : Int) = pf at *
      generalize ((t.2 : Nat) : Int) = pt at *
      go_wp2
      go_quiet (fail)
      go_wp2
      go_roundw
      case rel => exact ⟨j + 1, by omega, by go_num, bdrewN HB.out _⟩
      case measure => simp [RowKit.intOf]; omega
    · obtain rfl : j = Ln := by omega
      have dj : ¬ (j : Int) < (j : Int) := by omega
      go_wp2
      go_ret
      exact ⟨rfl, HB.out⟩

end Go.Proofs.Ytehflaenehehhaa
