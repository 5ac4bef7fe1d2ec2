/- The law LexCovers, of no bytes, walked. -/
import Derived.Test.YtehflaenehehhaaLexCoversW
namespace Go.Proofs.Ytehflaenehehhaa
set_option linter.unusedVariables false
set_option linter.unusedSimpArgs false
set_option maxRecDepth 100000
open Go Go.RowKit Go.Shelf Go.Lib


set_option maxHeartbeats 8000000 in
theorem lexcovers_nil (w : World) (ao : Option Addr) (cap : Nat) (hao : ao = none → cap = 0) :
    Calls Try.prog 6 #[.slice ao 0 cap] w fun e w' => e = .returned (.bool true) ∧ Below w.heap.size w w' := by
  go_enter Try.func6, Try.ntmps6
  go_wp2_with fail
  refine (parted_calls w).mono ?_
  rintro e W1 ⟨rfl, hb1⟩
  have K1 := hide hb1
  clear hb1
  go_wp2_with fail
  refine (tokens_calls W1 ao cap [] 0 (byts_empty _ _ _) (fun k hk => by omega) rfl (by decide) (Nat.zero_le _)).mono ?_
  rintro e W2 ⟨v, a, er, rfl, hT, hb2⟩
  have K2 := hide (bafter K1.out hb2 (Nat.le_refl _))
  clear hb2 K1
  rcases hT.two with ⟨k, hk, _⟩ | ⟨hf, rfl, rfl, hI⟩
  · omega
  · clear hT
    have HI : Hid (ToksIn W2 v [] [(0, 0, 0)]) := hI
    clear hI hf
    go_wp2_with fail
    refine (rmarks_calls W2 ao cap [] (byts_empty _ _ _) (by decide) (Nat.zero_le _)).mono ?_
    rintro e W3 ⟨rv, rfl, ⟨mb, mc, rfl, hmc, hmk⟩, hb3⟩
    have K3 := hide (bafter K2.out hb3 (Nat.le_refl _))
    obtain ⟨ao1, c1, rfl, hc1, hcs1⟩ := HI.out.below hb3
    obtain ⟨b1, rfl, x0, x1, x2, x3⟩ := hcs1 0 (0, 0, 0) rfl
    have HX : Hid (W3.cell? ⟨b1, 0, none⟩ = some (.int .i64 0) ∧ W3.cell? ⟨b1, 1, none⟩ = some (.string (strOf [])) ∧ W3.cell? ⟨b1, 2, none⟩ = some (.int .i64 0) ∧ W3.cell? ⟨b1, 3, none⟩ = some (.int .i64 0)) := ⟨x0, x1, x2, x3⟩
    clear hmk hb3 hcs1 HI x0 x1 x2 x3 hmc
    simp only [List.length_nil, List.length_cons, Nat.zero_add] at hc1 ⊢
    go_wp2
    go_loopw [7, 8] (fun ev i wr => ev = .int .i64 0 ∧ (∃ j : Nat, j ≤ 1 ∧ i = .int .i64 (j : Int)) ∧ Below W3.heap.size W3 wr) (fun _ i _ => 1 - (RowKit.intOf i).toNat)
    case atStart => exact ⟨rfl, ⟨0, by omega, rfl⟩, Below.refl _ _⟩
    case round =>
      obtain ⟨rfl, ⟨j, hj, rfl⟩, hB⟩ := hrel
      obtain ⟨x0, x1, x2, x3⟩ := HX.out
      replace x0 : wr.cell? ⟨b1, 0, none⟩ = _ := (hB.cell (p := ⟨b1, 0, none⟩) (block_lt x0)).trans x0
      replace x1 : wr.cell? ⟨b1, 1, none⟩ = _ := (hB.cell (p := ⟨b1, 1, none⟩) (block_lt x1)).trans x1
      replace x2 : wr.cell? ⟨b1, 2, none⟩ = _ := (hB.cell (p := ⟨b1, 2, none⟩) (block_lt x2)).trans x2
      replace x3 : wr.cell? ⟨b1, 3, none⟩ = _ := (hB.cell (p := ⟨b1, 3, none⟩) (block_lt x3)).trans x3
      have HB := hide hB
      clear HX
      rcases (by omega : j = 0 ∨ j = 1) with rfl | rfl
      · have kA := bel wr (.cells #[.int .i64 0, .int .i64 0] 32)
        have hx1 : (wr.alloc (.cells #[.int .i64 0, .int .i64 0] 32)).cell? ⟨b1, 1, none⟩ = some (.string (strOf [])) := (kA.cell (p := ⟨b1, 1, none⟩) (block_lt x1)).trans x1
        have hy0 : (wr.alloc (.cells #[.int .i64 0, .int .i64 0] 32)).cell? ⟨wr.heap.size, 0, none⟩ = some (.int .i64 0) := World.cell?_alloc_mark wr #[.int .i64 0, .int .i64 0] 32 (0, 0) 0
        have hy1 : (wr.alloc (.cells #[.int .i64 0, .int .i64 0] 32)).cell? ⟨wr.heap.size, 1, none⟩ = some (.int .i64 0) := World.cell?_alloc_mark wr #[.int .i64 0, .int .i64 0] 32 (0, 0) 1
        have HBW := hide (bafter hB kA (Nat.le_refl _))
        have HY := hide (And.intro hx1 (And.intro hy0 hy1))
        clear kA hB x1 hx1 hy0 hy1 HB
        go_wp2
        obtain ⟨hx1, hy0, hy1⟩ := HY.out
        generalize hwo : wr.alloc (.cells #[.int .i64 0, .int .i64 0] 32) = wo at *
        generalize hbx : wr.heap.size = B at *
        clear hwo hbx x0 x2 x3 HY wr
        have hcv : ∀ (a' : Option Addr) (c' n : Nat), (convert 22 9 (.slice a' 0 c')).run Try.prog (wo.drewN n) = .ok (.string (strOf [])) (wo.drewN n) := fun a' c' n => conv_byts (byts_empty _ _ _)
        generalize strOf [] = su at *
        rcases (by cases ao with
          | none => exact .inl ⟨rfl, hao rfl⟩
          | some x => by_cases g : cap = 0
                      · exact .inr (.inl ⟨⟨x, rfl⟩, g⟩)
                      · exact .inr (.inr ⟨⟨x, rfl⟩, by omega⟩) : (ao = none ∧ cap = 0) ∨ ((∃ x, ao = some x) ∧ cap = 0) ∨ ((∃ x, ao = some x) ∧ 0 < cap)) with ⟨rfl, rfl⟩ | ⟨⟨x, rfl⟩, rfl⟩ | ⟨⟨x, rfl⟩, hp⟩
        · clear hao
          skip
          go_quiet (fail)
          rename_i nq
          generalize hqW : wo.drewN nq = wq at *
          have HBQ : Hid (Below W3.heap.size W3 wq) := by rw [← hqW]; exact bdrewN HBW.out _
          have hz0 : wq.cell? ⟨B, 0, none⟩ = some (.int .i64 0) := by rw [← hqW, cell_drewN]; exact hy0
          have hz1 : wq.cell? ⟨B, 1, none⟩ = some (.int .i64 0) := by rw [← hqW, cell_drewN]; exact hy1
          clear hqW hx1 hy0 hy1 hcv HBW wo
          go_wp2
          go_loopw [10] (fun kv wr => kv = .int .i64 0 ∧ wr = wq) (fun kv _ => 0)
          case atStart => exact ⟨rfl, rfl⟩
          case round =>
            obtain ⟨rfl, hwr⟩ := hrel
            rw [hwr]
            clear hwr
            go_wp2
            go_roundw
            case rel => exact ⟨rfl, ⟨1, by omega, rfl⟩, HBQ.out⟩
            case measure => simp [RowKit.intOf]
        · clear hao
          skip
          go_quiet (fail)
          rename_i nq
          generalize hqW : wo.drewN nq = wq at *
          have HBQ : Hid (Below W3.heap.size W3 wq) := by rw [← hqW]; exact bdrewN HBW.out _
          have hz0 : wq.cell? ⟨B, 0, none⟩ = some (.int .i64 0) := by rw [← hqW, cell_drewN]; exact hy0
          have hz1 : wq.cell? ⟨B, 1, none⟩ = some (.int .i64 0) := by rw [← hqW, cell_drewN]; exact hy1
          clear hqW hx1 hy0 hy1 hcv HBW wo
          go_wp2
          go_loopw [10] (fun kv wr => kv = .int .i64 0 ∧ wr = wq) (fun kv _ => 0)
          case atStart => exact ⟨rfl, rfl⟩
          case round =>
            obtain ⟨rfl, hwr⟩ := hrel
            rw [hwr]
            clear hwr
            go_wp2
            go_roundw
            case rel => exact ⟨rfl, ⟨1, by omega, rfl⟩, HBQ.out⟩
            case measure => simp [RowKit.intOf]
        · clear hao
          have hp0 : (0 : Int) ≤ (cap : Int) := by omega
          have hp1 : ¬ cap = 0 := by omega
          go_quiet (fail)
          rename_i nq
          generalize hqW : wo.drewN nq = wq at *
          have HBQ : Hid (Below W3.heap.size W3 wq) := by rw [← hqW]; exact bdrewN HBW.out _
          have hz0 : wq.cell? ⟨B, 0, none⟩ = some (.int .i64 0) := by rw [← hqW, cell_drewN]; exact hy0
          have hz1 : wq.cell? ⟨B, 1, none⟩ = some (.int .i64 0) := by rw [← hqW, cell_drewN]; exact hy1
          clear hqW hx1 hy0 hy1 hcv HBW wo
          go_wp2
          go_loopw [10] (fun kv wr => kv = .int .i64 0 ∧ wr = wq) (fun kv _ => 0)
          case atStart => exact ⟨rfl, rfl⟩
          case round =>
            obtain ⟨rfl, hwr⟩ := hrel
            rw [hwr]
            clear hwr
            go_wp2
            go_roundw
            case rel => exact ⟨rfl, ⟨1, by omega, rfl⟩, HBQ.out⟩
            case measure => simp [RowKit.intOf]
      · go_wp2
        go_ret
        exact ⟨rfl, K3.out.trans (HB.out.mono K3.out.size)⟩

theorem lexcovers_calls (w : World) (ao : Option Addr) (cap : Nat) (T : List Nat) (h : Byts w (.slice ao T.length cap) T) (hcap : T.length ≤ cap) (hao : ao = none → cap = 0) :
    Calls Try.prog 6 #[.slice ao T.length cap] w fun e w' => e = .returned (.bool true) ∧ Below w.heap.size w w' := by
  by_cases hT : T.length = 0
  · obtain rfl : T = [] := List.length_eq_zero_iff.1 hT
    exact lexcovers_nil w ao cap hao
  · obtain ⟨b, off, rfl⟩ : ∃ b off, ao = some ⟨b, off, none⟩ := by
      obtain ⟨_, _, e, _, hcs⟩ := id h
      cases e
      obtain ⟨b, off, e, _⟩ := hcs 0 (by omega)
      exact ⟨b, off, e⟩
    exact lexcovers_some w b off cap T h hcap (by omega)

end Go.Proofs.Ytehflaenehehhaa
