/- A span behind edits: the reference's Moved. -/
import Derived.Test.YtjkfnplmnoghlaaDoorTMoved
namespace Go.Proofs.YtjkfnplmnoghlaaDoor
set_option linter.unusedVariables false
set_option linter.unusedSimpArgs false
set_option maxRecDepth 100000
open Go Go.RowKit Go.Shelf Go.Lib

theorem puts_no {a b z f t : Int} (hp : ¬ (a = f ∧ b = t ∧ f = t)) : ¬ putsB (a, b, z) f t = true := by
  intro h
  simp [putsB] at h
  exact hp ⟨h.2.1, h.2.2, h.1⟩
theorem mv_move {a b z f t : Int} (hp : ¬ (a = f ∧ b = t ∧ f = t)) (h1 : b ≤ f) : mvStep (a, b, z) (f, t) = some (wrap64 (f + wrap64 (z - wrap64 (b - a))), wrap64 (t + wrap64 (z - wrap64 (b - a)))) := by
  unfold mvStep
  rw [if_neg (puts_no hp), if_pos h1]
  rfl
theorem mv_move0 {a z f t : Int} (hp : ¬ (a = f ∧ a = t ∧ f = t)) (h1 : a ≤ f) : mvStep (a, a, z) (f, t) = some (wrap64 (f + wrap64 z), wrap64 (t + wrap64 z)) := by
  rw [mv_move hp h1]
  have e : z - wrap64 (a - a) = z := by rw [Int.sub_self]; simp [wrap64]
  rw [e]
theorem mv_stay {a b z f t : Int} (hp : ¬ (a = f ∧ b = t ∧ f = t)) (h1 : ¬ b ≤ f) (h2 : t ≤ a) : mvStep (a, b, z) (f, t) = some (f, t) := by
  unfold mvStep
  rw [if_neg (puts_no hp), if_neg h1, if_pos h2]
theorem mv_stop {a b z f t : Int} (hp : ¬ (a = f ∧ b = t ∧ f = t)) (h1 : ¬ b ≤ f) (h2 : ¬ t ≤ a) : mvStep (a, b, z) (f, t) = none := by
  unfold mvStep
  rw [if_neg (puts_no hp), if_neg h1, if_neg h2]

set_option maxHeartbeats 8000000 in
theorem rmoved_calls (w : World) (f0 t0 : Int) (v : Value) (L : List Ed) (h : EdsIn w v L) (hL : L.length ≤ 100000) :
    Calls Tryd.prog 25 #[.agg #[.int .i64 f0, .int .i64 t0], v] w fun e w' => e = .returned (mvV (mvL L (f0, t0))) ∧ Below w.heap.size w w' := by
  obtain ⟨ao, cap, rfl, hcap, hs⟩ := h
  have HS := hide hs
  clear hs
  generalize hLn : L.length = Ln at *
  have HLN := hide hLn
  clear hLn
  have hB0 := hide ((bel w (.cells #[.int .i64 f0, .int .i64 t0] 59)).alloc (by simp) (.cells #[.int .i64 0, .int .i64 0] 59))
  have b1 := hide ((BoxC.new w 59 #[.int .i64 f0, .int .i64 t0]).alloc (.cells #[.int .i64 0, .int .i64 0] 59))
  have b2 := BoxC.new (w.alloc (.cells #[.int .i64 f0, .int .i64 t0] 59)) 59 #[.int .i64 0, .int .i64 0]
  simp only [World.size_alloc] at b2
  have B2 := hide b2
  clear b2
  go_enter Tryd.func25, Tryd.ntmps25
  go_wp2
  go_loopw [6] (fun iv wr => ∃ (k : Nat) (f t : Int), k ≤ Ln ∧ iv = .int .i64 (k : Int) ∧ BoxC wr w.heap.size 59 #[.int .i64 f, .int .i64 t] ∧ BoxC wr (w.heap.size + 1) 59 #[.int .i64 0, .int .i64 0] ∧ mvL L (f0, t0) = mvL (L.drop k) (f, t) ∧ Below w.heap.size w wr) (fun iv _ => Ln - (RowKit.intOf iv).toNat)
  case atStart => exact ⟨0, f0, t0, by omega, rfl, b1.out, B2.out, rfl, hB0.out⟩
  case round =>
    obtain ⟨k, f, t, hk, rfl, x1, x2, he, hb⟩ := hrel
    clear b1 B2 hB0
    have HE := hide he
    have HB := hide hb
    have X1 := hide x1
    have X2 := hide x2
    have s0 : wr.cell? ⟨w.heap.size, 0, none⟩ = some (.int .i64 f) := x1.cell 0
    have s1 : wr.cell? ⟨w.heap.size, 1, none⟩ = some (.int .i64 t) := x1.cell 1
    have q0 : wr.cell? ⟨w.heap.size + 1, 0, none⟩ = some (.int .i64 0) := x2.cell 0
    have q1 : wr.cell? ⟨w.heap.size + 1, 1, none⟩ = some (.int .i64 0) := x2.cell 1
    have q2 := x2.frozen 0
    have q3 := x2.frozen 1
    have p2 := x1.frozen 0
    have p3 := x1.frozen 1
    have l1 : w.heap.size < wr.heap.size := x1.lt
    have l2 : w.heap.size + 1 < wr.heap.size := x2.lt
    have l1' : w.heap.size < wr.heap.size + 1 := by omega
    have l2' : w.heap.size + 1 < wr.heap.size + 1 := by omega
    by_cases hlt : k < Ln
    · obtain ⟨⟨a, b, z⟩, hx⟩ : ∃ x, L[k]? = some x := ⟨_, List.getElem?_eq_getElem (by rw [HLN.out]; exact hlt)⟩
      obtain ⟨eb, eo, rfl, c0, c1, c2⟩ := HS.out k _ hx
      have c0' : wr.cell? ⟨eb, eo + k * 3, none⟩ = some (.int .i64 a) := (hb.cell (p := ⟨eb, eo + k * 3, none⟩) (block_lt c0)).trans c0
      have c1' : wr.cell? ⟨eb, eo + k * 3 + 1, none⟩ = some (.int .i64 b) := (hb.cell (p := ⟨eb, eo + k * 3 + 1, none⟩) (block_lt c1)).trans c1
      have c2' : wr.cell? ⟨eb, eo + k * 3 + 2, none⟩ = some (.int .i64 z) := (hb.cell (p := ⟨eb, eo + k * 3 + 2, none⟩) (block_lt c2)).trans c2
      have HX := hide hx
      have d1 : (k : Int) < (Ln : Int) := by omega
      have d0 : (0 : Int) ≤ (k : Int) := by omega
      have le : eb < wr.heap.size := block_lt c0'
      have y1 := hide (x1.alloc (.cells #[.int .i64 a, .int .i64 b, .int .i64 z] 79))
      have y2 := hide (x2.alloc (.cells #[.int .i64 a, .int .i64 b, .int .i64 z] 79))
      have y3 := hide (BoxC.new wr 79 #[.int .i64 a, .int .i64 b, .int .i64 z])
      have yb := hide (hb.alloc hb.size (.cells #[.int .i64 a, .int .i64 b, .int .i64 z] 79))
      clear c0 c1 c2 hx x1 x2 he hb X1 X2 HB HS
      go_upto_region 5 with fail
      obtain ⟨W1, hW1⟩ : ∃ W1, wr.alloc (.cells #[.int .i64 a, .int .i64 b, .int .i64 z] 79) = W1 := ⟨_, rfl⟩
      have lw : W1.heap.size = wr.heap.size + 1 := by rw [← hW1]; simp
      rw [hW1] at y1 y2 y3 yb ⊢
      clear hW1 s0 s1 c0' c1' c2' q0 q1 q2 q3 p2 p3
      have s0 : W1.cell? ⟨w.heap.size, 0, none⟩ = some (.int .i64 f) := y1.out.cell 0
      have s1 : W1.cell? ⟨w.heap.size, 1, none⟩ = some (.int .i64 t) := y1.out.cell 1
      have e0 : W1.cell? ⟨wr.heap.size, 0, none⟩ = some (.int .i64 a) := y3.out.cell 0
      have e1 : W1.cell? ⟨wr.heap.size, 1, none⟩ = some (.int .i64 b) := y3.out.cell 1
      have e2 : W1.cell? ⟨wr.heap.size, 2, none⟩ = some (.int .i64 z) := y3.out.cell 2
      have q0 : W1.cell? ⟨w.heap.size + 1, 0, none⟩ = some (.int .i64 0) := y2.out.cell 0
      have q1 : W1.cell? ⟨w.heap.size + 1, 1, none⟩ = some (.int .i64 0) := y2.out.cell 1
      have q2 := y2.out.frozen 0
      have q3 := y2.out.frozen 1
      have p2 := y1.out.frozen 0
      have p3 := y1.out.frozen 1
      have l3 : wr.heap.size < W1.heap.size := y3.out.lt
      have l4 : w.heap.size + 1 < W1.heap.size := y2.out.lt
      have l5 : w.heap.size < W1.heap.size := y1.out.lt
      have ne1 : w.heap.size + 1 ≠ w.heap.size := by omega
      have ne2 : ¬ wr.heap.size = w.heap.size := by omega
      have ne3 : ¬ w.heap.size = wr.heap.size := by omega
      have Y1 := hide y1.out
      have Y2 := hide y2.out
      have YB := hide yb.out
      clear y1 y2 y3 yb lw
      by_cases h3 : f = t
      · by_cases h4 : a = b
        · by_cases h5 : b = f
          · subst h5
            subst h3
            subst h4
            have G : Hid (mvStep (a, a, z) (a, a) = some (a, a)) := by show _ = _; simp [mvStep, putsB]
            go_wp2
            go_roundw
            case rel => exact ⟨k + 1, _, _, by omega, by go_num, Y1.out, Y2.out, HE.out.trans (mvL_step HX.out G.out), YB.out⟩
            case measure => simp [RowKit.intOf]; omega
          · have hp : ¬ (a = f ∧ b = t ∧ f = t) := by omega
            subst h3
            subst h4
            have h5b : (a == f) = false := by simp [h5]
            by_cases h1 : a ≤ f
            · have G := hide (mv_move0 (z := z) hp h1)
              clear hp
              go_wp2
              go_roundw
              case rel =>
                refine ⟨k + 1, _, _, by omega, by go_num, ?_, (Y2.out.other ne1 0 _).other ne1 1 _, HE.out.trans (mvL_step HX.out G.out), (YB.out.setCell (p := ⟨w.heap.size, 0, none⟩) (Nat.le_refl _) _).setCell (p := ⟨w.heap.size, 1, none⟩) (Nat.le_refl _) _⟩
                exact (Y1.out.set 0 _).set 1 _
              case measure => simp [RowKit.intOf]; omega
            · have h1' : f < a := by omega
              by_cases h2 : f ≤ a
              · have G := hide (mv_stay (z := z) hp h1 h2)
                clear hp
                go_wp2
                go_roundw
                case rel => exact ⟨k + 1, _, _, by omega, by go_num, Y1.out, Y2.out, HE.out.trans (mvL_step HX.out G.out), YB.out⟩
                case measure => simp [RowKit.intOf]; omega
              · exfalso
                omega
        · have hp : ¬ (a = f ∧ b = t ∧ f = t) := by omega
          subst h3
          by_cases h1 : b ≤ f
          · have G := hide (mv_move (a := a) (z := z) hp h1)
            clear hp
            go_wp2
            go_roundw
            case rel =>
              refine ⟨k + 1, _, _, by omega, by go_num, ?_, (Y2.out.other ne1 0 _).other ne1 1 _, HE.out.trans (mvL_step HX.out G.out), (YB.out.setCell (p := ⟨w.heap.size, 0, none⟩) (Nat.le_refl _) _).setCell (p := ⟨w.heap.size, 1, none⟩) (Nat.le_refl _) _⟩
              exact (Y1.out.set 0 _).set 1 _
            case measure => simp [RowKit.intOf]; omega
          · have h1' : f < b := by omega
            by_cases h2 : f ≤ a
            · have G := hide (mv_stay (z := z) hp h1 h2)
              clear hp
              go_wp2
              go_roundw
              case rel => exact ⟨k + 1, _, _, by omega, by go_num, Y1.out, Y2.out, HE.out.trans (mvL_step HX.out G.out), YB.out⟩
              case measure => simp [RowKit.intOf]; omega
            · have h2' : a < f := by omega
              have G := hide (mv_stop (z := z) hp h1 h2)
              clear hp
              go_wp2
              refine bodyPost_ret (results_span rfl rfl rfl ((Y2.out.set 0 _).set 1 _)) rfl ?_
              refine ⟨?_, (YB.out.setCell (p := ⟨w.heap.size + 1, 0, none⟩) (by simp) _).setCell (p := ⟨w.heap.size + 1, 1, none⟩) (by simp) _⟩
              rw [HE.out.trans (mvL_stop HX.out G.out)]
              rfl
      · have hp : ¬ (a = f ∧ b = t ∧ f = t) := by omega
        by_cases h1 : b ≤ f
        · have G := hide (mv_move (a := a) (z := z) hp h1)
          clear hp
          go_wp2
          go_roundw
          case rel =>
            refine ⟨k + 1, _, _, by omega, by go_num, ?_, (Y2.out.other ne1 0 _).other ne1 1 _, HE.out.trans (mvL_step HX.out G.out), (YB.out.setCell (p := ⟨w.heap.size, 0, none⟩) (Nat.le_refl _) _).setCell (p := ⟨w.heap.size, 1, none⟩) (Nat.le_refl _) _⟩
            exact (Y1.out.set 0 _).set 1 _
          case measure => simp [RowKit.intOf]; omega
        · have h1' : f < b := by omega
          by_cases h2 : t ≤ a
          · have G := hide (mv_stay (z := z) hp h1 h2)
            clear hp
            go_wp2
            go_roundw
            case rel => exact ⟨k + 1, _, _, by omega, by go_num, Y1.out, Y2.out, HE.out.trans (mvL_step HX.out G.out), YB.out⟩
            case measure => simp [RowKit.intOf]; omega
          · have h2' : a < t := by omega
            have G := hide (mv_stop (z := z) hp h1 h2)
            clear hp
            go_wp2
            refine bodyPost_ret (results_span rfl rfl rfl ((Y2.out.set 0 _).set 1 _)) rfl ?_
            refine ⟨?_, (YB.out.setCell (p := ⟨w.heap.size + 1, 0, none⟩) (by simp) _).setCell (p := ⟨w.heap.size + 1, 1, none⟩) (by simp) _⟩
            rw [HE.out.trans (mvL_stop HX.out G.out)]
            rfl
    · have ek : k = Ln := by omega
      subst ek
      clear x1 x2 he hb
      go_wp2
      refine bodyPost_ret (results_span rfl rfl rfl ((X2.out.set 0 _).set 1 _)) rfl ?_
      refine ⟨?_, (HB.out.setCell (p := ⟨w.heap.size + 1, 0, none⟩) (by simp) _).setCell (p := ⟨w.heap.size + 1, 1, none⟩) (by simp) _⟩
      rw [HE.out, ← HLN.out, List.drop_length]
      rfl

end Go.Proofs.YtjkfnplmnoghlaaDoor
