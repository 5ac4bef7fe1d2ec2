/- A span behind edits: text.Moved. -/
import Derived.Test.YthhpfdjcggfhaaaDoorTMov
import Derived.Deep.DeepMust
import Derived.Deep.CutRange
import Derived.Deep.RegionWith
namespace Go.Proofs.YthhpfdjcggfhaaaDoor
set_option linter.unusedVariables false
set_option linter.unusedSimpArgs false
set_option maxRecDepth 100000
open Go Go.RowKit Go.Shelf Go.Lib

/-- A span behind one edit, behind all. -/
def mvStep (x : Ed) (s : Int × Int) : Option (Int × Int) :=
  if putsB x s.1 s.2 then some s else if x.2.1 ≤ s.1 then some (wrap64 (s.1 + growL x), wrap64 (s.2 + growL x)) else if s.2 ≤ x.1 then some s else none
def mvL : List Ed → Int × Int → Option (Int × Int)
  | [], s => some s
  | x :: l, s => match mvStep x s with
    | some s' => mvL l s'
    | none => none
theorem mvL_step {L : List Ed} {j : Nat} {x : Ed} (h : L[j]? = some x) {s s' : Int × Int} (hs : mvStep x s = some s') : mvL (L.drop j) s = mvL (L.drop (j + 1)) s' := by
  rw [List.drop_eq_getElem?_toList_append, h]
  simp [mvL, hs]
theorem mvL_stop {L : List Ed} {j : Nat} {x : Ed} (h : L[j]? = some x) {s : Int × Int} (hs : mvStep x s = none) : mvL (L.drop j) s = none := by
  rw [List.drop_eq_getElem?_toList_append, h]
  simp [mvL, hs]
/-- What Moved answers. -/
def mvV (r : Option (Int × Int)) : Value := match r with
  | some s => .tuple #[.agg #[.int .i64 s.1, .int .i64 s.2], .bool true]
  | none => .tuple #[.agg #[.int .i64 0, .int .i64 0], .bool false]

/-- A slice of edits: it holds these. -/
def EdsIn (W : World) (v : Value) (L : List Ed) : Prop := ∃ ao cap, v = .slice ao L.length cap ∧ L.length ≤ cap ∧ ∀ j x, L[j]? = some x → ∃ b off, ao = some ⟨b, off, none⟩ ∧ W.cell? ⟨b, off + j * 3, none⟩ = some (.int .i64 x.1) ∧ W.cell? ⟨b, off + j * 3 + 1, none⟩ = some (.int .i64 x.2.1) ∧ W.cell? ⟨b, off + j * 3 + 2, none⟩ = some (.int .i64 x.2.2)
theorem EdsIn.below {W W' : World} {v : Value} {L : List Ed} (h : EdsIn W v L) (hb : Below W.heap.size W W') : EdsIn W' v L := by
  obtain ⟨ao, cap, h1, h2, h3⟩ := h
  refine ⟨ao, cap, h1, h2, fun j s hj => ?_⟩
  obtain ⟨b, off, e, c0, c1, c2⟩ := h3 j s hj
  exact ⟨b, off, e, (hb.cell (p := ⟨b, off + j * 3, none⟩) (block_lt c0)).trans c0, (hb.cell (p := ⟨b, off + j * 3 + 1, none⟩) (block_lt c1)).trans c1, (hb.cell (p := ⟨b, off + j * 3 + 2, none⟩) (block_lt c2)).trans c2⟩

theorem results_span {fn : Func} {i k : Tmp} (h : fn.results = #[.cell i 56, .tmp k]) {tmps : Array Value} {W : World} {b : Nat} {x y : Value} {t : TypeId} {ev : Value} (hp : tmps.getD i undef = .pointer (some ⟨b, 0, none⟩)) (he : tmps.getD k undef = ev) (T : BoxC W b t #[x, y]) :
    (results fn tmps).run Tryd.prog W = .ok (.tuple #[.agg #[x, y], ev]) W := by
  have c0 : W.cell? ⟨b, 0, none⟩ = some x := T.cell 0
  have c1 : W.cell? ⟨b, 1, none⟩ = some y := T.cell 1
  have hp' : tmps[i]?.getD undef = .pointer (some ⟨b, 0, none⟩) := by simpa using hp
  have he' : tmps[k]?.getD undef = ev := by simpa using he
  simp [results, h, hp', he', go_sem, c0, c1]

theorem wrap_i64 (x : Int) : IntKind.i64.wrap x = wrap64 x := by
  simp [IntKind.wrap, IntKind.signed, IntKind.bits, wrap64]
  split <;> omega
theorem growth_from {W w : World} (h : Below W.heap.size W w) (a b z : Int) :
    Calls Tryd.prog 42 #[.agg #[.int .i64 a, .int .i64 b, .int .i64 z]] w fun e w' => e = .returned (.int .i64 (growL (a, b, z))) ∧ Below W.heap.size W w' :=
  (growth_calls w a b z).mono fun e w' k => ⟨k.1, bafter h k.2 (Nat.le_refl _)⟩

set_option maxHeartbeats 4000000 in
theorem moved_calls (w : World) (f0 t0 : Int) (v : Value) (L : List Ed) (h : EdsIn w v L) (hL : L.length ≤ 100000) :
    Calls Tryd.prog 23 #[.agg #[.int .i64 f0, .int .i64 t0], v] w fun e w' => e = .returned (mvV (mvL L (f0, t0))) ∧ Below w.heap.size w w' := by
  obtain ⟨ao, cap, rfl, hcap, hs⟩ := h
  have HS := hide hs
  clear hs
  generalize hLn : L.length = Ln at *
  have HLN := hide hLn
  clear hLn
  have hB0 := hide ((bel w (.cells #[.int .i64 f0, .int .i64 t0] 56)).alloc (by simp) (.cells #[.int .i64 0, .int .i64 0] 56))
  have b1 := hide ((BoxC.new w 56 #[.int .i64 f0, .int .i64 t0]).alloc (.cells #[.int .i64 0, .int .i64 0] 56))
  have b2 := BoxC.new (w.alloc (.cells #[.int .i64 f0, .int .i64 t0] 56)) 56 #[.int .i64 0, .int .i64 0]
  simp only [World.size_alloc] at b2
  have B2 := hide b2
  clear b2
  go_enter Tryd.func23, Tryd.ntmps23
  go_wp2
  go_loopw [10] (fun iv wr => ∃ (k : Nat) (f t : Int), k ≤ Ln ∧ iv = .int .i64 (k : Int) ∧ BoxC wr w.heap.size 56 #[.int .i64 f, .int .i64 t] ∧ BoxC wr (w.heap.size + 1) 56 #[.int .i64 0, .int .i64 0] ∧ mvL L (f0, t0) = mvL (L.drop k) (f, t) ∧ Below w.heap.size w wr) (fun iv _ => Ln - (RowKit.intOf iv).toNat)
  case atStart => exact ⟨0, f0, t0, by omega, rfl, b1.out, B2.out, rfl, hB0.out⟩
  case round =>
    obtain ⟨k, f, t, hk, rfl, x1, x2, he, hb⟩ := hrel
    clear b1 B2 hB0
    have HE := hide he
    have HB := hide hb
    have X1 := hide x1
    have X2 := hide x2
    by_cases hlt : k < Ln
    · obtain ⟨⟨a, b, z⟩, hx⟩ : ∃ x, L[k]? = some x := ⟨_, List.getElem?_eq_getElem (by rw [HLN.out]; exact hlt)⟩
      obtain ⟨eb, eo, rfl, c0, c1, c2⟩ := HS.out k _ hx
      have c0' : wr.cell? ⟨eb, eo + k * 3, none⟩ = some (.int .i64 a) := (hb.cell (p := ⟨eb, eo + k * 3, none⟩) (block_lt c0)).trans c0
      have c1' : wr.cell? ⟨eb, eo + k * 3 + 1, none⟩ = some (.int .i64 b) := (hb.cell (p := ⟨eb, eo + k * 3 + 1, none⟩) (block_lt c1)).trans c1
      have c2' : wr.cell? ⟨eb, eo + k * 3 + 2, none⟩ = some (.int .i64 z) := (hb.cell (p := ⟨eb, eo + k * 3 + 2, none⟩) (block_lt c2)).trans c2
      have HX := hide hx
      have d1 : (k : Int) < (Ln : Int) := by omega
      have d0 : (0 : Int) ≤ (k : Int) := by omega
      have s0 : wr.cell? ⟨w.heap.size, 0, none⟩ = some (.int .i64 f) := x1.cell 0
      have s1 : wr.cell? ⟨w.heap.size, 1, none⟩ = some (.int .i64 t) := x1.cell 1
      have l1 : w.heap.size < wr.heap.size := x1.lt
      have l2 : w.heap.size + 1 < wr.heap.size := x2.lt
      have le : eb < wr.heap.size := block_lt c0'
      have y1 := hide (x1.alloc (.cells #[.int .i64 a, .int .i64 b, .int .i64 z] 66))
      have y2 := hide (x2.alloc (.cells #[.int .i64 a, .int .i64 b, .int .i64 z] 66))
      have y3 := hide (BoxC.new wr 66 #[.int .i64 a, .int .i64 b, .int .i64 z])
      have yb := hide (hb.alloc hb.size (.cells #[.int .i64 a, .int .i64 b, .int .i64 z] 66))
      clear c0 c1 c2 hx x1 x2 he hb
      go_wp2_with fail
      obtain ⟨W1, hW1⟩ : ∃ W1, wr.alloc (.cells #[.int .i64 a, .int .i64 b, .int .i64 z] 66) = W1 := ⟨_, rfl⟩
      have lw : W1.heap.size = wr.heap.size + 1 := by rw [← hW1]; simp
      rw [hW1] at y1 y2 y3 yb ⊢
      clear hW1 s0 s1 c0' c1' c2'
      refine (putsAt_calls W1 a b z f t).mono ?_
      rintro e w2 ⟨rfl, hb2⟩
      have z1 := y1.out.below hb2
      have z2 := y2.out.below hb2
      have z3 := y3.out.below hb2
      have zb := bafter yb.out hb2 (by omega)
      have s0 : w2.cell? ⟨w.heap.size, 0, none⟩ = some (.int .i64 f) := z1.cell 0
      have s1 : w2.cell? ⟨w.heap.size, 1, none⟩ = some (.int .i64 t) := z1.cell 1
      have e0 : w2.cell? ⟨wr.heap.size, 0, none⟩ = some (.int .i64 a) := z3.cell 0
      have e1 : w2.cell? ⟨wr.heap.size, 1, none⟩ = some (.int .i64 b) := z3.cell 1
      have e2 : w2.cell? ⟨wr.heap.size, 2, none⟩ = some (.int .i64 z) := z3.cell 2
      have l3 : wr.heap.size < w2.heap.size := z3.lt
      have l4 : w.heap.size + 1 < w2.heap.size := z2.lt
      have Z1 := hide z1
      have Z2 := hide z2
      have Z3 := hide z3
      have ZB := hide zb
      clear y1 y2 y3 yb lw hb2 z1 z2 z3 zb X1 X2 HB
      cases hp : putsB (a, b, z) f t with
      | true =>
        have G : Hid (mvStep (a, b, z) (f, t) = some (f, t)) := by show _ = _; unfold mvStep; rw [if_pos hp]
        clear hp
        go_wp2
        go_roundw
        case rel => exact ⟨k + 1, f, t, by omega, by go_num, Z1.out, Z2.out, HE.out.trans (mvL_step HX.out G.out), ZB.out⟩
        case measure => simp [RowKit.intOf]; omega
      | false =>
        by_cases h1 : b ≤ f
        · have G : Hid (mvStep (a, b, z) (f, t) = some (wrap64 (f + growL (a, b, z)), wrap64 (t + growL (a, b, z)))) := by show _ = _; unfold mvStep; rw [if_neg (by simp [hp]), if_pos h1]
          clear hp
          generalize hg : growL (a, b, z) = G0 at *
          have HG0 := hide hg
          clear hg
          go_upto_region 7 with fail
          go_cut [10] from 25 to 30 (fun s10 wx => s10 = .int .i64 (k : Int) ∧ BoxC wx w.heap.size 56 #[.int .i64 (wrap64 (f + G0)), .int .i64 t] ∧ BoxC wx (w.heap.size + 1) 56 #[.int .i64 0, .int .i64 0] ∧ BoxC wx wr.heap.size 66 #[.int .i64 a, .int .i64 b, .int .i64 z] ∧ Below w.heap.size w wx)
          case first =>
            have g0 := Z1.out.frozen 0
            have HZ := Z3.out
            go_region_with (go_at_call 42; go_must (refine (growth_from (W := w2) ?_ a b z).mono ?_; (first | exact Below.refl _ _ | exact (Below.refl _ _).drew | exact (Below.refl _ _).drew.drew); rintro e w3 ⟨rfl, hb3⟩; rw [HG0.out]; have r1 := Z1.out.below hb3; have r0 : w3.cell? ⟨w.heap.size, 0, none⟩ = some (.int .i64 f) := r1.cell 0; have rf := r1.frozen 0))
            all_goals
              have R1 := hide (Z1.out.below hb3)
              have R2 := hide (Z2.out.below hb3)
              have R3 := hide (Z3.out.below hb3)
              have RB := hide (bafter ZB.out hb3 (by omega))
              have ne1 : w.heap.size + 1 ≠ w.heap.size := by omega
              have ne2 : wr.heap.size ≠ w.heap.size := by omega
              go_wp2_with fail
              go_meet
              exact ⟨rfl, by have hs := R1.out.set 0 (.int .i64 (wrap64 (f + G0))); rw [← wrap_i64] at hs ⊢; exact hs, R2.out.other ne1 0 _, R3.out.other ne2 0 _, RB.out.setCell (p := ⟨w.heap.size, 0, none⟩) (Nat.le_refl _) _⟩
          case rest =>
            obtain ⟨rfl, z1, z2, z3, zb⟩ := hcut
            have s0 : wc.cell? ⟨w.heap.size, 0, none⟩ = some (.int .i64 (wrap64 (f + G0))) := z1.cell 0
            have s1 : wc.cell? ⟨w.heap.size, 1, none⟩ = some (.int .i64 t) := z1.cell 1
            have e0 : wc.cell? ⟨wr.heap.size, 0, none⟩ = some (.int .i64 a) := z3.cell 0
            have e1 : wc.cell? ⟨wr.heap.size, 1, none⟩ = some (.int .i64 b) := z3.cell 1
            have e2 : wc.cell? ⟨wr.heap.size, 2, none⟩ = some (.int .i64 z) := z3.cell 2
            have l3 : wr.heap.size < wc.heap.size := z3.lt
            have l4 : w.heap.size + 1 < wc.heap.size := z2.lt
            have l5 : w.heap.size < wc.heap.size := z1.lt
            clear Z1 Z2 Z3 ZB
            have Z1 := hide z1
            have Z2 := hide z2
            have Z3 := hide z3
            have ZB := hide zb
            clear z1 z2 z3 zb
            go_upto_region 8 with fail
            have g0 := Z1.out.frozen 1
            go_region_with (go_at_call 42; go_must (refine (growth_from (W := wc) ?_ a b z).mono ?_; (first | exact Below.refl _ _ | exact (Below.refl _ _).drew | exact (Below.refl _ _).drew.drew); rintro e w3 ⟨rfl, hb3⟩; rw [HG0.out]; have r1 := Z1.out.below hb3; have r0 : w3.cell? ⟨w.heap.size, 1, none⟩ = some (.int .i64 t) := r1.cell 1; have rf := r1.frozen 1))
            all_goals
              have R1 := hide (Z1.out.below hb3)
              have R2 := hide (Z2.out.below hb3)
              have RB := hide (bafter ZB.out hb3 (by omega))
              have ne1 : w.heap.size + 1 ≠ w.heap.size := by omega
              clear Z1 Z2 Z3 ZB
              go_wp2
              go_roundw
              case rel =>
                refine ⟨k + 1, wrap64 (f + G0), wrap64 (t + G0), by omega, by go_num, ?_, R2.out.other ne1 1 _, HE.out.trans (mvL_step HX.out G.out), RB.out.setCell (p := ⟨w.heap.size, 1, none⟩) (Nat.le_refl _) _⟩
                have hs := R1.out.set 1 (.int .i64 (wrap64 (t + G0)))
                first
                  | exact hs
                  | (rw [← wrap_i64 (t + G0)] at hs ⊢; exact hs)
              case measure => simp [RowKit.intOf]; omega
        · have h1' : f < b := by omega
          by_cases h2 : t ≤ a
          · have G : Hid (mvStep (a, b, z) (f, t) = some (f, t)) := by show _ = _; unfold mvStep; rw [if_neg (by simp [hp]), if_neg h1, if_pos h2]
            clear hp
            go_wp2
            go_roundw
            case rel => exact ⟨k + 1, f, t, by omega, by go_num, Z1.out, Z2.out, HE.out.trans (mvL_step HX.out G.out), ZB.out⟩
            case measure => simp [RowKit.intOf]; omega
          · have G : Hid (mvStep (a, b, z) (f, t) = none) := by show _ = _; unfold mvStep; rw [if_neg (by simp [hp]), if_neg h1, if_neg h2]
            have h2' : a < t := by omega
            clear hp
            have q0 : w2.cell? ⟨w.heap.size + 1, 0, none⟩ = some (.int .i64 0) := Z2.out.cell 0
            have q1 : w2.cell? ⟨w.heap.size + 1, 1, none⟩ = some (.int .i64 0) := Z2.out.cell 1
            have q2 := Z2.out.frozen 0
            have q3 := Z2.out.frozen 1
            go_wp2
            refine bodyPost_ret (results_span rfl rfl rfl ((Z2.out.set 0 _).set 1 _)) rfl ?_
            refine ⟨?_, (ZB.out.setCell (p := ⟨w.heap.size + 1, 0, none⟩) (by simp) _).setCell (p := ⟨w.heap.size + 1, 1, none⟩) (by simp) _⟩
            rw [HE.out.trans (mvL_stop HX.out G.out)]
            rfl
    · have ek : k = Ln := by omega
      subst ek
      have s0 : wr.cell? ⟨w.heap.size, 0, none⟩ = some (.int .i64 f) := x1.cell 0
      have s1 : wr.cell? ⟨w.heap.size, 1, none⟩ = some (.int .i64 t) := x1.cell 1
      have q0 : wr.cell? ⟨w.heap.size + 1, 0, none⟩ = some (.int .i64 0) := x2.cell 0
      have q1 : wr.cell? ⟨w.heap.size + 1, 1, none⟩ = some (.int .i64 0) := x2.cell 1
      have q2 := x2.frozen 0
      have q3 := x2.frozen 1
      have l1 : w.heap.size < wr.heap.size := x1.lt
      have l2 : w.heap.size + 1 < wr.heap.size := x2.lt
      clear x1 x2 he hb
      go_wp2
      refine bodyPost_ret (results_span rfl rfl rfl ((X2.out.set 0 _).set 1 _)) rfl ?_
      refine ⟨?_, (HB.out.setCell (p := ⟨w.heap.size + 1, 0, none⟩) (by simp) _).setCell (p := ⟨w.heap.size + 1, 1, none⟩) (by simp) _⟩
      rw [HE.out, ← HLN.out, List.drop_length]
      rfl

end Go.Proofs.YthhpfdjcggfhaaaDoor
