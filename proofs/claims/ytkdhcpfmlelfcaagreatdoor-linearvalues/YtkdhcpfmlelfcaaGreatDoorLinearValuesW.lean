/- The law LinearValues, walked. -/
import Derived.Test.YtkdhcpfmlelfcaaGreatDoorLnP3
namespace Go.Proofs.YtkdhcpfmlelfcaaGreatDoor
set_option linter.unusedVariables false
set_option linter.unusedSimpArgs false
set_option maxRecDepth 100000
open Go Go.RowKit Go.Shelf Go.Lib

theorem sub_bnd {x y : Int} {k : Nat} (h : x.natAbs < R ^ k) (g : y.natAbs < R ^ k) : (x - y).natAbs < R ^ (k + 1) := by
  rw [Int.sub_eq_add_neg]
  exact pl_add h (by rw [Int.natAbs_neg]; exact g)
/-- Bindings, with one more ahead. -/
structure NextB (w : World) (pa : Option Addr) (pl pc : Nat) (L : List Pt) : Prop where
  row : RowP w (.slice pa pl pc) L
  good : GoodA w L
  bnd : Bnd 40 (ps L)
  len : L.length ≤ 1000
def ValC (w : World) (an : Bool) (aa : Option Addr) (aL ac : Nat) (ap : Option Addr) (al ak : Nat) (bn : Bool) (ba : Option Addr) (bL bc : Nat) (bp : Option Addr) (bl bk : Nat) (x : Int) (la : Option Addr) (ll lc : Nat) (s3 s4 s5 s6 : Value) (wx : World) : Prop :=
  ∃ b3 b4, s3 = .pointer (some ⟨b3, 0, none⟩) ∧ s4 = .pointer (some ⟨b4, 0, none⟩) ∧ s5 = .int .i64 x ∧ s6 = .slice la ll lc ∧ Thr wx b3 (.bool an) (.slice aa aL ac) (.slice ap al ak) 27 ∧ Thr wx b4 (.bool bn) (.slice ba bL bc) (.slice bp bl bk) 27 ∧ Below w.heap.size w wx
def ValD (w4 : World) (va vb : Int) (s9 s10 : Value) (wx : World) : Prop :=
  ∃ b9 b10 xn xa xL xc yn ya yL yc, s9 = .pointer (some ⟨b9, 0, none⟩) ∧ s10 = .pointer (some ⟨b10, 0, none⟩) ∧ Two wx b9 (.bool xn) (.slice xa xL xc) 24 ∧ Two wx b10 (.bool yn) (.slice ya yL yc) 24 ∧ BRes wx (.agg #[.bool xn, .slice xa xL xc]) va ∧ BRes wx (.agg #[.bool yn, .slice ya yL yc]) vb ∧ Below w4.heap.size w4 wx

set_option maxHeartbeats 16000000 in
theorem lvalues_calls (w : World) (v0 : Value) {an : Bool} {aa : Option Addr} {aL ac : Nat} {ap : Option Addr} {al ak : Nat} {A : List Pt} {bn : Bool} {ba : Option Addr} {bL bc : Nat} {bp : Option Addr} {bl bk : Nat} {B : List Pt} {x : Int} {la : Option Addr} {ll lc : Nat} {L : List Pt}
    (h : CaseI w v0 an aa aL ac ap al ak A bn ba bL bc bp bl bk B x la ll lc L) (htab : TabIs Tryz.prog w "internal/strconv.uint64pow10" .u64 pow10Tab) :
    Calls Tryz.prog 7 #[v0] w fun e w' => e = .returned (.bool true) ∧ Below w.heap.size w w' := by
  obtain ⟨rfl, hA, hB, hx, hL⟩ := h
  have HA := hide hA
  have HB := hide hB
  have HX := hide hx
  have HL := hide hL
  have HTAB := hide htab
  have HBA := hide (bel w (.cells #[.bool an, .slice aa aL ac, .slice ap al ak, .bool bn, .slice ba bL bc, .slice bp bl bk, .int .i64 x, .slice la ll lc] 77))
  have hbx : (w.alloc (.cells #[.bool an, .slice aa aL ac, .slice ap al ak, .bool bn, .slice ba bL bc, .slice bp bl bk, .int .i64 x, .slice la ll lc] 77)).heap[w.heap.size]? = some (.cells #[.bool an, .slice aa aL ac, .slice ap al ak, .bool bn, .slice ba bL bc, .slice bp bl bk, .int .i64 x, .slice la ll lc] 77 (0, 0)) := World.alloc_heap_new w _
  generalize hwA : w.alloc (.cells #[.bool an, .slice aa aL ac, .slice ap al ak, .bool bn, .slice ba bL bc, .slice bp bl bk, .int .i64 x, .slice la ll lc] 77) = wA at *
  have HBX := hide hbx
  have HWA := hide hwA
  have HS1 : Hid (∀ X : World, Below wA.heap.size wA X → X.cell? ⟨w.heap.size, 0, none⟩ = some (.bool an) ∧ X.cell? ⟨w.heap.size, 1, none⟩ = some (.slice aa aL ac) ∧ X.cell? ⟨w.heap.size, 2, none⟩ = some (.slice ap al ak) ∧ X.cell? ⟨w.heap.size, 3, none⟩ = some (.bool bn) ∧ X.cell? ⟨w.heap.size, 4, none⟩ = some (.slice ba bL bc) ∧ X.cell? ⟨w.heap.size, 5, none⟩ = some (.slice bp bl bk) ∧ X.cell? ⟨w.heap.size, 6, none⟩ = some (.int .i64 x) ∧ X.cell? ⟨w.heap.size, 7, none⟩ = some (.slice la ll lc)) := fun X hX => by
    have h1 := (hX.block w.heap.size (Array.getElem?_eq_some_iff.1 hbx).1).trans hbx
    exact ⟨by rw [cell_of_row X _ 0 _ _ _ h1]; rfl, by rw [cell_of_row X _ 1 _ _ _ h1]; rfl, by rw [cell_of_row X _ 2 _ _ _ h1]; rfl, by rw [cell_of_row X _ 3 _ _ _ h1]; rfl, by rw [cell_of_row X _ 4 _ _ _ h1]; rfl, by rw [cell_of_row X _ 5 _ _ _ h1]; rfl, by rw [cell_of_row X _ 6 _ _ _ h1]; rfl, by rw [cell_of_row X _ 7 _ _ _ h1]; rfl⟩
  clear hA hB hx hL htab hwA hbx
  go_enter Tryz.func7, Tryz.ntmps7
  go_upto_region 1 with fail
  rw [HWA.out]
  go_cut [3, 4, 5, 6] from 12 to 19 (fun s3 s4 s5 s6 wx => ValC w an aa aL ac ap al ak bn ba bL bc bp bl bk x la ll lc s3 s4 s5 s6 wx)
  case first =>
    refine wp_region_held_drew (S := fun X : World => X.cell? ⟨w.heap.size, 0, none⟩ = some (.bool an) ∧ X.cell? ⟨w.heap.size, 1, none⟩ = some (.slice aa aL ac) ∧ X.cell? ⟨w.heap.size, 2, none⟩ = some (.slice ap al ak) ∧ X.cell? ⟨w.heap.size, 3, none⟩ = some (.bool bn) ∧ X.cell? ⟨w.heap.size, 4, none⟩ = some (.slice ba bL bc) ∧ X.cell? ⟨w.heap.size, 5, none⟩ = some (.slice bp bl bk) ∧ X.cell? ⟨w.heap.size, 6, none⟩ = some (.int .i64 x) ∧ X.cell? ⟨w.heap.size, 7, none⟩ = some (.slice la ll lc)) (by kernel_rfl) ?_ (fun hHeld => ?_)
    · exact HS1.out _ (by (first | exact (Below.refl _ _).drew | exact Below.refl _ _))
    refine takeD (i := 0) (v := ?v1) (some 12) rfl (by kernel_rfl) (by kernel_rfl) (by kernel_rfl) (fun _ _ _ h => h) (Or.inl ⟨by rfl, ?hy1⟩) (by assumption) (by rfl) ?rest1
    case hy1 => first | (intro w hSw; (try dsimp only at hSw); obtain ⟨q0, q1, q2, q3, q4, q5, q6, q7⟩ := hSw; go_simp; done) | (intro w hSw; (try dsimp only at hSw); obtain ⟨q0, q1, q2, q3, q4, q5, q6, q7⟩ := hSw; go_simp; with_reducible rfl)
    try simp only [Act.put, List.setIfInBounds_toArray, List.set_cons_zero, List.set_cons_succ]
    refine takeD (i := 1) (v := ?v2) (some 13) rfl (by kernel_rfl) (by kernel_rfl) (by kernel_rfl) (fun _ _ _ h => h) (Or.inl ⟨by rfl, ?hy2⟩) (by assumption) (by rfl) ?rest2
    case hy2 => first | (intro w hSw; (try dsimp only at hSw); obtain ⟨q0, q1, q2, q3, q4, q5, q6, q7⟩ := hSw; go_simp; done) | (intro w hSw; (try dsimp only at hSw); obtain ⟨q0, q1, q2, q3, q4, q5, q6, q7⟩ := hSw; go_simp; with_reducible rfl)
    try simp only [Act.put, List.setIfInBounds_toArray, List.set_cons_zero, List.set_cons_succ]
    refine takeD (i := 2) (v := ?v3) (some 14) rfl (by kernel_rfl) (by kernel_rfl) (by kernel_rfl) (fun _ _ _ h => h) (Or.inl ⟨by rfl, ?hy3⟩) (by assumption) (by rfl) ?rest3
    case hy3 => first | (intro w hSw; (try dsimp only at hSw); obtain ⟨q0, q1, q2, q3, q4, q5, q6, q7⟩ := hSw; go_simp; done) | (intro w hSw; (try dsimp only at hSw); obtain ⟨q0, q1, q2, q3, q4, q5, q6, q7⟩ := hSw; go_simp; with_reducible rfl)
    try simp only [Act.put, List.setIfInBounds_toArray, List.set_cons_zero, List.set_cons_succ]
    refine takeD (i := 3) (v := ?v4) (some 15) rfl (by kernel_rfl) (by kernel_rfl) (by kernel_rfl) (fun _ _ _ h => h) (Or.inl ⟨by rfl, ?hy4⟩) (by assumption) (by rfl) ?rest4
    case hy4 => first | (intro w hSw; (try dsimp only at hSw); obtain ⟨q0, q1, q2, q3, q4, q5, q6, q7⟩ := hSw; go_simp; done) | (intro w hSw; (try dsimp only at hSw); obtain ⟨q0, q1, q2, q3, q4, q5, q6, q7⟩ := hSw; go_simp; with_reducible rfl)
    try simp only [Act.put, List.setIfInBounds_toArray, List.set_cons_zero, List.set_cons_succ]
    refine takeD (i := 4) (v := ?v5) (some 16) rfl (by kernel_rfl) (by kernel_rfl) (by kernel_rfl) (fun _ _ _ h => h) (Or.inl ⟨by rfl, ?hy5⟩) (by assumption) (by rfl) ?rest5
    case hy5 => first | (intro w hSw; (try dsimp only at hSw); obtain ⟨q0, q1, q2, q3, q4, q5, q6, q7⟩ := hSw; go_simp; done) | (intro w hSw; (try dsimp only at hSw); obtain ⟨q0, q1, q2, q3, q4, q5, q6, q7⟩ := hSw; go_simp; with_reducible rfl)
    try simp only [Act.put, List.setIfInBounds_toArray, List.set_cons_zero, List.set_cons_succ]
    refine takeD (i := 5) (v := ?v6) (some 17) rfl (by kernel_rfl) (by kernel_rfl) (by kernel_rfl) (fun _ _ _ h => h) (Or.inl ⟨by rfl, ?hy6⟩) (by assumption) (by rfl) ?rest6
    case hy6 => first | (intro w hSw; (try dsimp only at hSw); obtain ⟨q0, q1, q2, q3, q4, q5, q6, q7⟩ := hSw; go_simp; done) | (intro w hSw; (try dsimp only at hSw); obtain ⟨q0, q1, q2, q3, q4, q5, q6, q7⟩ := hSw; go_simp; with_reducible rfl)
    try simp only [Act.put, List.setIfInBounds_toArray, List.set_cons_zero, List.set_cons_succ]
    refine takeD (i := 6) (v := ?v7) (some 18) rfl (by kernel_rfl) (by kernel_rfl) (by kernel_rfl) (fun _ _ _ h => h) (Or.inl ⟨by rfl, ?hy7⟩) (by assumption) (by rfl) ?rest7
    case hy7 => first | (intro w hSw; (try dsimp only at hSw); obtain ⟨q0, q1, q2, q3, q4, q5, q6, q7⟩ := hSw; go_simp; done) | (intro w hSw; (try dsimp only at hSw); obtain ⟨q0, q1, q2, q3, q4, q5, q6, q7⟩ := hSw; go_simp; with_reducible rfl)
    try simp only [Act.put, List.setIfInBounds_toArray, List.set_cons_zero, List.set_cons_succ]
    refine takeD (i := 7) (v := ?v8) (some 19) rfl (by kernel_rfl) (by kernel_rfl) (by kernel_rfl) (fun _ _ _ h => h) (Or.inl ⟨by rfl, ?hy8⟩) (by assumption) (by rfl) ?rest8
    case hy8 => first | (intro w hSw; (try dsimp only at hSw); obtain ⟨q0, q1, q2, q3, q4, q5, q6, q7⟩ := hSw; go_simp; done) | (intro w hSw; (try dsimp only at hSw); obtain ⟨q0, q1, q2, q3, q4, q5, q6, q7⟩ := hSw; go_simp; with_reducible rfl)
    try simp only [Act.put, List.setIfInBounds_toArray, List.set_cons_zero, List.set_cons_succ]
    have bwd : Below wA.heap.size wA wA.drew := (Below.refl _ _).drew
    generalize wA.drew = wd at *
    have BX0 := hide bwd
    clear bwd hHeld
    refine wpAnyH_ready (rs := [8, 9]) (by kernel_rfl) (by simp) ?_
    refine AllReadyH.cons rfl (fun K hK => ?_) (AllReadyH.cons rfl (fun K hK => ?_) AllReadyH.nil)
    · go_simp
      have tn := Thr.new wd (.bool false) (.slice none 0 0) (.slice none 0 0) 27
      have hb := bel wd (.cells #[.bool false, .slice none 0 0, .slice none 0 0] 27)
      have BX1 := hide (bafter BX0.out hb (Nat.le_refl _))
      have LB3 : Hid (wA.heap.size ≤ wd.heap.size) := BX0.out.size
      have TB3_1 := hide tn
      clear tn hb
      generalize wd.heap.size = b3 at *
      generalize wd.alloc (.cells #[.bool false, .slice none 0 0, .slice none 0 0] 27) = x1 at *
      refine hK.out _ _ (HS1.out _ BX1.out) (fun hHeld => ?_)
      clear hK K hHeld
      try simp only [Act.put, List.setIfInBounds_toArray, List.set_cons_zero, List.set_cons_succ]
      refine wpAnyH_ready (rs := [9]) (by kernel_rfl) (by simp) ?_
      refine AllReadyH.cons rfl (fun K hK => ?_) AllReadyH.nil
      go_simp
      have tn := Thr.new x1 (.bool false) (.slice none 0 0) (.slice none 0 0) 27
      have hb := bel x1 (.cells #[.bool false, .slice none 0 0, .slice none 0 0] 27)
      have BX2 := hide (bafter BX1.out hb (Nat.le_refl _))
      have LB4 : Hid (wA.heap.size ≤ x1.heap.size) := BX1.out.size
      have TB4_2 := hide tn
      have TB3_2 := hide (TB3_1.out.keep hb)
      have NE : Hid (b3 ≠ x1.heap.size) := Nat.ne_of_lt TB3_1.out.lt
      clear tn hb
      generalize x1.heap.size = b4 at *
      generalize x1.alloc (.cells #[.bool false, .slice none 0 0, .slice none 0 0] 27) = x2 at *
      refine hK.out _ _ (HS1.out _ BX2.out) (fun hHeld => ?_)
      clear hK K hHeld
      try simp only [Act.put, List.setIfInBounds_toArray, List.set_cons_zero, List.set_cons_succ]
      refine wpAnyH_ready (rs := [10]) (by kernel_rfl) (by simp) ?_
      refine AllReadyH.cons rfl (fun K hK => ?_) AllReadyH.nil
      obtain ⟨z0, z1, z2, f0, f1, f2⟩ := TB3_2.out.every
      go_simp
      have nb : b4 ≠ b3 := by first | exact NE.out | exact NE.out.symm
      have TB3_3 := hide (TB3_2.out.put (.bool an) (.slice aa aL ac) (.slice ap al ak))
      have TB4_3 : Hid (Thr (put3 x2 b3 (.bool an) (.slice aa aL ac) (.slice ap al ak)) b4 _ _ _ _) := (put3_other nb (.bool an) (.slice aa aL ac) (.slice ap al ak)).trans TB4_2.out
      have BX3 := hide (put3_below BX2.out LB3.out (.bool an) (.slice aa aL ac) (.slice ap al ak))
      clear z0 z1 z2 f0 f1 f2 nb
      refine hK.out _ (put3 x2 b3 (.bool an) (.slice aa aL ac) (.slice ap al ak)) (HS1.out _ BX3.out) (fun hHeld => ?_)
      clear hK K hHeld
      generalize put3 x2 b3 (.bool an) (.slice aa aL ac) (.slice ap al ak) = x3 at *
      try simp only [Act.put, List.setIfInBounds_toArray, List.set_cons_zero, List.set_cons_succ]
      refine wpAnyH_ready (rs := [11]) (by kernel_rfl) (by simp) ?_
      refine AllReadyH.cons rfl (fun K hK => ?_) AllReadyH.nil
      obtain ⟨z0, z1, z2, f0, f1, f2⟩ := TB4_3.out.every
      go_simp
      have nb : b3 ≠ b4 := by first | exact NE.out | exact NE.out.symm
      have TB4_4 := hide (TB4_3.out.put (.bool bn) (.slice ba bL bc) (.slice bp bl bk))
      have TB3_4 : Hid (Thr (put3 x3 b4 (.bool bn) (.slice ba bL bc) (.slice bp bl bk)) b3 _ _ _ _) := (put3_other nb (.bool bn) (.slice ba bL bc) (.slice bp bl bk)).trans TB3_3.out
      have BX4 := hide (put3_below BX3.out LB4.out (.bool bn) (.slice ba bL bc) (.slice bp bl bk))
      clear z0 z1 z2 f0 f1 f2 nb
      refine hK.out _ (put3 x3 b4 (.bool bn) (.slice ba bL bc) (.slice bp bl bk)) (HS1.out _ BX4.out) (fun hHeld => ?_)
      clear hK K hHeld
      generalize put3 x3 b4 (.bool bn) (.slice ba bL bc) (.slice bp bl bk) = x4 at *
      try simp only [Act.put, List.setIfInBounds_toArray, List.set_cons_zero, List.set_cons_succ]
      have hHeld := HS1.out _ BX4.out
      refine takeD (i := 12) (v := ?v9) (some 5) rfl (by kernel_rfl) (by kernel_rfl) (by kernel_rfl) (fun _ _ _ h => h) (Or.inl ⟨by rfl, ?hy9⟩) (by assumption) (by rfl) ?rest9
      case hy9 => first | (intro w hSw; (try dsimp only at hSw); obtain ⟨q0, q1, q2, q3, q4, q5, q6, q7⟩ := hSw; go_simp; done) | (intro w hSw; (try dsimp only at hSw); obtain ⟨q0, q1, q2, q3, q4, q5, q6, q7⟩ := hSw; go_simp; with_reducible rfl)
      try simp only [Act.put, List.setIfInBounds_toArray, List.set_cons_zero, List.set_cons_succ]
      refine takeD (i := 13) (v := ?v10) (some 6) rfl (by kernel_rfl) (by kernel_rfl) (by kernel_rfl) (fun _ _ _ h => h) (Or.inl ⟨by rfl, ?hy10⟩) (by assumption) (by rfl) ?rest10
      case hy10 => first | (intro w hSw; (try dsimp only at hSw); obtain ⟨q0, q1, q2, q3, q4, q5, q6, q7⟩ := hSw; go_simp; done) | (intro w hSw; (try dsimp only at hSw); obtain ⟨q0, q1, q2, q3, q4, q5, q6, q7⟩ := hSw; go_simp; with_reducible rfl)
      try simp only [Act.put, List.setIfInBounds_toArray, List.set_cons_zero, List.set_cons_succ]
      clear hHeld
      refine wpAnyH_done (by kernel_rfl) ?_ _
      go_wp2_with fail
      go_meet
      exact ⟨b3, b4, rfl, rfl, rfl, rfl, TB3_4.out, TB4_4.out, bafter HBA.out BX4.out (Nat.le_refl _)⟩
    · go_simp
      have tn := Thr.new wd (.bool false) (.slice none 0 0) (.slice none 0 0) 27
      have hb := bel wd (.cells #[.bool false, .slice none 0 0, .slice none 0 0] 27)
      have BX1 := hide (bafter BX0.out hb (Nat.le_refl _))
      have LB4 : Hid (wA.heap.size ≤ wd.heap.size) := BX0.out.size
      have TB4_1 := hide tn
      clear tn hb
      generalize wd.heap.size = b4 at *
      generalize wd.alloc (.cells #[.bool false, .slice none 0 0, .slice none 0 0] 27) = x1 at *
      refine hK.out _ _ (HS1.out _ BX1.out) (fun hHeld => ?_)
      clear hK K hHeld
      try simp only [Act.put, List.setIfInBounds_toArray, List.set_cons_zero, List.set_cons_succ]
      refine wpAnyH_ready (rs := [8]) (by kernel_rfl) (by simp) ?_
      refine AllReadyH.cons rfl (fun K hK => ?_) AllReadyH.nil
      go_simp
      have tn := Thr.new x1 (.bool false) (.slice none 0 0) (.slice none 0 0) 27
      have hb := bel x1 (.cells #[.bool false, .slice none 0 0, .slice none 0 0] 27)
      have BX2 := hide (bafter BX1.out hb (Nat.le_refl _))
      have LB3 : Hid (wA.heap.size ≤ x1.heap.size) := BX1.out.size
      have TB3_2 := hide tn
      have TB4_2 := hide (TB4_1.out.keep hb)
      have NE : Hid (b4 ≠ x1.heap.size) := Nat.ne_of_lt TB4_1.out.lt
      clear tn hb
      generalize x1.heap.size = b3 at *
      generalize x1.alloc (.cells #[.bool false, .slice none 0 0, .slice none 0 0] 27) = x2 at *
      refine hK.out _ _ (HS1.out _ BX2.out) (fun hHeld => ?_)
      clear hK K hHeld
      try simp only [Act.put, List.setIfInBounds_toArray, List.set_cons_zero, List.set_cons_succ]
      refine wpAnyH_ready (rs := [10]) (by kernel_rfl) (by simp) ?_
      refine AllReadyH.cons rfl (fun K hK => ?_) AllReadyH.nil
      obtain ⟨z0, z1, z2, f0, f1, f2⟩ := TB3_2.out.every
      go_simp
      have nb : b4 ≠ b3 := by first | exact NE.out | exact NE.out.symm
      have TB3_3 := hide (TB3_2.out.put (.bool an) (.slice aa aL ac) (.slice ap al ak))
      have TB4_3 : Hid (Thr (put3 x2 b3 (.bool an) (.slice aa aL ac) (.slice ap al ak)) b4 _ _ _ _) := (put3_other nb (.bool an) (.slice aa aL ac) (.slice ap al ak)).trans TB4_2.out
      have BX3 := hide (put3_below BX2.out LB3.out (.bool an) (.slice aa aL ac) (.slice ap al ak))
      clear z0 z1 z2 f0 f1 f2 nb
      refine hK.out _ (put3 x2 b3 (.bool an) (.slice aa aL ac) (.slice ap al ak)) (HS1.out _ BX3.out) (fun hHeld => ?_)
      clear hK K hHeld
      generalize put3 x2 b3 (.bool an) (.slice aa aL ac) (.slice ap al ak) = x3 at *
      try simp only [Act.put, List.setIfInBounds_toArray, List.set_cons_zero, List.set_cons_succ]
      refine wpAnyH_ready (rs := [11]) (by kernel_rfl) (by simp) ?_
      refine AllReadyH.cons rfl (fun K hK => ?_) AllReadyH.nil
      obtain ⟨z0, z1, z2, f0, f1, f2⟩ := TB4_3.out.every
      go_simp
      have nb : b3 ≠ b4 := by first | exact NE.out | exact NE.out.symm
      have TB4_4 := hide (TB4_3.out.put (.bool bn) (.slice ba bL bc) (.slice bp bl bk))
      have TB3_4 : Hid (Thr (put3 x3 b4 (.bool bn) (.slice ba bL bc) (.slice bp bl bk)) b3 _ _ _ _) := (put3_other nb (.bool bn) (.slice ba bL bc) (.slice bp bl bk)).trans TB3_3.out
      have BX4 := hide (put3_below BX3.out LB4.out (.bool bn) (.slice ba bL bc) (.slice bp bl bk))
      clear z0 z1 z2 f0 f1 f2 nb
      refine hK.out _ (put3 x3 b4 (.bool bn) (.slice ba bL bc) (.slice bp bl bk)) (HS1.out _ BX4.out) (fun hHeld => ?_)
      clear hK K hHeld
      generalize put3 x3 b4 (.bool bn) (.slice ba bL bc) (.slice bp bl bk) = x4 at *
      try simp only [Act.put, List.setIfInBounds_toArray, List.set_cons_zero, List.set_cons_succ]
      have hHeld := HS1.out _ BX4.out
      refine takeD (i := 12) (v := ?v11) (some 5) rfl (by kernel_rfl) (by kernel_rfl) (by kernel_rfl) (fun _ _ _ h => h) (Or.inl ⟨by rfl, ?hy11⟩) (by assumption) (by rfl) ?rest11
      case hy11 => first | (intro w hSw; (try dsimp only at hSw); obtain ⟨q0, q1, q2, q3, q4, q5, q6, q7⟩ := hSw; go_simp; done) | (intro w hSw; (try dsimp only at hSw); obtain ⟨q0, q1, q2, q3, q4, q5, q6, q7⟩ := hSw; go_simp; with_reducible rfl)
      try simp only [Act.put, List.setIfInBounds_toArray, List.set_cons_zero, List.set_cons_succ]
      refine takeD (i := 13) (v := ?v12) (some 6) rfl (by kernel_rfl) (by kernel_rfl) (by kernel_rfl) (fun _ _ _ h => h) (Or.inl ⟨by rfl, ?hy12⟩) (by assumption) (by rfl) ?rest12
      case hy12 => first | (intro w hSw; (try dsimp only at hSw); obtain ⟨q0, q1, q2, q3, q4, q5, q6, q7⟩ := hSw; go_simp; done) | (intro w hSw; (try dsimp only at hSw); obtain ⟨q0, q1, q2, q3, q4, q5, q6, q7⟩ := hSw; go_simp; with_reducible rfl)
      try simp only [Act.put, List.setIfInBounds_toArray, List.set_cons_zero, List.set_cons_succ]
      clear hHeld
      refine wpAnyH_done (by kernel_rfl) ?_ _
      go_wp2_with fail
      go_meet
      exact ⟨b3, b4, rfl, rfl, rfl, rfl, TB3_4.out, TB4_4.out, bafter HBA.out BX4.out (Nat.le_refl _)⟩
  case rest =>
    obtain ⟨b3, b4, rfl, rfl, rfl, rfl, t3, t4, hbc⟩ := hcut
    have hbi := HL.out.calls hbc
    have T3 := hide t3
    have T4 := hide t4
    have HBC := hide hbc
    clear t3 t4 hbc
    go_wp2_with fail
    refine hbi.mono ?_
    rintro e w1 ⟨ra, rl, rc, ok, rfl, hok, hrx, hb1⟩
    have HW1 := hide (bafter HBC.out hb1 (Nat.le_refl _))
    have HB1 := hide hb1
    have hsm := summed_calls w1 (tab_keep HTAB.out HW1.out)
    clear hbi hrx hb1
    go_wp2_with fail
    refine hsm.mono ?_
    rintro e w2 ⟨rfl, hb2⟩
    have HW2 := hide (bafter HW1.out hb2 (Nat.le_refl _))
    have HB2 := hide (bafter HB1.out hb2 (Nat.le_refl _))
    clear hsm hb2
    cases ok with
    | false =>
      have hsm2 := summed_calls w2 (tab_keep HTAB.out HW2.out)
      clear hok
      go_wp2_with fail
      refine hsm2.mono ?_
      rintro e w3 ⟨rfl, hb3⟩
      have HW3 := hide (bafter HW2.out hb3 (Nat.le_refl _))
      clear hsm2 hb3
      go_wp2
      go_ret
      exact ⟨rfl, HW3.out⟩
    | true =>
      have HLB := hide (HL.out.both (hok.1 rfl))
      have hlt := HA.out.light HW2.out
      obtain ⟨x0, x1, x2, _, _, _⟩ := (T3.out.keep HB2.out).every
      clear hok
      go_wp2_with fail
      refine hlt.mono ?_
      rintro e w3 ⟨r3, rfl, hl3, hb3⟩
      have HW3 := hide (bafter HW2.out hb3 (Nat.le_refl _))
      have HB3 := hide (bafter HB2.out hb3 (Nat.le_refl _))
      cases r3 with
      | false =>
        have hsm2 := summed_calls w3 (tab_keep HTAB.out HW3.out)
        clear hlt hl3 hb3 x0 x1 x2
        go_wp2_with fail
        refine hsm2.mono ?_
        rintro e w4 ⟨rfl, hb4⟩
        have HW4 := hide (bafter HW3.out hb4 (Nat.le_refl _))
        clear hsm2 hb4
        go_wp2
        go_ret
        exact ⟨rfl, HW4.out⟩
      | true =>
        obtain ⟨c, hbo⟩ := HA.out.both (hl3.1 rfl)
        have HBO := hide hbo
        have hlt2 := HB.out.light HW3.out
        obtain ⟨y0, y1, y2, _, _, _⟩ := (T4.out.keep HB3.out).every
        clear hlt hl3 hb3 x0 x1 x2 hbo
        go_wp2_with fail
        refine hlt2.mono ?_
        rintro e w4 ⟨r4, rfl, hl4, hb4⟩
        have HW4 := hide (bafter HW3.out hb4 (Nat.le_refl _))
        have HB4 := hide (bafter HB3.out hb4 (Nat.le_refl _))
        cases r4 with
        | false =>
          have hsm2 := summed_calls w4 (tab_keep HTAB.out HW4.out)
          clear hlt2 hl4 hb4 y0 y1 y2
          go_wp2_with fail
          refine hsm2.mono ?_
          rintro e w5 ⟨rfl, hb5⟩
          have HW5 := hide (bafter HW4.out hb5 (Nat.le_refl _))
          clear hsm2 hb5
          go_wp2
          go_ret
          exact ⟨rfl, HW5.out⟩
        | true =>
          obtain ⟨d, hbp⟩ := HB.out.both (hl4.1 rfl)
          have HBP := hide hbp
          clear hlt2 hl4 hb4 y0 y1 y2 hbp
          have HS4 : Hid (∀ X : World, Below w4.heap.size w4 X → X.cell? ⟨b3, 0, none⟩ = some (.bool an) ∧ X.cell? ⟨b3, 1, none⟩ = some (.slice aa aL ac) ∧ X.cell? ⟨b3, 2, none⟩ = some (.slice ap al ak) ∧ X.cell? ⟨b4, 0, none⟩ = some (.bool bn) ∧ X.cell? ⟨b4, 1, none⟩ = some (.slice ba bL bc) ∧ X.cell? ⟨b4, 2, none⟩ = some (.slice bp bl bk)) := fun X hX => by
            have t1 := (T3.out.keep HB4.out).keep hX
            have t2 := (T4.out.keep HB4.out).keep hX
            exact ⟨t1.c0, t1.c1, t1.c2, t2.c0, t2.c1, t2.c2⟩
          obtain ⟨va, hva⟩ : ∃ va, va = c + ev (lookZ L) (ps A) := ⟨_, rfl⟩
          obtain ⟨vb, hvb⟩ : ∃ vb, vb = d + ev (lookZ L) (ps B) := ⟨_, rfl⟩
          have HXB : Hid (va.natAbs < R ^ 40) := by
            show _ < _
            rw [hva]
            exact val_bnd HLB.out.bnd HBO.out.term.bnd.1 HBO.out.len HBO.out.term.bnd.2
          have HYB : Hid (vb.natAbs < R ^ 40) := by
            show _ < _
            rw [hvb]
            exact val_bnd HLB.out.bnd HBP.out.term.bnd.1 HBP.out.len HBP.out.term.bnd.2
          have HVA := hide (fun (Y : World) (hY : Below w4.heap.size w4 Y) => eval_calls (HBO.out.term.below (bafter HW4.out hY (Nat.le_refl _))) (HLB.out.row.below (bafter HW4.out hY (Nat.le_refl _))) (HLB.out.good.below (bafter HW4.out hY (Nat.le_refl _))) HLB.out.bnd (by have := HLB.out.len; omega) (by omega))
          have HVB := hide (fun (Y : World) (hY : Below w4.heap.size w4 Y) => eval_calls (HBP.out.term.below (bafter HW4.out hY (Nat.le_refl _))) (HLB.out.row.below (bafter HW4.out hY (Nat.le_refl _))) (HLB.out.good.below (bafter HW4.out hY (Nat.le_refl _))) HLB.out.bnd (by have := HLB.out.len; omega) (by omega))
          rw [← hva] at HVA
          rw [← hvb] at HVB
          have HVAE := hide hva
          have HVBE := hide hvb
          clear hva hvb
          go_upto_region 5 with fail
          go_cut [9, 10] from 42 to 47 (fun s9 s10 wx => ValD w4 va vb s9 s10 wx)
          case first =>
            refine wp_region_held_drew (S := fun X : World => X.cell? ⟨b3, 0, none⟩ = some (.bool an) ∧ X.cell? ⟨b3, 1, none⟩ = some (.slice aa aL ac) ∧ X.cell? ⟨b3, 2, none⟩ = some (.slice ap al ak) ∧ X.cell? ⟨b4, 0, none⟩ = some (.bool bn) ∧ X.cell? ⟨b4, 1, none⟩ = some (.slice ba bL bc) ∧ X.cell? ⟨b4, 2, none⟩ = some (.slice bp bl bk)) (by kernel_rfl) ?_ (fun hHeld => ?_)
            · exact HS4.out _ (by (first | exact (Below.refl _ _).drew | exact Below.refl _ _))
            refine takeD (i := 0) (v := ?v13) (some 42) rfl (by kernel_rfl) (by kernel_rfl) (by kernel_rfl) (fun _ _ _ h => h) (Or.inl ⟨by rfl, ?hy13⟩) (by assumption) (by rfl) ?rest13
            case hy13 => first | (intro w hSw; (try dsimp only at hSw); obtain ⟨q0, q1, q2, q3, q4, q5⟩ := hSw; go_simp; done) | (intro w hSw; (try dsimp only at hSw); obtain ⟨q0, q1, q2, q3, q4, q5⟩ := hSw; go_simp; with_reducible rfl)
            try simp only [Act.put, List.setIfInBounds_toArray, List.set_cons_zero, List.set_cons_succ]
            refine takeD (i := 1) (v := ?v14) (some 43) rfl (by kernel_rfl) (by kernel_rfl) (by kernel_rfl) (fun _ _ _ h => h) (Or.inl ⟨by rfl, ?hy14⟩) (by assumption) (by rfl) ?rest14
            case hy14 => first | (intro w hSw; (try dsimp only at hSw); obtain ⟨q0, q1, q2, q3, q4, q5⟩ := hSw; go_simp; done) | (intro w hSw; (try dsimp only at hSw); obtain ⟨q0, q1, q2, q3, q4, q5⟩ := hSw; go_simp; with_reducible rfl)
            try simp only [Act.put, List.setIfInBounds_toArray, List.set_cons_zero, List.set_cons_succ]
            refine takeD (i := 3) (v := ?v15) (some 45) rfl (by kernel_rfl) (by kernel_rfl) (by kernel_rfl) (fun _ _ _ h => h) (Or.inl ⟨by rfl, ?hy15⟩) (by assumption) (by rfl) ?rest15
            case hy15 => first | (intro w hSw; (try dsimp only at hSw); obtain ⟨q0, q1, q2, q3, q4, q5⟩ := hSw; go_simp; done) | (intro w hSw; (try dsimp only at hSw); obtain ⟨q0, q1, q2, q3, q4, q5⟩ := hSw; go_simp; with_reducible rfl)
            try simp only [Act.put, List.setIfInBounds_toArray, List.set_cons_zero, List.set_cons_succ]
            refine takeD (i := 4) (v := ?v16) (some 46) rfl (by kernel_rfl) (by kernel_rfl) (by kernel_rfl) (fun _ _ _ h => h) (Or.inl ⟨by rfl, ?hy16⟩) (by assumption) (by rfl) ?rest16
            case hy16 => first | (intro w hSw; (try dsimp only at hSw); obtain ⟨q0, q1, q2, q3, q4, q5⟩ := hSw; go_simp; done) | (intro w hSw; (try dsimp only at hSw); obtain ⟨q0, q1, q2, q3, q4, q5⟩ := hSw; go_simp; with_reducible rfl)
            try simp only [Act.put, List.setIfInBounds_toArray, List.set_cons_zero, List.set_cons_succ]
            have bwd : Below w4.heap.size w4 w4.drew := (Below.refl _ _).drew
            generalize w4.drew = wd at *
            have BX0 := hide bwd
            clear bwd hHeld
            refine wpAnyH_ready (rs := [2, 6, 7]) (by kernel_rfl) (by simp) ?_
            refine AllReadyH.cons rfl (fun K hK => ?_) (AllReadyH.cons rfl (fun K hK => ?_) (AllReadyH.cons rfl (fun K hK => ?_) AllReadyH.nil))
            · go_simp
              refine (HVA.out _ BX0.out).mono ?_
              rintro e x1 ⟨vv, rfl, hr, hb⟩
              obtain ⟨xn, xa, xL, xc, rfl⟩ := hr.form
              have BX1 : Hid (Below w4.heap.size w4 x1) := bafter BX0.out hb (Nat.le_refl _)
              have HR2_1 := hide hr
              clear hr hb
              go_wp2_with fail
              refine hK.out _ _ (HS4.out _ BX1.out) (fun hHeld => ?_)
              clear hK K hHeld
              try simp only [Act.put, List.setIfInBounds_toArray, List.set_cons_zero, List.set_cons_succ]
              refine wpAnyH_ready (rs := [5, 6, 7]) (by kernel_rfl) (by simp) ?_
              refine AllReadyH.cons rfl (fun K hK => ?_) (AllReadyH.cons rfl (fun K hK => ?_) (AllReadyH.cons rfl (fun K hK => ?_) AllReadyH.nil))
              · go_simp
                refine (HVB.out _ BX1.out).mono ?_
                rintro e x2 ⟨vv, rfl, hr, hb⟩
                obtain ⟨yn, ya, yL, yc, rfl⟩ := hr.form
                have BX2 : Hid (Below w4.heap.size w4 x2) := bafter BX1.out hb (Nat.le_refl _)
                have HR5_2 := hide hr
                have HR2_2 := hide (HR2_1.out.below hb)
                clear hr hb
                go_wp2_with fail
                refine hK.out _ _ (HS4.out _ BX2.out) (fun hHeld => ?_)
                clear hK K hHeld
                try simp only [Act.put, List.setIfInBounds_toArray, List.set_cons_zero, List.set_cons_succ]
                refine wpAnyH_ready (rs := [6, 7]) (by kernel_rfl) (by simp) ?_
                refine AllReadyH.cons rfl (fun K hK => ?_) (AllReadyH.cons rfl (fun K hK => ?_) AllReadyH.nil)
                · go_simp
                  have tn := Two.new x2 (.bool false) (.slice none 0 0) 24
                  have hb := bel x2 (.cells #[.bool false, .slice none 0 0] 24)
                  have BX3 := hide (bafter BX2.out hb (Nat.le_refl _))
                  have LB9 : Hid (w4.heap.size ≤ x2.heap.size) := BX2.out.size
                  have TB9_3 := hide tn
                  have HR2_3 := hide (HR2_2.out.below hb)
                  have HR5_3 := hide (HR5_2.out.below hb)
                  clear tn hb
                  generalize x2.heap.size = b9 at *
                  generalize x2.alloc (.cells #[.bool false, .slice none 0 0] 24) = x3 at *
                  refine hK.out _ _ (HS4.out _ BX3.out) (fun hHeld => ?_)
                  clear hK K hHeld
                  try simp only [Act.put, List.setIfInBounds_toArray, List.set_cons_zero, List.set_cons_succ]
                  refine wpAnyH_ready (rs := [7]) (by kernel_rfl) (by simp) ?_
                  refine AllReadyH.cons rfl (fun K hK => ?_) AllReadyH.nil
                  go_simp
                  have tn := Two.new x3 (.bool false) (.slice none 0 0) 24
                  have hb := bel x3 (.cells #[.bool false, .slice none 0 0] 24)
                  have BX4 := hide (bafter BX3.out hb (Nat.le_refl _))
                  have LB10 : Hid (w4.heap.size ≤ x3.heap.size) := BX3.out.size
                  have TB10_4 := hide tn
                  have HR2_4 := hide (HR2_3.out.below hb)
                  have HR5_4 := hide (HR5_3.out.below hb)
                  have TB9_4 := hide (TB9_3.out.keep hb)
                  have NE : Hid (b9 ≠ x3.heap.size) := Nat.ne_of_lt TB9_3.out.lt'
                  clear tn hb
                  generalize x3.heap.size = b10 at *
                  generalize x3.alloc (.cells #[.bool false, .slice none 0 0] 24) = x4 at *
                  refine hK.out _ _ (HS4.out _ BX4.out) (fun hHeld => ?_)
                  clear hK K hHeld
                  try simp only [Act.put, List.setIfInBounds_toArray, List.set_cons_zero, List.set_cons_succ]
                  refine wpAnyH_ready (rs := [8]) (by kernel_rfl) (by simp) ?_
                  refine AllReadyH.cons rfl (fun K hK => ?_) AllReadyH.nil
                  obtain ⟨z0, z1, f0, f1, _, _⟩ := TB9_4.out.every
                  go_simp
                  have nb : b10 ≠ b9 := by first | exact NE.out | exact NE.out.symm
                  have bn := (TB9_4.out.but (.bool xn) (.slice xa xL xc)).k32
                  have TB9_5 : Hid (Two (put2 x4 b9 (.bool xn) (.slice xa xL xc)) b9 (.bool xn) (.slice xa xL xc) 24) := TB9_4.out.put (.bool xn) (.slice xa xL xc)
                  have TB10_5 : Hid (Two (put2 x4 b9 (.bool xn) (.slice xa xL xc)) b10 _ _ _) := (put2_other nb (.bool xn) (.slice xa xL xc)).trans TB10_4.out
                  have BX5 := hide (put2_below BX4.out LB9.out (.bool xn) (.slice xa xL xc))
                  have HR2_5 := hide (HR2_4.out.k32 (show K32 _ (put2 x4 b9 (.bool xn) (.slice xa xL xc)) from bn))
                  have HR5_5 := hide (HR5_4.out.k32 (show K32 _ (put2 x4 b9 (.bool xn) (.slice xa xL xc)) from bn))
                  clear z0 z1 f0 f1 nb bn
                  refine hK.out _ (put2 x4 b9 (.bool xn) (.slice xa xL xc)) (HS4.out _ BX5.out) (fun hHeld => ?_)
                  clear hK K hHeld
                  generalize put2 x4 b9 (.bool xn) (.slice xa xL xc) = x5 at *
                  try simp only [Act.put, List.setIfInBounds_toArray, List.set_cons_zero, List.set_cons_succ]
                  refine wpAnyH_ready (rs := [9]) (by kernel_rfl) (by simp) ?_
                  refine AllReadyH.cons rfl (fun K hK => ?_) AllReadyH.nil
                  obtain ⟨z0, z1, f0, f1, _, _⟩ := TB10_5.out.every
                  go_simp
                  have nb : b9 ≠ b10 := by first | exact NE.out | exact NE.out.symm
                  have bn := (TB10_5.out.but (.bool yn) (.slice ya yL yc)).k32
                  have TB10_6 : Hid (Two (put2 x5 b10 (.bool yn) (.slice ya yL yc)) b10 (.bool yn) (.slice ya yL yc) 24) := TB10_5.out.put (.bool yn) (.slice ya yL yc)
                  have TB9_6 : Hid (Two (put2 x5 b10 (.bool yn) (.slice ya yL yc)) b9 _ _ _) := (put2_other nb (.bool yn) (.slice ya yL yc)).trans TB9_5.out
                  have BX6 := hide (put2_below BX5.out LB10.out (.bool yn) (.slice ya yL yc))
                  have HR2_6 := hide (HR2_5.out.k32 (show K32 _ (put2 x5 b10 (.bool yn) (.slice ya yL yc)) from bn))
                  have HR5_6 := hide (HR5_5.out.k32 (show K32 _ (put2 x5 b10 (.bool yn) (.slice ya yL yc)) from bn))
                  clear z0 z1 f0 f1 nb bn
                  refine hK.out _ (put2 x5 b10 (.bool yn) (.slice ya yL yc)) (HS4.out _ BX6.out) (fun hHeld => ?_)
                  clear hK K hHeld
                  generalize put2 x5 b10 (.bool yn) (.slice ya yL yc) = x6 at *
                  try simp only [Act.put, List.setIfInBounds_toArray, List.set_cons_zero, List.set_cons_succ]
                  refine wpAnyH_done (by kernel_rfl) ?_ _
                  go_wp2_with fail
                  go_meet
                  exact ⟨b9, b10, xn, xa, xL, xc, yn, ya, yL, yc, rfl, rfl, TB9_6.out, TB10_6.out, HR2_6.out, HR5_6.out, BX6.out⟩
                · go_simp
                  have tn := Two.new x2 (.bool false) (.slice none 0 0) 24
                  have hb := bel x2 (.cells #[.bool false, .slice none 0 0] 24)
                  have BX3 := hide (bafter BX2.out hb (Nat.le_refl _))
                  have LB10 : Hid (w4.heap.size ≤ x2.heap.size) := BX2.out.size
                  have TB10_3 := hide tn
                  have HR2_3 := hide (HR2_2.out.below hb)
                  have HR5_3 := hide (HR5_2.out.below hb)
                  clear tn hb
                  generalize x2.heap.size = b10 at *
                  generalize x2.alloc (.cells #[.bool false, .slice none 0 0] 24) = x3 at *
                  refine hK.out _ _ (HS4.out _ BX3.out) (fun hHeld => ?_)
                  clear hK K hHeld
                  try simp only [Act.put, List.setIfInBounds_toArray, List.set_cons_zero, List.set_cons_succ]
                  refine wpAnyH_ready (rs := [6]) (by kernel_rfl) (by simp) ?_
                  refine AllReadyH.cons rfl (fun K hK => ?_) AllReadyH.nil
                  go_simp
                  have tn := Two.new x3 (.bool false) (.slice none 0 0) 24
                  have hb := bel x3 (.cells #[.bool false, .slice none 0 0] 24)
                  have BX4 := hide (bafter BX3.out hb (Nat.le_refl _))
                  have LB9 : Hid (w4.heap.size ≤ x3.heap.size) := BX3.out.size
                  have TB9_4 := hide tn
                  have HR2_4 := hide (HR2_3.out.below hb)
                  have HR5_4 := hide (HR5_3.out.below hb)
                  have TB10_4 := hide (TB10_3.out.keep hb)
                  have NE : Hid (b10 ≠ x3.heap.size) := Nat.ne_of_lt TB10_3.out.lt'
                  clear tn hb
                  generalize x3.heap.size = b9 at *
                  generalize x3.alloc (.cells #[.bool false, .slice none 0 0] 24) = x4 at *
                  refine hK.out _ _ (HS4.out _ BX4.out) (fun hHeld => ?_)
                  clear hK K hHeld
                  try simp only [Act.put, List.setIfInBounds_toArray, List.set_cons_zero, List.set_cons_succ]
                  refine wpAnyH_ready (rs := [8]) (by kernel_rfl) (by simp) ?_
                  refine AllReadyH.cons rfl (fun K hK => ?_) AllReadyH.nil
                  obtain ⟨z0, z1, f0, f1, _, _⟩ := TB9_4.out.every
                  go_simp
                  have nb : b10 ≠ b9 := by first | exact NE.out | exact NE.out.symm
                  have bn := (TB9_4.out.but (.bool xn) (.slice xa xL xc)).k32
                  have TB9_5 : Hid (Two (put2 x4 b9 (.bool xn) (.slice xa xL xc)) b9 (.bool xn) (.slice xa xL xc) 24) := TB9_4.out.put (.bool xn) (.slice xa xL xc)
                  have TB10_5 : Hid (Two (put2 x4 b9 (.bool xn) (.slice xa xL xc)) b10 _ _ _) := (put2_other nb (.bool xn) (.slice xa xL xc)).trans TB10_4.out
                  have BX5 := hide (put2_below BX4.out LB9.out (.bool xn) (.slice xa xL xc))
                  have HR2_5 := hide (HR2_4.out.k32 (show K32 _ (put2 x4 b9 (.bool xn) (.slice xa xL xc)) from bn))
                  have HR5_5 := hide (HR5_4.out.k32 (show K32 _ (put2 x4 b9 (.bool xn) (.slice xa xL xc)) from bn))
                  clear z0 z1 f0 f1 nb bn
                  refine hK.out _ (put2 x4 b9 (.bool xn) (.slice xa xL xc)) (HS4.out _ BX5.out) (fun hHeld => ?_)
                  clear hK K hHeld
                  generalize put2 x4 b9 (.bool xn) (.slice xa xL xc) = x5 at *
                  try simp only [Act.put, List.setIfInBounds_toArray, List.set_cons_zero, List.set_cons_succ]
                  refine wpAnyH_ready (rs := [9]) (by kernel_rfl) (by simp) ?_
                  refine AllReadyH.cons rfl (fun K hK => ?_) AllReadyH.nil
                  obtain ⟨z0, z1, f0, f1, _, _⟩ := TB10_5.out.every
                  go_simp
                  have nb : b9 ≠ b10 := by first | exact NE.out | exact NE.out.symm
                  have bn := (TB10_5.out.but (.bool yn) (.slice ya yL yc)).k32
                  have TB10_6 : Hid (Two (put2 x5 b10 (.bool yn) (.slice ya yL yc)) b10 (.bool yn) (.slice ya yL yc) 24) := TB10_5.out.put (.bool yn) (.slice ya yL yc)
                  have TB9_6 : Hid (Two (put2 x5 b10 (.bool yn) (.slice ya yL yc)) b9 _ _ _) := (put2_other nb (.bool yn) (.slice ya yL yc)).trans TB9_5.out
                  have BX6 := hide (put2_below BX5.out LB10.out (.bool yn) (.slice ya yL yc))
                  have HR2_6 := hide (HR2_5.out.k32 (show K32 _ (put2 x5 b10 (.bool yn) (.slice ya yL yc)) from bn))
                  have HR5_6 := hide (HR5_5.out.k32 (show K32 _ (put2 x5 b10 (.bool yn) (.slice ya yL yc)) from bn))
                  clear z0 z1 f0 f1 nb bn
                  refine hK.out _ (put2 x5 b10 (.bool yn) (.slice ya yL yc)) (HS4.out _ BX6.out) (fun hHeld => ?_)
                  clear hK K hHeld
                  generalize put2 x5 b10 (.bool yn) (.slice ya yL yc) = x6 at *
                  try simp only [Act.put, List.setIfInBounds_toArray, List.set_cons_zero, List.set_cons_succ]
                  refine wpAnyH_done (by kernel_rfl) ?_ _
                  go_wp2_with fail
                  go_meet
                  exact ⟨b9, b10, xn, xa, xL, xc, yn, ya, yL, yc, rfl, rfl, TB9_6.out, TB10_6.out, HR2_6.out, HR5_6.out, BX6.out⟩
              · go_simp
                have tn := Two.new x1 (.bool false) (.slice none 0 0) 24
                have hb := bel x1 (.cells #[.bool false, .slice none 0 0] 24)
                have BX2 := hide (bafter BX1.out hb (Nat.le_refl _))
                have LB9 : Hid (w4.heap.size ≤ x1.heap.size) := BX1.out.size
                have TB9_2 := hide tn
                have HR2_2 := hide (HR2_1.out.below hb)
                clear tn hb
                generalize x1.heap.size = b9 at *
                generalize x1.alloc (.cells #[.bool false, .slice none 0 0] 24) = x2 at *
                refine hK.out _ _ (HS4.out _ BX2.out) (fun hHeld => ?_)
                clear hK K hHeld
                try simp only [Act.put, List.setIfInBounds_toArray, List.set_cons_zero, List.set_cons_succ]
                refine wpAnyH_ready (rs := [5, 7]) (by kernel_rfl) (by simp) ?_
                refine AllReadyH.cons rfl (fun K hK => ?_) (AllReadyH.cons rfl (fun K hK => ?_) AllReadyH.nil)
                · go_simp
                  refine (HVB.out _ BX2.out).mono ?_
                  rintro e x3 ⟨vv, rfl, hr, hb⟩
                  obtain ⟨yn, ya, yL, yc, rfl⟩ := hr.form
                  have BX3 : Hid (Below w4.heap.size w4 x3) := bafter BX2.out hb (Nat.le_refl _)
                  have HR5_3 := hide hr
                  have HR2_3 := hide (HR2_2.out.below hb)
                  have TB9_3 := hide (TB9_2.out.keep hb)
                  clear hr hb
                  go_wp2_with fail
                  refine hK.out _ _ (HS4.out _ BX3.out) (fun hHeld => ?_)
                  clear hK K hHeld
                  try simp only [Act.put, List.setIfInBounds_toArray, List.set_cons_zero, List.set_cons_succ]
                  refine wpAnyH_ready (rs := [7]) (by kernel_rfl) (by simp) ?_
                  refine AllReadyH.cons rfl (fun K hK => ?_) AllReadyH.nil
                  go_simp
                  have tn := Two.new x3 (.bool false) (.slice none 0 0) 24
                  have hb := bel x3 (.cells #[.bool false, .slice none 0 0] 24)
                  have BX4 := hide (bafter BX3.out hb (Nat.le_refl _))
                  have LB10 : Hid (w4.heap.size ≤ x3.heap.size) := BX3.out.size
                  have TB10_4 := hide tn
                  have HR2_4 := hide (HR2_3.out.below hb)
                  have HR5_4 := hide (HR5_3.out.below hb)
                  have TB9_4 := hide (TB9_3.out.keep hb)
                  have NE : Hid (b9 ≠ x3.heap.size) := Nat.ne_of_lt TB9_3.out.lt'
                  clear tn hb
                  generalize x3.heap.size = b10 at *
                  generalize x3.alloc (.cells #[.bool false, .slice none 0 0] 24) = x4 at *
                  refine hK.out _ _ (HS4.out _ BX4.out) (fun hHeld => ?_)
                  clear hK K hHeld
                  try simp only [Act.put, List.setIfInBounds_toArray, List.set_cons_zero, List.set_cons_succ]
                  refine wpAnyH_ready (rs := [8]) (by kernel_rfl) (by simp) ?_
                  refine AllReadyH.cons rfl (fun K hK => ?_) AllReadyH.nil
                  obtain ⟨z0, z1, f0, f1, _, _⟩ := TB9_4.out.every
                  go_simp
                  have nb : b10 ≠ b9 := by first | exact NE.out | exact NE.out.symm
                  have bn := (TB9_4.out.but (.bool xn) (.slice xa xL xc)).k32
                  have TB9_5 : Hid (Two (put2 x4 b9 (.bool xn) (.slice xa xL xc)) b9 (.bool xn) (.slice xa xL xc) 24) := TB9_4.out.put (.bool xn) (.slice xa xL xc)
                  have TB10_5 : Hid (Two (put2 x4 b9 (.bool xn) (.slice xa xL xc)) b10 _ _ _) := (put2_other nb (.bool xn) (.slice xa xL xc)).trans TB10_4.out
                  have BX5 := hide (put2_below BX4.out LB9.out (.bool xn) (.slice xa xL xc))
                  have HR2_5 := hide (HR2_4.out.k32 (show K32 _ (put2 x4 b9 (.bool xn) (.slice xa xL xc)) from bn))
                  have HR5_5 := hide (HR5_4.out.k32 (show K32 _ (put2 x4 b9 (.bool xn) (.slice xa xL xc)) from bn))
                  clear z0 z1 f0 f1 nb bn
                  refine hK.out _ (put2 x4 b9 (.bool xn) (.slice xa xL xc)) (HS4.out _ BX5.out) (fun hHeld => ?_)
                  clear hK K hHeld
                  generalize put2 x4 b9 (.bool xn) (.slice xa xL xc) = x5 at *
                  try simp only [Act.put, List.setIfInBounds_toArray, List.set_cons_zero, List.set_cons_succ]
                  refine wpAnyH_ready (rs := [9]) (by kernel_rfl) (by simp) ?_
                  refine AllReadyH.cons rfl (fun K hK => ?_) AllReadyH.nil
                  obtain ⟨z0, z1, f0, f1, _, _⟩ := TB10_5.out.every
                  go_simp
                  have nb : b9 ≠ b10 := by first | exact NE.out | exact NE.out.symm
                  have bn := (TB10_5.out.but (.bool yn) (.slice ya yL yc)).k32
                  have TB10_6 : Hid (Two (put2 x5 b10 (.bool yn) (.slice ya yL yc)) b10 (.bool yn) (.slice ya yL yc) 24) := TB10_5.out.put (.bool yn) (.slice ya yL yc)
                  have TB9_6 : Hid (Two (put2 x5 b10 (.bool yn) (.slice ya yL yc)) b9 _ _ _) := (put2_other nb (.bool yn) (.slice ya yL yc)).trans TB9_5.out
                  have BX6 := hide (put2_below BX5.out LB10.out (.bool yn) (.slice ya yL yc))
                  have HR2_6 := hide (HR2_5.out.k32 (show K32 _ (put2 x5 b10 (.bool yn) (.slice ya yL yc)) from bn))
                  have HR5_6 := hide (HR5_5.out.k32 (show K32 _ (put2 x5 b10 (.bool yn) (.slice ya yL yc)) from bn))
                  clear z0 z1 f0 f1 nb bn
                  refine hK.out _ (put2 x5 b10 (.bool yn) (.slice ya yL yc)) (HS4.out _ BX6.out) (fun hHeld => ?_)
                  clear hK K hHeld
                  generalize put2 x5 b10 (.bool yn) (.slice ya yL yc) = x6 at *
                  try simp only [Act.put, List.setIfInBounds_toArray, List.set_cons_zero, List.set_cons_succ]
                  refine wpAnyH_done (by kernel_rfl) ?_ _
                  go_wp2_with fail
                  go_meet
                  exact ⟨b9, b10, xn, xa, xL, xc, yn, ya, yL, yc, rfl, rfl, TB9_6.out, TB10_6.out, HR2_6.out, HR5_6.out, BX6.out⟩
                · go_simp
                  have tn := Two.new x2 (.bool false) (.slice none 0 0) 24
                  have hb := bel x2 (.cells #[.bool false, .slice none 0 0] 24)
                  have BX3 := hide (bafter BX2.out hb (Nat.le_refl _))
                  have LB10 : Hid (w4.heap.size ≤ x2.heap.size) := BX2.out.size
                  have TB10_3 := hide tn
                  have HR2_3 := hide (HR2_2.out.below hb)
                  have TB9_3 := hide (TB9_2.out.keep hb)
                  have NE : Hid (b9 ≠ x2.heap.size) := Nat.ne_of_lt TB9_2.out.lt'
                  clear tn hb
                  generalize x2.heap.size = b10 at *
                  generalize x2.alloc (.cells #[.bool false, .slice none 0 0] 24) = x3 at *
                  refine hK.out _ _ (HS4.out _ BX3.out) (fun hHeld => ?_)
                  clear hK K hHeld
                  try simp only [Act.put, List.setIfInBounds_toArray, List.set_cons_zero, List.set_cons_succ]
                  refine wpAnyH_ready (rs := [5]) (by kernel_rfl) (by simp) ?_
                  refine AllReadyH.cons rfl (fun K hK => ?_) AllReadyH.nil
                  go_simp
                  refine (HVB.out _ BX3.out).mono ?_
                  rintro e x4 ⟨vv, rfl, hr, hb⟩
                  obtain ⟨yn, ya, yL, yc, rfl⟩ := hr.form
                  have BX4 : Hid (Below w4.heap.size w4 x4) := bafter BX3.out hb (Nat.le_refl _)
                  have HR5_4 := hide hr
                  have HR2_4 := hide (HR2_3.out.below hb)
                  have TB9_4 := hide (TB9_3.out.keep hb)
                  have TB10_4 := hide (TB10_3.out.keep hb)
                  clear hr hb
                  go_wp2_with fail
                  refine hK.out _ _ (HS4.out _ BX4.out) (fun hHeld => ?_)
                  clear hK K hHeld
                  try simp only [Act.put, List.setIfInBounds_toArray, List.set_cons_zero, List.set_cons_succ]
                  refine wpAnyH_ready (rs := [8]) (by kernel_rfl) (by simp) ?_
                  refine AllReadyH.cons rfl (fun K hK => ?_) AllReadyH.nil
                  obtain ⟨z0, z1, f0, f1, _, _⟩ := TB9_4.out.every
                  go_simp
                  have nb : b10 ≠ b9 := by first | exact NE.out | exact NE.out.symm
                  have bn := (TB9_4.out.but (.bool xn) (.slice xa xL xc)).k32
                  have TB9_5 : Hid (Two (put2 x4 b9 (.bool xn) (.slice xa xL xc)) b9 (.bool xn) (.slice xa xL xc) 24) := TB9_4.out.put (.bool xn) (.slice xa xL xc)
                  have TB10_5 : Hid (Two (put2 x4 b9 (.bool xn) (.slice xa xL xc)) b10 _ _ _) := (put2_other nb (.bool xn) (.slice xa xL xc)).trans TB10_4.out
                  have BX5 := hide (put2_below BX4.out LB9.out (.bool xn) (.slice xa xL xc))
                  have HR2_5 := hide (HR2_4.out.k32 (show K32 _ (put2 x4 b9 (.bool xn) (.slice xa xL xc)) from bn))
                  have HR5_5 := hide (HR5_4.out.k32 (show K32 _ (put2 x4 b9 (.bool xn) (.slice xa xL xc)) from bn))
                  clear z0 z1 f0 f1 nb bn
                  refine hK.out _ (put2 x4 b9 (.bool xn) (.slice xa xL xc)) (HS4.out _ BX5.out) (fun hHeld => ?_)
                  clear hK K hHeld
                  generalize put2 x4 b9 (.bool xn) (.slice xa xL xc) = x5 at *
                  try simp only [Act.put, List.setIfInBounds_toArray, List.set_cons_zero, List.set_cons_succ]
                  refine wpAnyH_ready (rs := [9]) (by kernel_rfl) (by simp) ?_
                  refine AllReadyH.cons rfl (fun K hK => ?_) AllReadyH.nil
                  obtain ⟨z0, z1, f0, f1, _, _⟩ := TB10_5.out.every
                  go_simp
                  have nb : b9 ≠ b10 := by first | exact NE.out | exact NE.out.symm
                  have bn := (TB10_5.out.but (.bool yn) (.slice ya yL yc)).k32
                  have TB10_6 : Hid (Two (put2 x5 b10 (.bool yn) (.slice ya yL yc)) b10 (.bool yn) (.slice ya yL yc) 24) := TB10_5.out.put (.bool yn) (.slice ya yL yc)
                  have TB9_6 : Hid (Two (put2 x5 b10 (.bool yn) (.slice ya yL yc)) b9 _ _ _) := (put2_other nb (.bool yn) (.slice ya yL yc)).trans TB9_5.out
                  have BX6 := hide (put2_below BX5.out LB10.out (.bool yn) (.slice ya yL yc))
                  have HR2_6 := hide (HR2_5.out.k32 (show K32 _ (put2 x5 b10 (.bool yn) (.slice ya yL yc)) from bn))
                  have HR5_6 := hide (HR5_5.out.k32 (show K32 _ (put2 x5 b10 (.bool yn) (.slice ya yL yc)) from bn))
                  clear z0 z1 f0 f1 nb bn
                  refine hK.out _ (put2 x5 b10 (.bool yn) (.slice ya yL yc)) (HS4.out _ BX6.out) (fun hHeld => ?_)
                  clear hK K hHeld
                  generalize put2 x5 b10 (.bool yn) (.slice ya yL yc) = x6 at *
                  try simp only [Act.put, List.setIfInBounds_toArray, List.set_cons_zero, List.set_cons_succ]
                  refine wpAnyH_done (by kernel_rfl) ?_ _
                  go_wp2_with fail
                  go_meet
                  exact ⟨b9, b10, xn, xa, xL, xc, yn, ya, yL, yc, rfl, rfl, TB9_6.out, TB10_6.out, HR2_6.out, HR5_6.out, BX6.out⟩
              · go_simp
                have tn := Two.new x1 (.bool false) (.slice none 0 0) 24
                have hb := bel x1 (.cells #[.bool false, .slice none 0 0] 24)
                have BX2 := hide (bafter BX1.out hb (Nat.le_refl _))
                have LB10 : Hid (w4.heap.size ≤ x1.heap.size) := BX1.out.size
                have TB10_2 := hide tn
                have HR2_2 := hide (HR2_1.out.below hb)
                clear tn hb
                generalize x1.heap.size = b10 at *
                generalize x1.alloc (.cells #[.bool false, .slice none 0 0] 24) = x2 at *
                refine hK.out _ _ (HS4.out _ BX2.out) (fun hHeld => ?_)
                clear hK K hHeld
                try simp only [Act.put, List.setIfInBounds_toArray, List.set_cons_zero, List.set_cons_succ]
                refine wpAnyH_ready (rs := [5, 6]) (by kernel_rfl) (by simp) ?_
                refine AllReadyH.cons rfl (fun K hK => ?_) (AllReadyH.cons rfl (fun K hK => ?_) AllReadyH.nil)
                · go_simp
                  refine (HVB.out _ BX2.out).mono ?_
                  rintro e x3 ⟨vv, rfl, hr, hb⟩
                  obtain ⟨yn, ya, yL, yc, rfl⟩ := hr.form
                  have BX3 : Hid (Below w4.heap.size w4 x3) := bafter BX2.out hb (Nat.le_refl _)
                  have HR5_3 := hide hr
                  have HR2_3 := hide (HR2_2.out.below hb)
                  have TB10_3 := hide (TB10_2.out.keep hb)
                  clear hr hb
                  go_wp2_with fail
                  refine hK.out _ _ (HS4.out _ BX3.out) (fun hHeld => ?_)
                  clear hK K hHeld
                  try simp only [Act.put, List.setIfInBounds_toArray, List.set_cons_zero, List.set_cons_succ]
                  refine wpAnyH_ready (rs := [6]) (by kernel_rfl) (by simp) ?_
                  refine AllReadyH.cons rfl (fun K hK => ?_) AllReadyH.nil
                  go_simp
                  have tn := Two.new x3 (.bool false) (.slice none 0 0) 24
                  have hb := bel x3 (.cells #[.bool false, .slice none 0 0] 24)
                  have BX4 := hide (bafter BX3.out hb (Nat.le_refl _))
                  have LB9 : Hid (w4.heap.size ≤ x3.heap.size) := BX3.out.size
                  have TB9_4 := hide tn
                  have HR2_4 := hide (HR2_3.out.below hb)
                  have HR5_4 := hide (HR5_3.out.below hb)
                  have TB10_4 := hide (TB10_3.out.keep hb)
                  have NE : Hid (b10 ≠ x3.heap.size) := Nat.ne_of_lt TB10_3.out.lt'
                  clear tn hb
                  generalize x3.heap.size = b9 at *
                  generalize x3.alloc (.cells #[.bool false, .slice none 0 0] 24) = x4 at *
                  refine hK.out _ _ (HS4.out _ BX4.out) (fun hHeld => ?_)
                  clear hK K hHeld
                  try simp only [Act.put, List.setIfInBounds_toArray, List.set_cons_zero, List.set_cons_succ]
                  refine wpAnyH_ready (rs := [8]) (by kernel_rfl) (by simp) ?_
                  refine AllReadyH.cons rfl (fun K hK => ?_) AllReadyH.nil
                  obtain ⟨z0, z1, f0, f1, _, _⟩ := TB9_4.out.every
                  go_simp
                  have nb : b10 ≠ b9 := by first | exact NE.out | exact NE.out.symm
                  have bn := (TB9_4.out.but (.bool xn) (.slice xa xL xc)).k32
                  have TB9_5 : Hid (Two (put2 x4 b9 (.bool xn) (.slice xa xL xc)) b9 (.bool xn) (.slice xa xL xc) 24) := TB9_4.out.put (.bool xn) (.slice xa xL xc)
                  have TB10_5 : Hid (Two (put2 x4 b9 (.bool xn) (.slice xa xL xc)) b10 _ _ _) := (put2_other nb (.bool xn) (.slice xa xL xc)).trans TB10_4.out
                  have BX5 := hide (put2_below BX4.out LB9.out (.bool xn) (.slice xa xL xc))
                  have HR2_5 := hide (HR2_4.out.k32 (show K32 _ (put2 x4 b9 (.bool xn) (.slice xa xL xc)) from bn))
                  have HR5_5 := hide (HR5_4.out.k32 (show K32 _ (put2 x4 b9 (.bool xn) (.slice xa xL xc)) from bn))
                  clear z0 z1 f0 f1 nb bn
                  refine hK.out _ (put2 x4 b9 (.bool xn) (.slice xa xL xc)) (HS4.out _ BX5.out) (fun hHeld => ?_)
                  clear hK K hHeld
                  generalize put2 x4 b9 (.bool xn) (.slice xa xL xc) = x5 at *
                  try simp only [Act.put, List.setIfInBounds_toArray, List.set_cons_zero, List.set_cons_succ]
                  refine wpAnyH_ready (rs := [9]) (by kernel_rfl) (by simp) ?_
                  refine AllReadyH.cons rfl (fun K hK => ?_) AllReadyH.nil
                  obtain ⟨z0, z1, f0, f1, _, _⟩ := TB10_5.out.every
                  go_simp
                  have nb : b9 ≠ b10 := by first | exact NE.out | exact NE.out.symm
                  have bn := (TB10_5.out.but (.bool yn) (.slice ya yL yc)).k32
                  have TB10_6 : Hid (Two (put2 x5 b10 (.bool yn) (.slice ya yL yc)) b10 (.bool yn) (.slice ya yL yc) 24) := TB10_5.out.put (.bool yn) (.slice ya yL yc)
                  have TB9_6 : Hid (Two (put2 x5 b10 (.bool yn) (.slice ya yL yc)) b9 _ _ _) := (put2_other nb (.bool yn) (.slice ya yL yc)).trans TB9_5.out
                  have BX6 := hide (put2_below BX5.out LB10.out (.bool yn) (.slice ya yL yc))
                  have HR2_6 := hide (HR2_5.out.k32 (show K32 _ (put2 x5 b10 (.bool yn) (.slice ya yL yc)) from bn))
                  have HR5_6 := hide (HR5_5.out.k32 (show K32 _ (put2 x5 b10 (.bool yn) (.slice ya yL yc)) from bn))
                  clear z0 z1 f0 f1 nb bn
                  refine hK.out _ (put2 x5 b10 (.bool yn) (.slice ya yL yc)) (HS4.out _ BX6.out) (fun hHeld => ?_)
                  clear hK K hHeld
                  generalize put2 x5 b10 (.bool yn) (.slice ya yL yc) = x6 at *
                  try simp only [Act.put, List.setIfInBounds_toArray, List.set_cons_zero, List.set_cons_succ]
                  refine wpAnyH_done (by kernel_rfl) ?_ _
                  go_wp2_with fail
                  go_meet
                  exact ⟨b9, b10, xn, xa, xL, xc, yn, ya, yL, yc, rfl, rfl, TB9_6.out, TB10_6.out, HR2_6.out, HR5_6.out, BX6.out⟩
                · go_simp
                  have tn := Two.new x2 (.bool false) (.slice none 0 0) 24
                  have hb := bel x2 (.cells #[.bool false, .slice none 0 0] 24)
                  have BX3 := hide (bafter BX2.out hb (Nat.le_refl _))
                  have LB9 : Hid (w4.heap.size ≤ x2.heap.size) := BX2.out.size
                  have TB9_3 := hide tn
                  have HR2_3 := hide (HR2_2.out.below hb)
                  have TB10_3 := hide (TB10_2.out.keep hb)
                  have NE : Hid (b10 ≠ x2.heap.size) := Nat.ne_of_lt TB10_2.out.lt'
                  clear tn hb
                  generalize x2.heap.size = b9 at *
                  generalize x2.alloc (.cells #[.bool false, .slice none 0 0] 24) = x3 at *
                  refine hK.out _ _ (HS4.out _ BX3.out) (fun hHeld => ?_)
                  clear hK K hHeld
                  try simp only [Act.put, List.setIfInBounds_toArray, List.set_cons_zero, List.set_cons_succ]
                  refine wpAnyH_ready (rs := [5]) (by kernel_rfl) (by simp) ?_
                  refine AllReadyH.cons rfl (fun K hK => ?_) AllReadyH.nil
                  go_simp
                  refine (HVB.out _ BX3.out).mono ?_
                  rintro e x4 ⟨vv, rfl, hr, hb⟩
                  obtain ⟨yn, ya, yL, yc, rfl⟩ := hr.form
                  have BX4 : Hid (Below w4.heap.size w4 x4) := bafter BX3.out hb (Nat.le_refl _)
                  have HR5_4 := hide hr
                  have HR2_4 := hide (HR2_3.out.below hb)
                  have TB9_4 := hide (TB9_3.out.keep hb)
                  have TB10_4 := hide (TB10_3.out.keep hb)
                  clear hr hb
                  go_wp2_with fail
                  refine hK.out _ _ (HS4.out _ BX4.out) (fun hHeld => ?_)
                  clear hK K hHeld
                  try simp only [Act.put, List.setIfInBounds_toArray, List.set_cons_zero, List.set_cons_succ]
                  refine wpAnyH_ready (rs := [8]) (by kernel_rfl) (by simp) ?_
                  refine AllReadyH.cons rfl (fun K hK => ?_) AllReadyH.nil
                  obtain ⟨z0, z1, f0, f1, _, _⟩ := TB9_4.out.every
                  go_simp
                  have nb : b10 ≠ b9 := by first | exact NE.out | exact NE.out.symm
                  have bn := (TB9_4.out.but (.bool xn) (.slice xa xL xc)).k32
                  have TB9_5 : Hid (Two (put2 x4 b9 (.bool xn) (.slice xa xL xc)) b9 (.bool xn) (.slice xa xL xc) 24) := TB9_4.out.put (.bool xn) (.slice xa xL xc)
                  have TB10_5 : Hid (Two (put2 x4 b9 (.bool xn) (.slice xa xL xc)) b10 _ _ _) := (put2_other nb (.bool xn) (.slice xa xL xc)).trans TB10_4.out
                  have BX5 := hide (put2_below BX4.out LB9.out (.bool xn) (.slice xa xL xc))
                  have HR2_5 := hide (HR2_4.out.k32 (show K32 _ (put2 x4 b9 (.bool xn) (.slice xa xL xc)) from bn))
                  have HR5_5 := hide (HR5_4.out.k32 (show K32 _ (put2 x4 b9 (.bool xn) (.slice xa xL xc)) from bn))
                  clear z0 z1 f0 f1 nb bn
                  refine hK.out _ (put2 x4 b9 (.bool xn) (.slice xa xL xc)) (HS4.out _ BX5.out) (fun hHeld => ?_)
                  clear hK K hHeld
                  generalize put2 x4 b9 (.bool xn) (.slice xa xL xc) = x5 at *
                  try simp only [Act.put, List.setIfInBounds_toArray, List.set_cons_zero, List.set_cons_succ]
                  refine wpAnyH_ready (rs := [9]) (by kernel_rfl) (by simp) ?_
                  refine AllReadyH.cons rfl (fun K hK => ?_) AllReadyH.nil
                  obtain ⟨z0, z1, f0, f1, _, _⟩ := TB10_5.out.every
                  go_simp
                  have nb : b9 ≠ b10 := by first | exact NE.out | exact NE.out.symm
                  have bn := (TB10_5.out.but (.bool yn) (.slice ya yL yc)).k32
                  have TB10_6 : Hid (Two (put2 x5 b10 (.bool yn) (.slice ya yL yc)) b10 (.bool yn) (.slice ya yL yc) 24) := TB10_5.out.put (.bool yn) (.slice ya yL yc)
                  have TB9_6 : Hid (Two (put2 x5 b10 (.bool yn) (.slice ya yL yc)) b9 _ _ _) := (put2_other nb (.bool yn) (.slice ya yL yc)).trans TB9_5.out
                  have BX6 := hide (put2_below BX5.out LB10.out (.bool yn) (.slice ya yL yc))
                  have HR2_6 := hide (HR2_5.out.k32 (show K32 _ (put2 x5 b10 (.bool yn) (.slice ya yL yc)) from bn))
                  have HR5_6 := hide (HR5_5.out.k32 (show K32 _ (put2 x5 b10 (.bool yn) (.slice ya yL yc)) from bn))
                  clear z0 z1 f0 f1 nb bn
                  refine hK.out _ (put2 x5 b10 (.bool yn) (.slice ya yL yc)) (HS4.out _ BX6.out) (fun hHeld => ?_)
                  clear hK K hHeld
                  generalize put2 x5 b10 (.bool yn) (.slice ya yL yc) = x6 at *
                  try simp only [Act.put, List.setIfInBounds_toArray, List.set_cons_zero, List.set_cons_succ]
                  refine wpAnyH_done (by kernel_rfl) ?_ _
                  go_wp2_with fail
                  go_meet
                  exact ⟨b9, b10, xn, xa, xL, xc, yn, ya, yL, yc, rfl, rfl, TB9_6.out, TB10_6.out, HR2_6.out, HR5_6.out, BX6.out⟩
            · go_simp
              have tn := Two.new wd (.bool false) (.slice none 0 0) 24
              have hb := bel wd (.cells #[.bool false, .slice none 0 0] 24)
              have BX1 := hide (bafter BX0.out hb (Nat.le_refl _))
              have LB9 : Hid (w4.heap.size ≤ wd.heap.size) := BX0.out.size
              have TB9_1 := hide tn
              clear tn hb
              generalize wd.heap.size = b9 at *
              generalize wd.alloc (.cells #[.bool false, .slice none 0 0] 24) = x1 at *
              refine hK.out _ _ (HS4.out _ BX1.out) (fun hHeld => ?_)
              clear hK K hHeld
              try simp only [Act.put, List.setIfInBounds_toArray, List.set_cons_zero, List.set_cons_succ]
              refine wpAnyH_ready (rs := [2, 7]) (by kernel_rfl) (by simp) ?_
              refine AllReadyH.cons rfl (fun K hK => ?_) (AllReadyH.cons rfl (fun K hK => ?_) AllReadyH.nil)
              · go_simp
                refine (HVA.out _ BX1.out).mono ?_
                rintro e x2 ⟨vv, rfl, hr, hb⟩
                obtain ⟨xn, xa, xL, xc, rfl⟩ := hr.form
                have BX2 : Hid (Below w4.heap.size w4 x2) := bafter BX1.out hb (Nat.le_refl _)
                have HR2_2 := hide hr
                have TB9_2 := hide (TB9_1.out.keep hb)
                clear hr hb
                go_wp2_with fail
                refine hK.out _ _ (HS4.out _ BX2.out) (fun hHeld => ?_)
                clear hK K hHeld
                try simp only [Act.put, List.setIfInBounds_toArray, List.set_cons_zero, List.set_cons_succ]
                refine wpAnyH_ready (rs := [5, 7]) (by kernel_rfl) (by simp) ?_
                refine AllReadyH.cons rfl (fun K hK => ?_) (AllReadyH.cons rfl (fun K hK => ?_) AllReadyH.nil)
                · go_simp
                  refine (HVB.out _ BX2.out).mono ?_
                  rintro e x3 ⟨vv, rfl, hr, hb⟩
                  obtain ⟨yn, ya, yL, yc, rfl⟩ := hr.form
                  have BX3 : Hid (Below w4.heap.size w4 x3) := bafter BX2.out hb (Nat.le_refl _)
                  have HR5_3 := hide hr
                  have HR2_3 := hide (HR2_2.out.below hb)
                  have TB9_3 := hide (TB9_2.out.keep hb)
                  clear hr hb
                  go_wp2_with fail
                  refine hK.out _ _ (HS4.out _ BX3.out) (fun hHeld => ?_)
                  clear hK K hHeld
                  try simp only [Act.put, List.setIfInBounds_toArray, List.set_cons_zero, List.set_cons_succ]
                  refine wpAnyH_ready (rs := [7]) (by kernel_rfl) (by simp) ?_
                  refine AllReadyH.cons rfl (fun K hK => ?_) AllReadyH.nil
                  go_simp
                  have tn := Two.new x3 (.bool false) (.slice none 0 0) 24
                  have hb := bel x3 (.cells #[.bool false, .slice none 0 0] 24)
                  have BX4 := hide (bafter BX3.out hb (Nat.le_refl _))
                  have LB10 : Hid (w4.heap.size ≤ x3.heap.size) := BX3.out.size
                  have TB10_4 := hide tn
                  have HR2_4 := hide (HR2_3.out.below hb)
                  have HR5_4 := hide (HR5_3.out.below hb)
                  have TB9_4 := hide (TB9_3.out.keep hb)
                  have NE : Hid (b9 ≠ x3.heap.size) := Nat.ne_of_lt TB9_3.out.lt'
                  clear tn hb
                  generalize x3.heap.size = b10 at *
                  generalize x3.alloc (.cells #[.bool false, .slice none 0 0] 24) = x4 at *
                  refine hK.out _ _ (HS4.out _ BX4.out) (fun hHeld => ?_)
                  clear hK K hHeld
                  try simp only [Act.put, List.setIfInBounds_toArray, List.set_cons_zero, List.set_cons_succ]
                  refine wpAnyH_ready (rs := [8]) (by kernel_rfl) (by simp) ?_
                  refine AllReadyH.cons rfl (fun K hK => ?_) AllReadyH.nil
                  obtain ⟨z0, z1, f0, f1, _, _⟩ := TB9_4.out.every
                  go_simp
                  have nb : b10 ≠ b9 := by first | exact NE.out | exact NE.out.symm
                  have bn := (TB9_4.out.but (.bool xn) (.slice xa xL xc)).k32
                  have TB9_5 : Hid (Two (put2 x4 b9 (.bool xn) (.slice xa xL xc)) b9 (.bool xn) (.slice xa xL xc) 24) := TB9_4.out.put (.bool xn) (.slice xa xL xc)
                  have TB10_5 : Hid (Two (put2 x4 b9 (.bool xn) (.slice xa xL xc)) b10 _ _ _) := (put2_other nb (.bool xn) (.slice xa xL xc)).trans TB10_4.out
                  have BX5 := hide (put2_below BX4.out LB9.out (.bool xn) (.slice xa xL xc))
                  have HR2_5 := hide (HR2_4.out.k32 (show K32 _ (put2 x4 b9 (.bool xn) (.slice xa xL xc)) from bn))
                  have HR5_5 := hide (HR5_4.out.k32 (show K32 _ (put2 x4 b9 (.bool xn) (.slice xa xL xc)) from bn))
                  clear z0 z1 f0 f1 nb bn
                  refine hK.out _ (put2 x4 b9 (.bool xn) (.slice xa xL xc)) (HS4.out _ BX5.out) (fun hHeld => ?_)
                  clear hK K hHeld
                  generalize put2 x4 b9 (.bool xn) (.slice xa xL xc) = x5 at *
                  try simp only [Act.put, List.setIfInBounds_toArray, List.set_cons_zero, List.set_cons_succ]
                  refine wpAnyH_ready (rs := [9]) (by kernel_rfl) (by simp) ?_
                  refine AllReadyH.cons rfl (fun K hK => ?_) AllReadyH.nil
                  obtain ⟨z0, z1, f0, f1, _, _⟩ := TB10_5.out.every
                  go_simp
                  have nb : b9 ≠ b10 := by first | exact NE.out | exact NE.out.symm
                  have bn := (TB10_5.out.but (.bool yn) (.slice ya yL yc)).k32
                  have TB10_6 : Hid (Two (put2 x5 b10 (.bool yn) (.slice ya yL yc)) b10 (.bool yn) (.slice ya yL yc) 24) := TB10_5.out.put (.bool yn) (.slice ya yL yc)
                  have TB9_6 : Hid (Two (put2 x5 b10 (.bool yn) (.slice ya yL yc)) b9 _ _ _) := (put2_other nb (.bool yn) (.slice ya yL yc)).trans TB9_5.out
                  have BX6 := hide (put2_below BX5.out LB10.out (.bool yn) (.slice ya yL yc))
                  have HR2_6 := hide (HR2_5.out.k32 (show K32 _ (put2 x5 b10 (.bool yn) (.slice ya yL yc)) from bn))
                  have HR5_6 := hide (HR5_5.out.k32 (show K32 _ (put2 x5 b10 (.bool yn) (.slice ya yL yc)) from bn))
                  clear z0 z1 f0 f1 nb bn
                  refine hK.out _ (put2 x5 b10 (.bool yn) (.slice ya yL yc)) (HS4.out _ BX6.out) (fun hHeld => ?_)
                  clear hK K hHeld
                  generalize put2 x5 b10 (.bool yn) (.slice ya yL yc) = x6 at *
                  try simp only [Act.put, List.setIfInBounds_toArray, List.set_cons_zero, List.set_cons_succ]
                  refine wpAnyH_done (by kernel_rfl) ?_ _
                  go_wp2_with fail
                  go_meet
                  exact ⟨b9, b10, xn, xa, xL, xc, yn, ya, yL, yc, rfl, rfl, TB9_6.out, TB10_6.out, HR2_6.out, HR5_6.out, BX6.out⟩
                · go_simp
                  have tn := Two.new x2 (.bool false) (.slice none 0 0) 24
                  have hb := bel x2 (.cells #[.bool false, .slice none 0 0] 24)
                  have BX3 := hide (bafter BX2.out hb (Nat.le_refl _))
                  have LB10 : Hid (w4.heap.size ≤ x2.heap.size) := BX2.out.size
                  have TB10_3 := hide tn
                  have HR2_3 := hide (HR2_2.out.below hb)
                  have TB9_3 := hide (TB9_2.out.keep hb)
                  have NE : Hid (b9 ≠ x2.heap.size) := Nat.ne_of_lt TB9_2.out.lt'
                  clear tn hb
                  generalize x2.heap.size = b10 at *
                  generalize x2.alloc (.cells #[.bool false, .slice none 0 0] 24) = x3 at *
                  refine hK.out _ _ (HS4.out _ BX3.out) (fun hHeld => ?_)
                  clear hK K hHeld
                  try simp only [Act.put, List.setIfInBounds_toArray, List.set_cons_zero, List.set_cons_succ]
                  refine wpAnyH_ready (rs := [5]) (by kernel_rfl) (by simp) ?_
                  refine AllReadyH.cons rfl (fun K hK => ?_) AllReadyH.nil
                  go_simp
                  refine (HVB.out _ BX3.out).mono ?_
                  rintro e x4 ⟨vv, rfl, hr, hb⟩
                  obtain ⟨yn, ya, yL, yc, rfl⟩ := hr.form
                  have BX4 : Hid (Below w4.heap.size w4 x4) := bafter BX3.out hb (Nat.le_refl _)
                  have HR5_4 := hide hr
                  have HR2_4 := hide (HR2_3.out.below hb)
                  have TB9_4 := hide (TB9_3.out.keep hb)
                  have TB10_4 := hide (TB10_3.out.keep hb)
                  clear hr hb
                  go_wp2_with fail
                  refine hK.out _ _ (HS4.out _ BX4.out) (fun hHeld => ?_)
                  clear hK K hHeld
                  try simp only [Act.put, List.setIfInBounds_toArray, List.set_cons_zero, List.set_cons_succ]
                  refine wpAnyH_ready (rs := [8]) (by kernel_rfl) (by simp) ?_
                  refine AllReadyH.cons rfl (fun K hK => ?_) AllReadyH.nil
                  obtain ⟨z0, z1, f0, f1, _, _⟩ := TB9_4.out.every
                  go_simp
                  have nb : b10 ≠ b9 := by first | exact NE.out | exact NE.out.symm
                  have bn := (TB9_4.out.but (.bool xn) (.slice xa xL xc)).k32
                  have TB9_5 : Hid (Two (put2 x4 b9 (.bool xn) (.slice xa xL xc)) b9 (.bool xn) (.slice xa xL xc) 24) := TB9_4.out.put (.bool xn) (.slice xa xL xc)
                  have TB10_5 : Hid (Two (put2 x4 b9 (.bool xn) (.slice xa xL xc)) b10 _ _ _) := (put2_other nb (.bool xn) (.slice xa xL xc)).trans TB10_4.out
                  have BX5 := hide (put2_below BX4.out LB9.out (.bool xn) (.slice xa xL xc))
                  have HR2_5 := hide (HR2_4.out.k32 (show K32 _ (put2 x4 b9 (.bool xn) (.slice xa xL xc)) from bn))
                  have HR5_5 := hide (HR5_4.out.k32 (show K32 _ (put2 x4 b9 (.bool xn) (.slice xa xL xc)) from bn))
                  clear z0 z1 f0 f1 nb bn
                  refine hK.out _ (put2 x4 b9 (.bool xn) (.slice xa xL xc)) (HS4.out _ BX5.out) (fun hHeld => ?_)
                  clear hK K hHeld
                  generalize put2 x4 b9 (.bool xn) (.slice xa xL xc) = x5 at *
                  try simp only [Act.put, List.setIfInBounds_toArray, List.set_cons_zero, List.set_cons_succ]
                  refine wpAnyH_ready (rs := [9]) (by kernel_rfl) (by simp) ?_
                  refine AllReadyH.cons rfl (fun K hK => ?_) AllReadyH.nil
                  obtain ⟨z0, z1, f0, f1, _, _⟩ := TB10_5.out.every
                  go_simp
                  have nb : b9 ≠ b10 := by first | exact NE.out | exact NE.out.symm
                  have bn := (TB10_5.out.but (.bool yn) (.slice ya yL yc)).k32
                  have TB10_6 : Hid (Two (put2 x5 b10 (.bool yn) (.slice ya yL yc)) b10 (.bool yn) (.slice ya yL yc) 24) := TB10_5.out.put (.bool yn) (.slice ya yL yc)
                  have TB9_6 : Hid (Two (put2 x5 b10 (.bool yn) (.slice ya yL yc)) b9 _ _ _) := (put2_other nb (.bool yn) (.slice ya yL yc)).trans TB9_5.out
                  have BX6 := hide (put2_below BX5.out LB10.out (.bool yn) (.slice ya yL yc))
                  have HR2_6 := hide (HR2_5.out.k32 (show K32 _ (put2 x5 b10 (.bool yn) (.slice ya yL yc)) from bn))
                  have HR5_6 := hide (HR5_5.out.k32 (show K32 _ (put2 x5 b10 (.bool yn) (.slice ya yL yc)) from bn))
                  clear z0 z1 f0 f1 nb bn
                  refine hK.out _ (put2 x5 b10 (.bool yn) (.slice ya yL yc)) (HS4.out _ BX6.out) (fun hHeld => ?_)
                  clear hK K hHeld
                  generalize put2 x5 b10 (.bool yn) (.slice ya yL yc) = x6 at *
                  try simp only [Act.put, List.setIfInBounds_toArray, List.set_cons_zero, List.set_cons_succ]
                  refine wpAnyH_done (by kernel_rfl) ?_ _
                  go_wp2_with fail
                  go_meet
                  exact ⟨b9, b10, xn, xa, xL, xc, yn, ya, yL, yc, rfl, rfl, TB9_6.out, TB10_6.out, HR2_6.out, HR5_6.out, BX6.out⟩
              · go_simp
                have tn := Two.new x1 (.bool false) (.slice none 0 0) 24
                have hb := bel x1 (.cells #[.bool false, .slice none 0 0] 24)
                have BX2 := hide (bafter BX1.out hb (Nat.le_refl _))
                have LB10 : Hid (w4.heap.size ≤ x1.heap.size) := BX1.out.size
                have TB10_2 := hide tn
                have TB9_2 := hide (TB9_1.out.keep hb)
                have NE : Hid (b9 ≠ x1.heap.size) := Nat.ne_of_lt TB9_1.out.lt'
                clear tn hb
                generalize x1.heap.size = b10 at *
                generalize x1.alloc (.cells #[.bool false, .slice none 0 0] 24) = x2 at *
                refine hK.out _ _ (HS4.out _ BX2.out) (fun hHeld => ?_)
                clear hK K hHeld
                try simp only [Act.put, List.setIfInBounds_toArray, List.set_cons_zero, List.set_cons_succ]
                refine wpAnyH_ready (rs := [2]) (by kernel_rfl) (by simp) ?_
                refine AllReadyH.cons rfl (fun K hK => ?_) AllReadyH.nil
                go_simp
                refine (HVA.out _ BX2.out).mono ?_
                rintro e x3 ⟨vv, rfl, hr, hb⟩
                obtain ⟨xn, xa, xL, xc, rfl⟩ := hr.form
                have BX3 : Hid (Below w4.heap.size w4 x3) := bafter BX2.out hb (Nat.le_refl _)
                have HR2_3 := hide hr
                have TB9_3 := hide (TB9_2.out.keep hb)
                have TB10_3 := hide (TB10_2.out.keep hb)
                clear hr hb
                go_wp2_with fail
                refine hK.out _ _ (HS4.out _ BX3.out) (fun hHeld => ?_)
                clear hK K hHeld
                try simp only [Act.put, List.setIfInBounds_toArray, List.set_cons_zero, List.set_cons_succ]
                refine wpAnyH_ready (rs := [5]) (by kernel_rfl) (by simp) ?_
                refine AllReadyH.cons rfl (fun K hK => ?_) AllReadyH.nil
                go_simp
                refine (HVB.out _ BX3.out).mono ?_
                rintro e x4 ⟨vv, rfl, hr, hb⟩
                obtain ⟨yn, ya, yL, yc, rfl⟩ := hr.form
                have BX4 : Hid (Below w4.heap.size w4 x4) := bafter BX3.out hb (Nat.le_refl _)
                have HR5_4 := hide hr
                have HR2_4 := hide (HR2_3.out.below hb)
                have TB9_4 := hide (TB9_3.out.keep hb)
                have TB10_4 := hide (TB10_3.out.keep hb)
                clear hr hb
                go_wp2_with fail
                refine hK.out _ _ (HS4.out _ BX4.out) (fun hHeld => ?_)
                clear hK K hHeld
                try simp only [Act.put, List.setIfInBounds_toArray, List.set_cons_zero, List.set_cons_succ]
                refine wpAnyH_ready (rs := [8]) (by kernel_rfl) (by simp) ?_
                refine AllReadyH.cons rfl (fun K hK => ?_) AllReadyH.nil
                obtain ⟨z0, z1, f0, f1, _, _⟩ := TB9_4.out.every
                go_simp
                have nb : b10 ≠ b9 := by first | exact NE.out | exact NE.out.symm
                have bn := (TB9_4.out.but (.bool xn) (.slice xa xL xc)).k32
                have TB9_5 : Hid (Two (put2 x4 b9 (.bool xn) (.slice xa xL xc)) b9 (.bool xn) (.slice xa xL xc) 24) := TB9_4.out.put (.bool xn) (.slice xa xL xc)
                have TB10_5 : Hid (Two (put2 x4 b9 (.bool xn) (.slice xa xL xc)) b10 _ _ _) := (put2_other nb (.bool xn) (.slice xa xL xc)).trans TB10_4.out
                have BX5 := hide (put2_below BX4.out LB9.out (.bool xn) (.slice xa xL xc))
                have HR2_5 := hide (HR2_4.out.k32 (show K32 _ (put2 x4 b9 (.bool xn) (.slice xa xL xc)) from bn))
                have HR5_5 := hide (HR5_4.out.k32 (show K32 _ (put2 x4 b9 (.bool xn) (.slice xa xL xc)) from bn))
                clear z0 z1 f0 f1 nb bn
                refine hK.out _ (put2 x4 b9 (.bool xn) (.slice xa xL xc)) (HS4.out _ BX5.out) (fun hHeld => ?_)
                clear hK K hHeld
                generalize put2 x4 b9 (.bool xn) (.slice xa xL xc) = x5 at *
                try simp only [Act.put, List.setIfInBounds_toArray, List.set_cons_zero, List.set_cons_succ]
                refine wpAnyH_ready (rs := [9]) (by kernel_rfl) (by simp) ?_
                refine AllReadyH.cons rfl (fun K hK => ?_) AllReadyH.nil
                obtain ⟨z0, z1, f0, f1, _, _⟩ := TB10_5.out.every
                go_simp
                have nb : b9 ≠ b10 := by first | exact NE.out | exact NE.out.symm
                have bn := (TB10_5.out.but (.bool yn) (.slice ya yL yc)).k32
                have TB10_6 : Hid (Two (put2 x5 b10 (.bool yn) (.slice ya yL yc)) b10 (.bool yn) (.slice ya yL yc) 24) := TB10_5.out.put (.bool yn) (.slice ya yL yc)
                have TB9_6 : Hid (Two (put2 x5 b10 (.bool yn) (.slice ya yL yc)) b9 _ _ _) := (put2_other nb (.bool yn) (.slice ya yL yc)).trans TB9_5.out
                have BX6 := hide (put2_below BX5.out LB10.out (.bool yn) (.slice ya yL yc))
                have HR2_6 := hide (HR2_5.out.k32 (show K32 _ (put2 x5 b10 (.bool yn) (.slice ya yL yc)) from bn))
                have HR5_6 := hide (HR5_5.out.k32 (show K32 _ (put2 x5 b10 (.bool yn) (.slice ya yL yc)) from bn))
                clear z0 z1 f0 f1 nb bn
                refine hK.out _ (put2 x5 b10 (.bool yn) (.slice ya yL yc)) (HS4.out _ BX6.out) (fun hHeld => ?_)
                clear hK K hHeld
                generalize put2 x5 b10 (.bool yn) (.slice ya yL yc) = x6 at *
                try simp only [Act.put, List.setIfInBounds_toArray, List.set_cons_zero, List.set_cons_succ]
                refine wpAnyH_done (by kernel_rfl) ?_ _
                go_wp2_with fail
                go_meet
                exact ⟨b9, b10, xn, xa, xL, xc, yn, ya, yL, yc, rfl, rfl, TB9_6.out, TB10_6.out, HR2_6.out, HR5_6.out, BX6.out⟩
            · go_simp
              have tn := Two.new wd (.bool false) (.slice none 0 0) 24
              have hb := bel wd (.cells #[.bool false, .slice none 0 0] 24)
              have BX1 := hide (bafter BX0.out hb (Nat.le_refl _))
              have LB10 : Hid (w4.heap.size ≤ wd.heap.size) := BX0.out.size
              have TB10_1 := hide tn
              clear tn hb
              generalize wd.heap.size = b10 at *
              generalize wd.alloc (.cells #[.bool false, .slice none 0 0] 24) = x1 at *
              refine hK.out _ _ (HS4.out _ BX1.out) (fun hHeld => ?_)
              clear hK K hHeld
              try simp only [Act.put, List.setIfInBounds_toArray, List.set_cons_zero, List.set_cons_succ]
              refine wpAnyH_ready (rs := [2, 6]) (by kernel_rfl) (by simp) ?_
              refine AllReadyH.cons rfl (fun K hK => ?_) (AllReadyH.cons rfl (fun K hK => ?_) AllReadyH.nil)
              · go_simp
                refine (HVA.out _ BX1.out).mono ?_
                rintro e x2 ⟨vv, rfl, hr, hb⟩
                obtain ⟨xn, xa, xL, xc, rfl⟩ := hr.form
                have BX2 : Hid (Below w4.heap.size w4 x2) := bafter BX1.out hb (Nat.le_refl _)
                have HR2_2 := hide hr
                have TB10_2 := hide (TB10_1.out.keep hb)
                clear hr hb
                go_wp2_with fail
                refine hK.out _ _ (HS4.out _ BX2.out) (fun hHeld => ?_)
                clear hK K hHeld
                try simp only [Act.put, List.setIfInBounds_toArray, List.set_cons_zero, List.set_cons_succ]
                refine wpAnyH_ready (rs := [5, 6]) (by kernel_rfl) (by simp) ?_
                refine AllReadyH.cons rfl (fun K hK => ?_) (AllReadyH.cons rfl (fun K hK => ?_) AllReadyH.nil)
                · go_simp
                  refine (HVB.out _ BX2.out).mono ?_
                  rintro e x3 ⟨vv, rfl, hr, hb⟩
                  obtain ⟨yn, ya, yL, yc, rfl⟩ := hr.form
                  have BX3 : Hid (Below w4.heap.size w4 x3) := bafter BX2.out hb (Nat.le_refl _)
                  have HR5_3 := hide hr
                  have HR2_3 := hide (HR2_2.out.below hb)
                  have TB10_3 := hide (TB10_2.out.keep hb)
                  clear hr hb
                  go_wp2_with fail
                  refine hK.out _ _ (HS4.out _ BX3.out) (fun hHeld => ?_)
                  clear hK K hHeld
                  try simp only [Act.put, List.setIfInBounds_toArray, List.set_cons_zero, List.set_cons_succ]
                  refine wpAnyH_ready (rs := [6]) (by kernel_rfl) (by simp) ?_
                  refine AllReadyH.cons rfl (fun K hK => ?_) AllReadyH.nil
                  go_simp
                  have tn := Two.new x3 (.bool false) (.slice none 0 0) 24
                  have hb := bel x3 (.cells #[.bool false, .slice none 0 0] 24)
                  have BX4 := hide (bafter BX3.out hb (Nat.le_refl _))
                  have LB9 : Hid (w4.heap.size ≤ x3.heap.size) := BX3.out.size
                  have TB9_4 := hide tn
                  have HR2_4 := hide (HR2_3.out.below hb)
                  have HR5_4 := hide (HR5_3.out.below hb)
                  have TB10_4 := hide (TB10_3.out.keep hb)
                  have NE : Hid (b10 ≠ x3.heap.size) := Nat.ne_of_lt TB10_3.out.lt'
                  clear tn hb
                  generalize x3.heap.size = b9 at *
                  generalize x3.alloc (.cells #[.bool false, .slice none 0 0] 24) = x4 at *
                  refine hK.out _ _ (HS4.out _ BX4.out) (fun hHeld => ?_)
                  clear hK K hHeld
                  try simp only [Act.put, List.setIfInBounds_toArray, List.set_cons_zero, List.set_cons_succ]
                  refine wpAnyH_ready (rs := [8]) (by kernel_rfl) (by simp) ?_
                  refine AllReadyH.cons rfl (fun K hK => ?_) AllReadyH.nil
                  obtain ⟨z0, z1, f0, f1, _, _⟩ := TB9_4.out.every
                  go_simp
                  have nb : b10 ≠ b9 := by first | exact NE.out | exact NE.out.symm
                  have bn := (TB9_4.out.but (.bool xn) (.slice xa xL xc)).k32
                  have TB9_5 : Hid (Two (put2 x4 b9 (.bool xn) (.slice xa xL xc)) b9 (.bool xn) (.slice xa xL xc) 24) := TB9_4.out.put (.bool xn) (.slice xa xL xc)
                  have TB10_5 : Hid (Two (put2 x4 b9 (.bool xn) (.slice xa xL xc)) b10 _ _ _) := (put2_other nb (.bool xn) (.slice xa xL xc)).trans TB10_4.out
                  have BX5 := hide (put2_below BX4.out LB9.out (.bool xn) (.slice xa xL xc))
                  have HR2_5 := hide (HR2_4.out.k32 (show K32 _ (put2 x4 b9 (.bool xn) (.slice xa xL xc)) from bn))
                  have HR5_5 := hide (HR5_4.out.k32 (show K32 _ (put2 x4 b9 (.bool xn) (.slice xa xL xc)) from bn))
                  clear z0 z1 f0 f1 nb bn
                  refine hK.out _ (put2 x4 b9 (.bool xn) (.slice xa xL xc)) (HS4.out _ BX5.out) (fun hHeld => ?_)
                  clear hK K hHeld
                  generalize put2 x4 b9 (.bool xn) (.slice xa xL xc) = x5 at *
                  try simp only [Act.put, List.setIfInBounds_toArray, List.set_cons_zero, List.set_cons_succ]
                  refine wpAnyH_ready (rs := [9]) (by kernel_rfl) (by simp) ?_
                  refine AllReadyH.cons rfl (fun K hK => ?_) AllReadyH.nil
                  obtain ⟨z0, z1, f0, f1, _, _⟩ := TB10_5.out.every
                  go_simp
                  have nb : b9 ≠ b10 := by first | exact NE.out | exact NE.out.symm
                  have bn := (TB10_5.out.but (.bool yn) (.slice ya yL yc)).k32
                  have TB10_6 : Hid (Two (put2 x5 b10 (.bool yn) (.slice ya yL yc)) b10 (.bool yn) (.slice ya yL yc) 24) := TB10_5.out.put (.bool yn) (.slice ya yL yc)
                  have TB9_6 : Hid (Two (put2 x5 b10 (.bool yn) (.slice ya yL yc)) b9 _ _ _) := (put2_other nb (.bool yn) (.slice ya yL yc)).trans TB9_5.out
                  have BX6 := hide (put2_below BX5.out LB10.out (.bool yn) (.slice ya yL yc))
                  have HR2_6 := hide (HR2_5.out.k32 (show K32 _ (put2 x5 b10 (.bool yn) (.slice ya yL yc)) from bn))
                  have HR5_6 := hide (HR5_5.out.k32 (show K32 _ (put2 x5 b10 (.bool yn) (.slice ya yL yc)) from bn))
                  clear z0 z1 f0 f1 nb bn
                  refine hK.out _ (put2 x5 b10 (.bool yn) (.slice ya yL yc)) (HS4.out _ BX6.out) (fun hHeld => ?_)
                  clear hK K hHeld
                  generalize put2 x5 b10 (.bool yn) (.slice ya yL yc) = x6 at *
                  try simp only [Act.put, List.setIfInBounds_toArray, List.set_cons_zero, List.set_cons_succ]
                  refine wpAnyH_done (by kernel_rfl) ?_ _
                  go_wp2_with fail
                  go_meet
                  exact ⟨b9, b10, xn, xa, xL, xc, yn, ya, yL, yc, rfl, rfl, TB9_6.out, TB10_6.out, HR2_6.out, HR5_6.out, BX6.out⟩
                · go_simp
                  have tn := Two.new x2 (.bool false) (.slice none 0 0) 24
                  have hb := bel x2 (.cells #[.bool false, .slice none 0 0] 24)
                  have BX3 := hide (bafter BX2.out hb (Nat.le_refl _))
                  have LB9 : Hid (w4.heap.size ≤ x2.heap.size) := BX2.out.size
                  have TB9_3 := hide tn
                  have HR2_3 := hide (HR2_2.out.below hb)
                  have TB10_3 := hide (TB10_2.out.keep hb)
                  have NE : Hid (b10 ≠ x2.heap.size) := Nat.ne_of_lt TB10_2.out.lt'
                  clear tn hb
                  generalize x2.heap.size = b9 at *
                  generalize x2.alloc (.cells #[.bool false, .slice none 0 0] 24) = x3 at *
                  refine hK.out _ _ (HS4.out _ BX3.out) (fun hHeld => ?_)
                  clear hK K hHeld
                  try simp only [Act.put, List.setIfInBounds_toArray, List.set_cons_zero, List.set_cons_succ]
                  refine wpAnyH_ready (rs := [5]) (by kernel_rfl) (by simp) ?_
                  refine AllReadyH.cons rfl (fun K hK => ?_) AllReadyH.nil
                  go_simp
                  refine (HVB.out _ BX3.out).mono ?_
                  rintro e x4 ⟨vv, rfl, hr, hb⟩
                  obtain ⟨yn, ya, yL, yc, rfl⟩ := hr.form
                  have BX4 : Hid (Below w4.heap.size w4 x4) := bafter BX3.out hb (Nat.le_refl _)
                  have HR5_4 := hide hr
                  have HR2_4 := hide (HR2_3.out.below hb)
                  have TB9_4 := hide (TB9_3.out.keep hb)
                  have TB10_4 := hide (TB10_3.out.keep hb)
                  clear hr hb
                  go_wp2_with fail
                  refine hK.out _ _ (HS4.out _ BX4.out) (fun hHeld => ?_)
                  clear hK K hHeld
                  try simp only [Act.put, List.setIfInBounds_toArray, List.set_cons_zero, List.set_cons_succ]
                  refine wpAnyH_ready (rs := [8]) (by kernel_rfl) (by simp) ?_
                  refine AllReadyH.cons rfl (fun K hK => ?_) AllReadyH.nil
                  obtain ⟨z0, z1, f0, f1, _, _⟩ := TB9_4.out.every
                  go_simp
                  have nb : b10 ≠ b9 := by first | exact NE.out | exact NE.out.symm
                  have bn := (TB9_4.out.but (.bool xn) (.slice xa xL xc)).k32
                  have TB9_5 : Hid (Two (put2 x4 b9 (.bool xn) (.slice xa xL xc)) b9 (.bool xn) (.slice xa xL xc) 24) := TB9_4.out.put (.bool xn) (.slice xa xL xc)
                  have TB10_5 : Hid (Two (put2 x4 b9 (.bool xn) (.slice xa xL xc)) b10 _ _ _) := (put2_other nb (.bool xn) (.slice xa xL xc)).trans TB10_4.out
                  have BX5 := hide (put2_below BX4.out LB9.out (.bool xn) (.slice xa xL xc))
                  have HR2_5 := hide (HR2_4.out.k32 (show K32 _ (put2 x4 b9 (.bool xn) (.slice xa xL xc)) from bn))
                  have HR5_5 := hide (HR5_4.out.k32 (show K32 _ (put2 x4 b9 (.bool xn) (.slice xa xL xc)) from bn))
                  clear z0 z1 f0 f1 nb bn
                  refine hK.out _ (put2 x4 b9 (.bool xn) (.slice xa xL xc)) (HS4.out _ BX5.out) (fun hHeld => ?_)
                  clear hK K hHeld
                  generalize put2 x4 b9 (.bool xn) (.slice xa xL xc) = x5 at *
                  try simp only [Act.put, List.setIfInBounds_toArray, List.set_cons_zero, List.set_cons_succ]
                  refine wpAnyH_ready (rs := [9]) (by kernel_rfl) (by simp) ?_
                  refine AllReadyH.cons rfl (fun K hK => ?_) AllReadyH.nil
                  obtain ⟨z0, z1, f0, f1, _, _⟩ := TB10_5.out.every
                  go_simp
                  have nb : b9 ≠ b10 := by first | exact NE.out | exact NE.out.symm
                  have bn := (TB10_5.out.but (.bool yn) (.slice ya yL yc)).k32
                  have TB10_6 : Hid (Two (put2 x5 b10 (.bool yn) (.slice ya yL yc)) b10 (.bool yn) (.slice ya yL yc) 24) := TB10_5.out.put (.bool yn) (.slice ya yL yc)
                  have TB9_6 : Hid (Two (put2 x5 b10 (.bool yn) (.slice ya yL yc)) b9 _ _ _) := (put2_other nb (.bool yn) (.slice ya yL yc)).trans TB9_5.out
                  have BX6 := hide (put2_below BX5.out LB10.out (.bool yn) (.slice ya yL yc))
                  have HR2_6 := hide (HR2_5.out.k32 (show K32 _ (put2 x5 b10 (.bool yn) (.slice ya yL yc)) from bn))
                  have HR5_6 := hide (HR5_5.out.k32 (show K32 _ (put2 x5 b10 (.bool yn) (.slice ya yL yc)) from bn))
                  clear z0 z1 f0 f1 nb bn
                  refine hK.out _ (put2 x5 b10 (.bool yn) (.slice ya yL yc)) (HS4.out _ BX6.out) (fun hHeld => ?_)
                  clear hK K hHeld
                  generalize put2 x5 b10 (.bool yn) (.slice ya yL yc) = x6 at *
                  try simp only [Act.put, List.setIfInBounds_toArray, List.set_cons_zero, List.set_cons_succ]
                  refine wpAnyH_done (by kernel_rfl) ?_ _
                  go_wp2_with fail
                  go_meet
                  exact ⟨b9, b10, xn, xa, xL, xc, yn, ya, yL, yc, rfl, rfl, TB9_6.out, TB10_6.out, HR2_6.out, HR5_6.out, BX6.out⟩
              · go_simp
                have tn := Two.new x1 (.bool false) (.slice none 0 0) 24
                have hb := bel x1 (.cells #[.bool false, .slice none 0 0] 24)
                have BX2 := hide (bafter BX1.out hb (Nat.le_refl _))
                have LB9 : Hid (w4.heap.size ≤ x1.heap.size) := BX1.out.size
                have TB9_2 := hide tn
                have TB10_2 := hide (TB10_1.out.keep hb)
                have NE : Hid (b10 ≠ x1.heap.size) := Nat.ne_of_lt TB10_1.out.lt'
                clear tn hb
                generalize x1.heap.size = b9 at *
                generalize x1.alloc (.cells #[.bool false, .slice none 0 0] 24) = x2 at *
                refine hK.out _ _ (HS4.out _ BX2.out) (fun hHeld => ?_)
                clear hK K hHeld
                try simp only [Act.put, List.setIfInBounds_toArray, List.set_cons_zero, List.set_cons_succ]
                refine wpAnyH_ready (rs := [2]) (by kernel_rfl) (by simp) ?_
                refine AllReadyH.cons rfl (fun K hK => ?_) AllReadyH.nil
                go_simp
                refine (HVA.out _ BX2.out).mono ?_
                rintro e x3 ⟨vv, rfl, hr, hb⟩
                obtain ⟨xn, xa, xL, xc, rfl⟩ := hr.form
                have BX3 : Hid (Below w4.heap.size w4 x3) := bafter BX2.out hb (Nat.le_refl _)
                have HR2_3 := hide hr
                have TB9_3 := hide (TB9_2.out.keep hb)
                have TB10_3 := hide (TB10_2.out.keep hb)
                clear hr hb
                go_wp2_with fail
                refine hK.out _ _ (HS4.out _ BX3.out) (fun hHeld => ?_)
                clear hK K hHeld
                try simp only [Act.put, List.setIfInBounds_toArray, List.set_cons_zero, List.set_cons_succ]
                refine wpAnyH_ready (rs := [5]) (by kernel_rfl) (by simp) ?_
                refine AllReadyH.cons rfl (fun K hK => ?_) AllReadyH.nil
                go_simp
                refine (HVB.out _ BX3.out).mono ?_
                rintro e x4 ⟨vv, rfl, hr, hb⟩
                obtain ⟨yn, ya, yL, yc, rfl⟩ := hr.form
                have BX4 : Hid (Below w4.heap.size w4 x4) := bafter BX3.out hb (Nat.le_refl _)
                have HR5_4 := hide hr
                have HR2_4 := hide (HR2_3.out.below hb)
                have TB9_4 := hide (TB9_3.out.keep hb)
                have TB10_4 := hide (TB10_3.out.keep hb)
                clear hr hb
                go_wp2_with fail
                refine hK.out _ _ (HS4.out _ BX4.out) (fun hHeld => ?_)
                clear hK K hHeld
                try simp only [Act.put, List.setIfInBounds_toArray, List.set_cons_zero, List.set_cons_succ]
                refine wpAnyH_ready (rs := [8]) (by kernel_rfl) (by simp) ?_
                refine AllReadyH.cons rfl (fun K hK => ?_) AllReadyH.nil
                obtain ⟨z0, z1, f0, f1, _, _⟩ := TB9_4.out.every
                go_simp
                have nb : b10 ≠ b9 := by first | exact NE.out | exact NE.out.symm
                have bn := (TB9_4.out.but (.bool xn) (.slice xa xL xc)).k32
                have TB9_5 : Hid (Two (put2 x4 b9 (.bool xn) (.slice xa xL xc)) b9 (.bool xn) (.slice xa xL xc) 24) := TB9_4.out.put (.bool xn) (.slice xa xL xc)
                have TB10_5 : Hid (Two (put2 x4 b9 (.bool xn) (.slice xa xL xc)) b10 _ _ _) := (put2_other nb (.bool xn) (.slice xa xL xc)).trans TB10_4.out
                have BX5 := hide (put2_below BX4.out LB9.out (.bool xn) (.slice xa xL xc))
                have HR2_5 := hide (HR2_4.out.k32 (show K32 _ (put2 x4 b9 (.bool xn) (.slice xa xL xc)) from bn))
                have HR5_5 := hide (HR5_4.out.k32 (show K32 _ (put2 x4 b9 (.bool xn) (.slice xa xL xc)) from bn))
                clear z0 z1 f0 f1 nb bn
                refine hK.out _ (put2 x4 b9 (.bool xn) (.slice xa xL xc)) (HS4.out _ BX5.out) (fun hHeld => ?_)
                clear hK K hHeld
                generalize put2 x4 b9 (.bool xn) (.slice xa xL xc) = x5 at *
                try simp only [Act.put, List.setIfInBounds_toArray, List.set_cons_zero, List.set_cons_succ]
                refine wpAnyH_ready (rs := [9]) (by kernel_rfl) (by simp) ?_
                refine AllReadyH.cons rfl (fun K hK => ?_) AllReadyH.nil
                obtain ⟨z0, z1, f0, f1, _, _⟩ := TB10_5.out.every
                go_simp
                have nb : b9 ≠ b10 := by first | exact NE.out | exact NE.out.symm
                have bn := (TB10_5.out.but (.bool yn) (.slice ya yL yc)).k32
                have TB10_6 : Hid (Two (put2 x5 b10 (.bool yn) (.slice ya yL yc)) b10 (.bool yn) (.slice ya yL yc) 24) := TB10_5.out.put (.bool yn) (.slice ya yL yc)
                have TB9_6 : Hid (Two (put2 x5 b10 (.bool yn) (.slice ya yL yc)) b9 _ _ _) := (put2_other nb (.bool yn) (.slice ya yL yc)).trans TB9_5.out
                have BX6 := hide (put2_below BX5.out LB10.out (.bool yn) (.slice ya yL yc))
                have HR2_6 := hide (HR2_5.out.k32 (show K32 _ (put2 x5 b10 (.bool yn) (.slice ya yL yc)) from bn))
                have HR5_6 := hide (HR5_5.out.k32 (show K32 _ (put2 x5 b10 (.bool yn) (.slice ya yL yc)) from bn))
                clear z0 z1 f0 f1 nb bn
                refine hK.out _ (put2 x5 b10 (.bool yn) (.slice ya yL yc)) (HS4.out _ BX6.out) (fun hHeld => ?_)
                clear hK K hHeld
                generalize put2 x5 b10 (.bool yn) (.slice ya yL yc) = x6 at *
                try simp only [Act.put, List.setIfInBounds_toArray, List.set_cons_zero, List.set_cons_succ]
                refine wpAnyH_done (by kernel_rfl) ?_ _
                go_wp2_with fail
                go_meet
                exact ⟨b9, b10, xn, xa, xL, xc, yn, ya, yL, yc, rfl, rfl, TB9_6.out, TB10_6.out, HR2_6.out, HR5_6.out, BX6.out⟩
          case rest =>
            obtain ⟨b9, b10, xn, xa, xL, xc, yn, ya, yL, yc, rfl, rfl, t9, t10, hrx, hry, hb5⟩ := hcut
            have HW5 := hide (bafter HW4.out hb5 (Nat.le_refl _))
            have hbl := bel wc (.cells #[.int .i64 x, .bool yn, .slice ya yL yc] 79)
            have ho := own_lit wc (x, yn, .slice ya yL yc, vb)
            obtain ⟨v7, w7, hrun7, ho7, hg7, ha7, hk7⟩ := run_appB _ wc.heap.size 60 _ [(x, yn, .slice ya yL yc, vb)] ho (.slice la ll lc) L ((HLB.out.row.below HW5.out).below hbl) (fun m hm => by obtain ⟨a, l, c, e⟩ := HLB.out.good.sl m hm; rw [e]; rfl) (by have := HLB.out.len; simp only [List.length_cons, List.length_nil]; omega) hbl.size
            obtain ⟨oa7, oc7, rfl, _, _⟩ := ho7.len
            have HB7 : Hid (Below wc.heap.size wc w7) := hbl.grown hg7 hbl.size (fun j hj => (ho.lt hj).1)
            have HW7 := hide (bafter HW5.out HB7.out (Nat.le_refl _))
            have HRX := hide (hrx.below HB7.out)
            have HRY := hide (hry.below HB7.out)
            have HNX : Hid (NextB w7 oa7 ((x, yn, .slice ya yL yc, vb) :: L).length oc7 ((x, yn, .slice ya yL yc, vb) :: L)) := by
              refine ⟨ho7.row, fun m hm => ?_, fun p hp => ?_, by have := HLB.out.len; simp only [List.length_cons]; omega⟩
              · rcases List.mem_cons.1 hm with rfl | hm
                · exact ⟨HX.out, (HRY.out).arg HYB.out (by omega)⟩
                · exact (HLB.out.good.below HW7.out) m hm
              · rcases List.mem_cons.1 hp with rfl | hp
                · exact HYB.out
                · exact lt_up (HLB.out.bnd p hp) (by omega)
            have HS7 : Hid (∀ X : World, Below w7.heap.size w7 X → X.cell? ⟨b3, 0, none⟩ = some (.bool an) ∧ X.cell? ⟨b3, 1, none⟩ = some (.slice aa aL ac) ∧ X.cell? ⟨b3, 2, none⟩ = some (.slice ap al ak) ∧ X.cell? ⟨b4, 0, none⟩ = some (.bool bn) ∧ X.cell? ⟨b4, 1, none⟩ = some (.slice ba bL bc) ∧ X.cell? ⟨b4, 2, none⟩ = some (.slice bp bl bk) ∧ X.cell? ⟨b9, 0, none⟩ = some (.bool xn) ∧ X.cell? ⟨b9, 1, none⟩ = some (.slice xa xL xc) ∧ X.cell? ⟨b10, 0, none⟩ = some (.bool yn) ∧ X.cell? ⟨b10, 1, none⟩ = some (.slice ya yL yc)) := fun X hX => by
              have hY := bafter HB7.out hX (Nat.le_refl _)
              obtain ⟨p0, p1, p2, p3, p4, p5⟩ := HS4.out X (bafter hb5 hY (Nat.le_refl _))
              exact ⟨p0, p1, p2, p3, p4, p5, (t9.keep hY).c0, (t9.keep hY).c1, (t10.keep hY).c0, (t10.keep hY).c1⟩
            have y0 := t10.c0
            have y1 := t10.c1
            have HRUN := hide hrun7
            generalize hnl : ([((x, yn, .slice ya yL yc, vb) : Pt)] ++ L).length = nl at *
            have hnl2 : (((x, yn, .slice ya yL yc, vb) : Pt) :: L).length = nl := hnl
            rw [hnl2] at HNX
            clear t9 t10 hrx hry hb5 hbl ho ho7 hg7 ha7 hk7 hrun7 hnl hnl2
            have hrun7 := HRUN.out
            go_upto_region 7 with (at_builtin; go_must (refine Lib.wpList_append_run _ rfl _ _ _ _ rfl _ _ rfl rfl _ _ hrun7 ?_))
            clear hrun7 y0 y1
            go_upto_region 7 with fail
            refine wp_region_held_drew (S := fun X : World => X.cell? ⟨b3, 0, none⟩ = some (.bool an) ∧ X.cell? ⟨b3, 1, none⟩ = some (.slice aa aL ac) ∧ X.cell? ⟨b3, 2, none⟩ = some (.slice ap al ak) ∧ X.cell? ⟨b4, 0, none⟩ = some (.bool bn) ∧ X.cell? ⟨b4, 1, none⟩ = some (.slice ba bL bc) ∧ X.cell? ⟨b4, 2, none⟩ = some (.slice bp bl bk) ∧ X.cell? ⟨b9, 0, none⟩ = some (.bool xn) ∧ X.cell? ⟨b9, 1, none⟩ = some (.slice xa xL xc) ∧ X.cell? ⟨b10, 0, none⟩ = some (.bool yn) ∧ X.cell? ⟨b10, 1, none⟩ = some (.slice ya yL yc)) (by kernel_rfl) ?_ (fun hHeld => ?_)
            · exact HS7.out _ (by (first | exact (Below.refl _ _).drew | exact Below.refl _ _))
            refine takeD (i := 0) (v := ?v17) (some 54) rfl (by kernel_rfl) (by kernel_rfl) (by kernel_rfl) (fun _ _ _ h => h) (Or.inl ⟨by rfl, ?hy17⟩) (by assumption) (by rfl) ?rest17
            case hy17 => first | (intro w hSw; (try dsimp only at hSw); obtain ⟨q0, q1, q2, q3, q4, q5, q6, q7, q8, q9⟩ := hSw; go_simp; done) | (intro w hSw; (try dsimp only at hSw); obtain ⟨q0, q1, q2, q3, q4, q5, q6, q7, q8, q9⟩ := hSw; go_simp; with_reducible rfl)
            try simp only [Act.put, List.setIfInBounds_toArray, List.set_cons_zero, List.set_cons_succ]
            refine takeD (i := 1) (v := ?v18) (some 55) rfl (by kernel_rfl) (by kernel_rfl) (by kernel_rfl) (fun _ _ _ h => h) (Or.inl ⟨by rfl, ?hy18⟩) (by assumption) (by rfl) ?rest18
            case hy18 => first | (intro w hSw; (try dsimp only at hSw); obtain ⟨q0, q1, q2, q3, q4, q5, q6, q7, q8, q9⟩ := hSw; go_simp; done) | (intro w hSw; (try dsimp only at hSw); obtain ⟨q0, q1, q2, q3, q4, q5, q6, q7, q8, q9⟩ := hSw; go_simp; with_reducible rfl)
            try simp only [Act.put, List.setIfInBounds_toArray, List.set_cons_zero, List.set_cons_succ]
            refine takeD (i := 3) (v := ?v19) (some 57) rfl (by kernel_rfl) (by kernel_rfl) (by kernel_rfl) (fun _ _ _ h => h) (Or.inl ⟨by rfl, ?hy19⟩) (by assumption) (by rfl) ?rest19
            case hy19 => first | (intro w hSw; (try dsimp only at hSw); obtain ⟨q0, q1, q2, q3, q4, q5, q6, q7, q8, q9⟩ := hSw; go_simp; done) | (intro w hSw; (try dsimp only at hSw); obtain ⟨q0, q1, q2, q3, q4, q5, q6, q7, q8, q9⟩ := hSw; go_simp; with_reducible rfl)
            try simp only [Act.put, List.setIfInBounds_toArray, List.set_cons_zero, List.set_cons_succ]
            refine takeD (i := 5) (v := ?v20) (some 59) rfl (by kernel_rfl) (by kernel_rfl) (by kernel_rfl) (fun _ _ _ h => h) (Or.inl ⟨by rfl, ?hy20⟩) (by assumption) (by rfl) ?rest20
            case hy20 => first | (intro w hSw; (try dsimp only at hSw); obtain ⟨q0, q1, q2, q3, q4, q5, q6, q7, q8, q9⟩ := hSw; go_simp; done) | (intro w hSw; (try dsimp only at hSw); obtain ⟨q0, q1, q2, q3, q4, q5, q6, q7, q8, q9⟩ := hSw; go_simp; with_reducible rfl)
            try simp only [Act.put, List.setIfInBounds_toArray, List.set_cons_zero, List.set_cons_succ]
            refine takeD (i := 6) (v := ?v21) (some 60) rfl (by kernel_rfl) (by kernel_rfl) (by kernel_rfl) (fun _ _ _ h => h) (Or.inl ⟨by rfl, ?hy21⟩) (by assumption) (by rfl) ?rest21
            case hy21 => first | (intro w hSw; (try dsimp only at hSw); obtain ⟨q0, q1, q2, q3, q4, q5, q6, q7, q8, q9⟩ := hSw; go_simp; done) | (intro w hSw; (try dsimp only at hSw); obtain ⟨q0, q1, q2, q3, q4, q5, q6, q7, q8, q9⟩ := hSw; go_simp; with_reducible rfl)
            try simp only [Act.put, List.setIfInBounds_toArray, List.set_cons_zero, List.set_cons_succ]
            refine wpAnyH_ready (rs := [2]) (by kernel_rfl) (by simp) ?_
            refine AllReadyH.cons rfl (fun K hK => ?_) AllReadyH.nil
            go_simp
            refine (ladd_calls (HBO.out.term.below (bafter HW7.out (by (first | exact (Below.refl _ _).drew | exact Below.refl _ _)) (Nat.le_refl _))) (HBP.out.term.below (bafter HW7.out (by (first | exact (Below.refl _ _).drew | exact Below.refl _ _)) (Nat.le_refl _))) (by omega)).mono ?_
            rintro e w21 ⟨v21, M21, rfl, ht21, hc21, hb21⟩
            have HB21 : Hid (Below w7.heap.size w7 w21) := bafter (by (first | exact (Below.refl _ _).drew | exact Below.refl _ _)) hb21 (Nat.le_refl _)
            have HBS21 := hide hb21
            obtain ⟨en, ea, eL, ec, ep, el, ek, rfl⟩ := ht21.form
            have HT21 := hide ht21
            have HC21 := hide hc21
            clear ht21 hc21 hb21 hHeld
            go_wp2_with fail
            refine hK.out _ _ (HS7.out _ HB21.out) (fun hHeld => ?_)
            clear hK K
            try simp only [Act.put, List.setIfInBounds_toArray, List.set_cons_zero, List.set_cons_succ]
            have HG21 := hide (HT21.out.great (k := 9) (j := 300) (l := ps A ++ ps B) (fun u => by rw [HC21.out, cf_append]) (bnd_append (bnd_up HBO.out.term.bnd.1 (by omega)) (bnd_up HBP.out.term.bnd.1 (by omega))) (by rw [List.length_append, ps_length, ps_length]; have := HBO.out.len; have := HBP.out.len; omega) (pl_add HBO.out.term.bnd.2 HBP.out.term.bnd.2) (by omega) (by omega))
            refine wpAnyH_ready (rs := [4]) (by kernel_rfl) (by simp) ?_
            refine AllReadyH.cons rfl (fun K hK => ?_) AllReadyH.nil
            go_simp
            refine (eval_calls (k := 300) HG21.out (HLB.out.row.below (bafter HW7.out HB21.out (Nat.le_refl _))) (HLB.out.good.below (bafter HW7.out HB21.out (Nat.le_refl _))) (bnd_up HLB.out.bnd (by omega)) (by have := HLB.out.len; omega) (by omega)).mono ?_
            rintro e w22 ⟨v22, rfl, hr22, hb22⟩
            have HB22 : Hid (Below w7.heap.size w7 w22) := bafter HB21.out hb22 (Nat.le_refl _)
            have HBS22 := hide hb22
            obtain ⟨fn, fa, fL, fc, rfl⟩ := hr22.form
            have HR22 := hide hr22
            clear hr22 hb22 hHeld
            go_wp2_with fail
            refine hK.out _ _ (HS7.out _ HB22.out) (fun hHeld => ?_)
            clear hK K
            try simp only [Act.put, List.setIfInBounds_toArray, List.set_cons_zero, List.set_cons_succ]
            refine wpAnyH_ready (rs := [7]) (by kernel_rfl) (by simp) ?_
            refine AllReadyH.cons rfl (fun K hK => ?_) AllReadyH.nil
            go_simp
            refine (badd_calls ((HRX.out.below HB22.out).arg (lt_up HXB.out (show 40 ≤ 40 by omega)) (by omega)) ((HRY.out.below HB22.out).arg (lt_up HYB.out (show 40 ≤ 40 by omega)) (by omega))).mono ?_
            rintro e w23 ⟨v23, rfl, hr23, hb23⟩
            have HB23 : Hid (Below w7.heap.size w7 w23) := bafter HB22.out hb23 (Nat.le_refl _)
            have HBS23 := hide hb23
            obtain ⟨gn, ga, gL, gc, rfl⟩ := hr23.form
            have HR23 := hide hr23
            clear hr23 hb23 hHeld
            go_wp2_with fail
            refine hK.out _ _ (HS7.out _ HB23.out) (fun hHeld => ?_)
            clear hK K
            try simp only [Act.put, List.setIfInBounds_toArray, List.set_cons_zero, List.set_cons_succ]
            have HE1 : Hid (c + d + ev (lookZ L) (ps M21) = va + vb) := by
              show _ = _
              rw [ev_plus (lookZ L) HC21.out, HVAE.out, HVBE.out]
              omega
            have HN1 : Hid ((va + vb).natAbs < R ^ 41) := pl_add HXB.out HYB.out
            have HR22b : Hid (BRes w22 (.agg #[.bool fn, .slice fa fL fc]) (va + vb)) := by
              have h9 := HR22.out
              rw [HE1.out] at h9
              exact h9
            refine wpAnyH_ready (rs := [8]) (by kernel_rfl) (by simp) ?_
            refine AllReadyH.cons rfl (fun K hK => ?_) AllReadyH.nil
            go_simp
            refine (bcmp_same ((HR22b.out.below HBS23.out).arg HN1.out (by omega)) (HR23.out.arg HN1.out (by omega)) rfl).mono ?_
            rintro e w24 ⟨rfl, hb24⟩
            have HB24 : Hid (Below w7.heap.size w7 w24) := bafter HB23.out hb24 (Nat.le_refl _)
            have HBS24 := hide hb24
            clear hb24 hHeld
            go_wp2_with fail
            refine hK.out _ _ (HS7.out _ HB24.out) (fun hHeld => ?_)
            clear hK K
            try simp only [Act.put, List.setIfInBounds_toArray, List.set_cons_zero, List.set_cons_succ]
            refine takeD (i := 9) (v := ?v22) (some 63) rfl (by kernel_rfl) (by kernel_rfl) (by kernel_rfl) (fun _ _ _ h => h) (Or.inl ⟨by rfl, ?hy22⟩) (by assumption) (by rfl) ?rest22
            case hy22 => first | (intro w hSw; (try dsimp only at hSw); obtain ⟨q0, q1, q2, q3, q4, q5, q6, q7, q8, q9⟩ := hSw; go_simp; done) | (intro w hSw; (try dsimp only at hSw); obtain ⟨q0, q1, q2, q3, q4, q5, q6, q7, q8, q9⟩ := hSw; go_simp; with_reducible rfl)
            try simp only [Act.put, List.setIfInBounds_toArray, List.set_cons_zero, List.set_cons_succ]
            refine takeD (i := 10) (v := ?v23) (some 64) rfl (by kernel_rfl) (by kernel_rfl) (by kernel_rfl) (fun _ _ _ h => h) (Or.inl ⟨by rfl, ?hy23⟩) (by assumption) (by rfl) ?rest23
            case hy23 => first | (intro w hSw; (try dsimp only at hSw); obtain ⟨q0, q1, q2, q3, q4, q5, q6, q7, q8, q9⟩ := hSw; go_simp; done) | (intro w hSw; (try dsimp only at hSw); obtain ⟨q0, q1, q2, q3, q4, q5, q6, q7, q8, q9⟩ := hSw; go_simp; with_reducible rfl)
            try simp only [Act.put, List.setIfInBounds_toArray, List.set_cons_zero, List.set_cons_succ]
            refine takeD (i := 11) (v := ?v24) (some 65) rfl (by kernel_rfl) (by kernel_rfl) (by kernel_rfl) (fun _ _ _ h => h) (Or.inl ⟨by rfl, ?hy24⟩) (by assumption) (by rfl) ?rest24
            case hy24 => first | (intro w hSw; (try dsimp only at hSw); obtain ⟨q0, q1, q2, q3, q4, q5, q6, q7, q8, q9⟩ := hSw; go_simp; done) | (intro w hSw; (try dsimp only at hSw); obtain ⟨q0, q1, q2, q3, q4, q5, q6, q7, q8, q9⟩ := hSw; go_simp; with_reducible rfl)
            try simp only [Act.put, List.setIfInBounds_toArray, List.set_cons_zero, List.set_cons_succ]
            refine takeD (i := 12) (v := ?v25) (some 66) rfl (by kernel_rfl) (by kernel_rfl) (by kernel_rfl) (fun _ _ _ h => h) (Or.inl ⟨by rfl, ?hy25⟩) (by assumption) (by rfl) ?rest25
            case hy25 => first | (intro w hSw; (try dsimp only at hSw); obtain ⟨q0, q1, q2, q3, q4, q5, q6, q7, q8, q9⟩ := hSw; go_simp; done) | (intro w hSw; (try dsimp only at hSw); obtain ⟨q0, q1, q2, q3, q4, q5, q6, q7, q8, q9⟩ := hSw; go_simp; with_reducible rfl)
            try simp only [Act.put, List.setIfInBounds_toArray, List.set_cons_zero, List.set_cons_succ]
            refine takeD (i := 14) (v := ?v26) (some 68) rfl (by kernel_rfl) (by kernel_rfl) (by kernel_rfl) (fun _ _ _ h => h) (Or.inl ⟨by rfl, ?hy26⟩) (by assumption) (by rfl) ?rest26
            case hy26 => first | (intro w hSw; (try dsimp only at hSw); obtain ⟨q0, q1, q2, q3, q4, q5, q6, q7, q8, q9⟩ := hSw; go_simp; done) | (intro w hSw; (try dsimp only at hSw); obtain ⟨q0, q1, q2, q3, q4, q5, q6, q7, q8, q9⟩ := hSw; go_simp; with_reducible rfl)
            try simp only [Act.put, List.setIfInBounds_toArray, List.set_cons_zero, List.set_cons_succ]
            refine takeD (i := 16) (v := ?v27) (some 70) rfl (by kernel_rfl) (by kernel_rfl) (by kernel_rfl) (fun _ _ _ h => h) (Or.inl ⟨by rfl, ?hy27⟩) (by assumption) (by rfl) ?rest27
            case hy27 => first | (intro w hSw; (try dsimp only at hSw); obtain ⟨q0, q1, q2, q3, q4, q5, q6, q7, q8, q9⟩ := hSw; go_simp; done) | (intro w hSw; (try dsimp only at hSw); obtain ⟨q0, q1, q2, q3, q4, q5, q6, q7, q8, q9⟩ := hSw; go_simp; with_reducible rfl)
            try simp only [Act.put, List.setIfInBounds_toArray, List.set_cons_zero, List.set_cons_succ]
            refine takeD (i := 17) (v := ?v28) (some 71) rfl (by kernel_rfl) (by kernel_rfl) (by kernel_rfl) (fun _ _ _ h => h) (Or.inl ⟨by rfl, ?hy28⟩) (by assumption) (by rfl) ?rest28
            case hy28 => first | (intro w hSw; (try dsimp only at hSw); obtain ⟨q0, q1, q2, q3, q4, q5, q6, q7, q8, q9⟩ := hSw; go_simp; done) | (intro w hSw; (try dsimp only at hSw); obtain ⟨q0, q1, q2, q3, q4, q5, q6, q7, q8, q9⟩ := hSw; go_simp; with_reducible rfl)
            try simp only [Act.put, List.setIfInBounds_toArray, List.set_cons_zero, List.set_cons_succ]
            refine wpAnyH_ready (rs := [13]) (by kernel_rfl) (by simp) ?_
            refine AllReadyH.cons rfl (fun K hK => ?_) AllReadyH.nil
            go_simp
            refine (lsub_calls (HBO.out.term.below (bafter HW7.out HB24.out (Nat.le_refl _))) (HBP.out.term.below (bafter HW7.out HB24.out (Nat.le_refl _))) (by omega)).mono ?_
            rintro e w25 ⟨v25, M25, rfl, ht25, hc25, hb25⟩
            have HB25 : Hid (Below w7.heap.size w7 w25) := bafter HB24.out hb25 (Nat.le_refl _)
            have HBS25 := hide hb25
            obtain ⟨hn, ha, hL, hc, hp, hl, hk, rfl⟩ := ht25.form
            have HT25 := hide ht25
            have HC25 := hide hc25
            clear ht25 hc25 hb25 hHeld
            go_wp2_with fail
            refine hK.out _ _ (HS7.out _ HB25.out) (fun hHeld => ?_)
            clear hK K
            try simp only [Act.put, List.setIfInBounds_toArray, List.set_cons_zero, List.set_cons_succ]
            have HG25 := hide (HT25.out.great (k := 18) (j := 300) (l := ps A ++ times (-1) (ps B)) (fun u => by rw [HC25.out, cf_append, times, cf_scale]; omega) (bnd_append (bnd_up HBO.out.term.bnd.1 (by omega)) (bnd_up (bnd_times (j := 1) HBP.out.term.bnd.1 (one_lt_R (by decide))) (by omega))) (by rw [List.length_append, times_length, ps_length, ps_length]; have := HBO.out.len; have := HBP.out.len; omega) (lt_up (sub_bnd HBO.out.term.bnd.2 HBP.out.term.bnd.2) (by omega)) (by omega) (by omega))
            refine wpAnyH_ready (rs := [15]) (by kernel_rfl) (by simp) ?_
            refine AllReadyH.cons rfl (fun K hK => ?_) AllReadyH.nil
            go_simp
            refine (eval_calls (k := 300) HG25.out (HLB.out.row.below (bafter HW7.out HB25.out (Nat.le_refl _))) (HLB.out.good.below (bafter HW7.out HB25.out (Nat.le_refl _))) (bnd_up HLB.out.bnd (by omega)) (by have := HLB.out.len; omega) (by omega)).mono ?_
            rintro e w26 ⟨v26, rfl, hr26, hb26⟩
            have HB26 : Hid (Below w7.heap.size w7 w26) := bafter HB25.out hb26 (Nat.le_refl _)
            have HBS26 := hide hb26
            obtain ⟨i1n, i1a, i1L, i1c, rfl⟩ := hr26.form
            have HR26 := hide hr26
            clear hr26 hb26 hHeld
            go_wp2_with fail
            refine hK.out _ _ (HS7.out _ HB26.out) (fun hHeld => ?_)
            clear hK K
            try simp only [Act.put, List.setIfInBounds_toArray, List.set_cons_zero, List.set_cons_succ]
            refine wpAnyH_ready (rs := [18]) (by kernel_rfl) (by simp) ?_
            refine AllReadyH.cons rfl (fun K hK => ?_) AllReadyH.nil
            go_simp
            refine (bsub_calls ((HRX.out.below HB26.out).arg (lt_up HXB.out (show 40 ≤ 40 by omega)) (by omega)) ((HRY.out.below HB26.out).arg (lt_up HYB.out (show 40 ≤ 40 by omega)) (by omega))).mono ?_
            rintro e w27 ⟨v27, rfl, hr27, hb27⟩
            have HB27 : Hid (Below w7.heap.size w7 w27) := bafter HB26.out hb27 (Nat.le_refl _)
            have HBS27 := hide hb27
            obtain ⟨j1n, j1a, j1L, j1c, rfl⟩ := hr27.form
            have HR27 := hide hr27
            clear hr27 hb27 hHeld
            go_wp2_with fail
            refine hK.out _ _ (HS7.out _ HB27.out) (fun hHeld => ?_)
            clear hK K
            try simp only [Act.put, List.setIfInBounds_toArray, List.set_cons_zero, List.set_cons_succ]
            have HE2 : Hid (c - d + ev (lookZ L) (ps M25) = va - vb) := by
              show _ = _
              rw [ev_less (lookZ L) HC25.out, HVAE.out, HVBE.out]
              omega
            have HN2 : Hid ((va - vb).natAbs < R ^ 41) := sub_bnd HXB.out HYB.out
            have HR26b : Hid (BRes w26 (.agg #[.bool i1n, .slice i1a i1L i1c]) (va - vb)) := by
              have h9 := HR26.out
              rw [HE2.out] at h9
              exact h9
            refine wpAnyH_ready (rs := [19]) (by kernel_rfl) (by simp) ?_
            refine AllReadyH.cons rfl (fun K hK => ?_) AllReadyH.nil
            go_simp
            refine (bcmp_same ((HR26b.out.below HBS27.out).arg HN2.out (by omega)) (HR27.out.arg HN2.out (by omega)) rfl).mono ?_
            rintro e w28 ⟨rfl, hb28⟩
            have HB28 : Hid (Below w7.heap.size w7 w28) := bafter HB27.out hb28 (Nat.le_refl _)
            have HBS28 := hide hb28
            clear hb28 hHeld
            go_wp2_with fail
            refine hK.out _ _ (HS7.out _ HB28.out) (fun hHeld => ?_)
            clear hK K
            try simp only [Act.put, List.setIfInBounds_toArray, List.set_cons_zero, List.set_cons_succ]
            refine takeD (i := 20) (v := ?v29) (some 74) rfl (by kernel_rfl) (by kernel_rfl) (by kernel_rfl) (fun _ _ _ h => h) (Or.inl ⟨by rfl, ?hy29⟩) (by assumption) (by rfl) ?rest29
            case hy29 => first | (intro w hSw; (try dsimp only at hSw); obtain ⟨q0, q1, q2, q3, q4, q5, q6, q7, q8, q9⟩ := hSw; go_simp; done) | (intro w hSw; (try dsimp only at hSw); obtain ⟨q0, q1, q2, q3, q4, q5, q6, q7, q8, q9⟩ := hSw; go_simp; with_reducible rfl)
            try simp only [Act.put, List.setIfInBounds_toArray, List.set_cons_zero, List.set_cons_succ]
            refine takeD (i := 21) (v := ?v30) (some 75) rfl (by kernel_rfl) (by kernel_rfl) (by kernel_rfl) (fun _ _ _ h => h) (Or.inl ⟨by rfl, ?hy30⟩) (by assumption) (by rfl) ?rest30
            case hy30 => first | (intro w hSw; (try dsimp only at hSw); obtain ⟨q0, q1, q2, q3, q4, q5, q6, q7, q8, q9⟩ := hSw; go_simp; done) | (intro w hSw; (try dsimp only at hSw); obtain ⟨q0, q1, q2, q3, q4, q5, q6, q7, q8, q9⟩ := hSw; go_simp; with_reducible rfl)
            try simp only [Act.put, List.setIfInBounds_toArray, List.set_cons_zero, List.set_cons_succ]
            refine takeD (i := 22) (v := ?v31) (some 76) rfl (by kernel_rfl) (by kernel_rfl) (by kernel_rfl) (fun _ _ _ h => h) (Or.inl ⟨by rfl, ?hy31⟩) (by assumption) (by rfl) ?rest31
            case hy31 => first | (intro w hSw; (try dsimp only at hSw); obtain ⟨q0, q1, q2, q3, q4, q5, q6, q7, q8, q9⟩ := hSw; go_simp; done) | (intro w hSw; (try dsimp only at hSw); obtain ⟨q0, q1, q2, q3, q4, q5, q6, q7, q8, q9⟩ := hSw; go_simp; with_reducible rfl)
            try simp only [Act.put, List.setIfInBounds_toArray, List.set_cons_zero, List.set_cons_succ]
            refine takeD (i := 23) (v := ?v32) (some 77) rfl (by kernel_rfl) (by kernel_rfl) (by kernel_rfl) (fun _ _ _ h => h) (Or.inl ⟨by rfl, ?hy32⟩) (by assumption) (by rfl) ?rest32
            case hy32 => first | (intro w hSw; (try dsimp only at hSw); obtain ⟨q0, q1, q2, q3, q4, q5, q6, q7, q8, q9⟩ := hSw; go_simp; done) | (intro w hSw; (try dsimp only at hSw); obtain ⟨q0, q1, q2, q3, q4, q5, q6, q7, q8, q9⟩ := hSw; go_simp; with_reducible rfl)
            try simp only [Act.put, List.setIfInBounds_toArray, List.set_cons_zero, List.set_cons_succ]
            refine takeD (i := 24) (v := ?v33) (some 78) rfl (by kernel_rfl) (by kernel_rfl) (by kernel_rfl) (fun _ _ _ h => h) (Or.inl ⟨by rfl, ?hy33⟩) (by assumption) (by rfl) ?rest33
            case hy33 => first | (intro w hSw; (try dsimp only at hSw); obtain ⟨q0, q1, q2, q3, q4, q5, q6, q7, q8, q9⟩ := hSw; go_simp; done) | (intro w hSw; (try dsimp only at hSw); obtain ⟨q0, q1, q2, q3, q4, q5, q6, q7, q8, q9⟩ := hSw; go_simp; with_reducible rfl)
            try simp only [Act.put, List.setIfInBounds_toArray, List.set_cons_zero, List.set_cons_succ]
            refine takeD (i := 26) (v := ?v34) (some 80) rfl (by kernel_rfl) (by kernel_rfl) (by kernel_rfl) (fun _ _ _ h => h) (Or.inl ⟨by rfl, ?hy34⟩) (by assumption) (by rfl) ?rest34
            case hy34 => first | (intro w hSw; (try dsimp only at hSw); obtain ⟨q0, q1, q2, q3, q4, q5, q6, q7, q8, q9⟩ := hSw; go_simp; done) | (intro w hSw; (try dsimp only at hSw); obtain ⟨q0, q1, q2, q3, q4, q5, q6, q7, q8, q9⟩ := hSw; go_simp; with_reducible rfl)
            try simp only [Act.put, List.setIfInBounds_toArray, List.set_cons_zero, List.set_cons_succ]
            refine takeD (i := 28) (v := ?v35) (some 82) rfl (by kernel_rfl) (by kernel_rfl) (by kernel_rfl) (fun _ _ _ h => h) (Or.inl ⟨by rfl, ?hy35⟩) (by assumption) (by rfl) ?rest35
            case hy35 => first | (intro w hSw; (try dsimp only at hSw); obtain ⟨q0, q1, q2, q3, q4, q5, q6, q7, q8, q9⟩ := hSw; go_simp; done) | (intro w hSw; (try dsimp only at hSw); obtain ⟨q0, q1, q2, q3, q4, q5, q6, q7, q8, q9⟩ := hSw; go_simp; with_reducible rfl)
            try simp only [Act.put, List.setIfInBounds_toArray, List.set_cons_zero, List.set_cons_succ]
            refine takeD (i := 29) (v := ?v36) (some 83) rfl (by kernel_rfl) (by kernel_rfl) (by kernel_rfl) (fun _ _ _ h => h) (Or.inl ⟨by rfl, ?hy36⟩) (by assumption) (by rfl) ?rest36
            case hy36 => first | (intro w hSw; (try dsimp only at hSw); obtain ⟨q0, q1, q2, q3, q4, q5, q6, q7, q8, q9⟩ := hSw; go_simp; done) | (intro w hSw; (try dsimp only at hSw); obtain ⟨q0, q1, q2, q3, q4, q5, q6, q7, q8, q9⟩ := hSw; go_simp; with_reducible rfl)
            try simp only [Act.put, List.setIfInBounds_toArray, List.set_cons_zero, List.set_cons_succ]
            refine wpAnyH_ready (rs := [25]) (by kernel_rfl) (by simp) ?_
            refine AllReadyH.cons rfl (fun K hK => ?_) AllReadyH.nil
            go_simp
            refine (scale_calls (HBO.out.term.below (bafter HW7.out HB28.out (Nat.le_refl _))) ((HRY.out.below HB28.out).arg (lt_up HYB.out (show 40 ≤ 40 by omega)) (by omega)) (by omega)).mono ?_
            rintro e w29 ⟨v29, M29, rfl, ht29, hc29, hb29⟩
            have HB29 : Hid (Below w7.heap.size w7 w29) := bafter HB28.out hb29 (Nat.le_refl _)
            have HBS29 := hide hb29
            obtain ⟨k1n, k1a, k1L, k1c, k1p, k1l, k1k, rfl⟩ := ht29.form
            have HT29 := hide ht29
            have HC29 := hide hc29
            clear ht29 hc29 hb29 hHeld
            go_wp2_with fail
            refine hK.out _ _ (HS7.out _ HB29.out) (fun hHeld => ?_)
            clear hK K
            try simp only [Act.put, List.setIfInBounds_toArray, List.set_cons_zero, List.set_cons_succ]
            have HG29 := hide (HT29.out.great (k := 48) (j := 300) (l := times vb (ps A)) (fun u => by rw [HC29.out, times, cf_scale]) (bnd_times HBO.out.term.bnd.1 HYB.out) (by rw [times_length, ps_length]; have := HBO.out.len; omega) (bl_mul HBO.out.term.bnd.2 HYB.out) (by omega) (by omega))
            refine wpAnyH_ready (rs := [27]) (by kernel_rfl) (by simp) ?_
            refine AllReadyH.cons rfl (fun K hK => ?_) AllReadyH.nil
            go_simp
            refine (eval_calls (k := 300) HG29.out (HLB.out.row.below (bafter HW7.out HB29.out (Nat.le_refl _))) (HLB.out.good.below (bafter HW7.out HB29.out (Nat.le_refl _))) (bnd_up HLB.out.bnd (by omega)) (by have := HLB.out.len; omega) (by omega)).mono ?_
            rintro e w30 ⟨v30, rfl, hr30, hb30⟩
            have HB30 : Hid (Below w7.heap.size w7 w30) := bafter HB29.out hb30 (Nat.le_refl _)
            have HBS30 := hide hb30
            obtain ⟨l1n, l1a, l1L, l1c, rfl⟩ := hr30.form
            have HR30 := hide hr30
            clear hr30 hb30 hHeld
            go_wp2_with fail
            refine hK.out _ _ (HS7.out _ HB30.out) (fun hHeld => ?_)
            clear hK K
            try simp only [Act.put, List.setIfInBounds_toArray, List.set_cons_zero, List.set_cons_succ]
            refine wpAnyH_ready (rs := [30]) (by kernel_rfl) (by simp) ?_
            refine AllReadyH.cons rfl (fun K hK => ?_) AllReadyH.nil
            go_simp
            refine (bmul_calls ((HRX.out.below HB30.out).arg (lt_up HXB.out (show 40 ≤ 40 by omega)) (by omega)) ((HRY.out.below HB30.out).arg (lt_up HYB.out (show 40 ≤ 40 by omega)) (by omega))).mono ?_
            rintro e w31 ⟨v31, rfl, hr31, hb31⟩
            have HB31 : Hid (Below w7.heap.size w7 w31) := bafter HB30.out hb31 (Nat.le_refl _)
            have HBS31 := hide hb31
            obtain ⟨m1n, m1a, m1L, m1c, rfl⟩ := hr31.form
            have HR31 := hide hr31
            clear hr31 hb31 hHeld
            go_wp2_with fail
            refine hK.out _ _ (HS7.out _ HB31.out) (fun hHeld => ?_)
            clear hK K
            try simp only [Act.put, List.setIfInBounds_toArray, List.set_cons_zero, List.set_cons_succ]
            have HE3 : Hid (c * vb + ev (lookZ L) (ps M29) = va * vb) := by
              show _ = _
              rw [ev_times (lookZ L) HC29.out, HVAE.out, Int.add_mul]
            have HN3 : Hid ((va * vb).natAbs < R ^ 80) := bl_mul HXB.out HYB.out
            have HR30b : Hid (BRes w30 (.agg #[.bool l1n, .slice l1a l1L l1c]) (va * vb)) := by
              have h9 := HR30.out
              rw [HE3.out] at h9
              exact h9
            refine wpAnyH_ready (rs := [31]) (by kernel_rfl) (by simp) ?_
            refine AllReadyH.cons rfl (fun K hK => ?_) AllReadyH.nil
            go_simp
            refine (bcmp_same ((HR30b.out.below HBS31.out).arg HN3.out (by omega)) (HR31.out.arg HN3.out (by omega)) rfl).mono ?_
            rintro e w32 ⟨rfl, hb32⟩
            have HB32 : Hid (Below w7.heap.size w7 w32) := bafter HB31.out hb32 (Nat.le_refl _)
            have HBS32 := hide hb32
            clear hb32 hHeld
            go_wp2_with fail
            refine hK.out _ _ (HS7.out _ HB32.out) (fun hHeld => ?_)
            clear hK K
            try simp only [Act.put, List.setIfInBounds_toArray, List.set_cons_zero, List.set_cons_succ]
            refine takeD (i := 32) (v := ?v37) (some 86) rfl (by kernel_rfl) (by kernel_rfl) (by kernel_rfl) (fun _ _ _ h => h) (Or.inl ⟨by rfl, ?hy37⟩) (by assumption) (by rfl) ?rest37
            case hy37 => first | (intro w hSw; (try dsimp only at hSw); obtain ⟨q0, q1, q2, q3, q4, q5, q6, q7, q8, q9⟩ := hSw; go_simp; done) | (intro w hSw; (try dsimp only at hSw); obtain ⟨q0, q1, q2, q3, q4, q5, q6, q7, q8, q9⟩ := hSw; go_simp; with_reducible rfl)
            try simp only [Act.put, List.setIfInBounds_toArray, List.set_cons_zero, List.set_cons_succ]
            refine takeD (i := 33) (v := ?v38) (some 87) rfl (by kernel_rfl) (by kernel_rfl) (by kernel_rfl) (fun _ _ _ h => h) (Or.inl ⟨by rfl, ?hy38⟩) (by assumption) (by rfl) ?rest38
            case hy38 => first | (intro w hSw; (try dsimp only at hSw); obtain ⟨q0, q1, q2, q3, q4, q5, q6, q7, q8, q9⟩ := hSw; go_simp; done) | (intro w hSw; (try dsimp only at hSw); obtain ⟨q0, q1, q2, q3, q4, q5, q6, q7, q8, q9⟩ := hSw; go_simp; with_reducible rfl)
            try simp only [Act.put, List.setIfInBounds_toArray, List.set_cons_zero, List.set_cons_succ]
            refine takeD (i := 34) (v := ?v39) (some 88) rfl (by kernel_rfl) (by kernel_rfl) (by kernel_rfl) (fun _ _ _ h => h) (Or.inl ⟨by rfl, ?hy39⟩) (by assumption) (by rfl) ?rest39
            case hy39 => first | (intro w hSw; (try dsimp only at hSw); obtain ⟨q0, q1, q2, q3, q4, q5, q6, q7, q8, q9⟩ := hSw; go_simp; done) | (intro w hSw; (try dsimp only at hSw); obtain ⟨q0, q1, q2, q3, q4, q5, q6, q7, q8, q9⟩ := hSw; go_simp; with_reducible rfl)
            try simp only [Act.put, List.setIfInBounds_toArray, List.set_cons_zero, List.set_cons_succ]
            refine takeD (i := 35) (v := ?v40) (some 89) rfl (by kernel_rfl) (by kernel_rfl) (by kernel_rfl) (fun _ _ _ h => h) (Or.inl ⟨by rfl, ?hy40⟩) (by assumption) (by rfl) ?rest40
            case hy40 => first | (intro w hSw; (try dsimp only at hSw); obtain ⟨q0, q1, q2, q3, q4, q5, q6, q7, q8, q9⟩ := hSw; go_simp; done) | (intro w hSw; (try dsimp only at hSw); obtain ⟨q0, q1, q2, q3, q4, q5, q6, q7, q8, q9⟩ := hSw; go_simp; with_reducible rfl)
            try simp only [Act.put, List.setIfInBounds_toArray, List.set_cons_zero, List.set_cons_succ]
            refine takeD (i := 36) (v := ?v41) (some 90) rfl (by kernel_rfl) (by kernel_rfl) (by kernel_rfl) (fun _ _ _ h => h) (Or.inl ⟨by rfl, ?hy41⟩) (by assumption) (by rfl) ?rest41
            case hy41 => first | (intro w hSw; (try dsimp only at hSw); obtain ⟨q0, q1, q2, q3, q4, q5, q6, q7, q8, q9⟩ := hSw; go_simp; done) | (intro w hSw; (try dsimp only at hSw); obtain ⟨q0, q1, q2, q3, q4, q5, q6, q7, q8, q9⟩ := hSw; go_simp; with_reducible rfl)
            try simp only [Act.put, List.setIfInBounds_toArray, List.set_cons_zero, List.set_cons_succ]
            refine takeD (i := 37) (v := ?v42) (some 91) rfl (by kernel_rfl) (by kernel_rfl) (by kernel_rfl) (fun _ _ _ h => h) (Or.inl ⟨by rfl, ?hy42⟩) (by assumption) (by rfl) ?rest42
            case hy42 => first | (intro w hSw; (try dsimp only at hSw); obtain ⟨q0, q1, q2, q3, q4, q5, q6, q7, q8, q9⟩ := hSw; go_simp; done) | (intro w hSw; (try dsimp only at hSw); obtain ⟨q0, q1, q2, q3, q4, q5, q6, q7, q8, q9⟩ := hSw; go_simp; with_reducible rfl)
            try simp only [Act.put, List.setIfInBounds_toArray, List.set_cons_zero, List.set_cons_succ]
            refine takeD (i := 39) (v := ?v43) (some 93) rfl (by kernel_rfl) (by kernel_rfl) (by kernel_rfl) (fun _ _ _ h => h) (Or.inl ⟨by rfl, ?hy43⟩) (by assumption) (by rfl) ?rest43
            case hy43 => first | (intro w hSw; (try dsimp only at hSw); obtain ⟨q0, q1, q2, q3, q4, q5, q6, q7, q8, q9⟩ := hSw; go_simp; done) | (intro w hSw; (try dsimp only at hSw); obtain ⟨q0, q1, q2, q3, q4, q5, q6, q7, q8, q9⟩ := hSw; go_simp; with_reducible rfl)
            try simp only [Act.put, List.setIfInBounds_toArray, List.set_cons_zero, List.set_cons_succ]
            refine takeD (i := 41) (v := ?v44) (some 95) rfl (by kernel_rfl) (by kernel_rfl) (by kernel_rfl) (fun _ _ _ h => h) (Or.inl ⟨by rfl, ?hy44⟩) (by assumption) (by rfl) ?rest44
            case hy44 => first | (intro w hSw; (try dsimp only at hSw); obtain ⟨q0, q1, q2, q3, q4, q5, q6, q7, q8, q9⟩ := hSw; go_simp; done) | (intro w hSw; (try dsimp only at hSw); obtain ⟨q0, q1, q2, q3, q4, q5, q6, q7, q8, q9⟩ := hSw; go_simp; with_reducible rfl)
            try simp only [Act.put, List.setIfInBounds_toArray, List.set_cons_zero, List.set_cons_succ]
            refine takeD (i := 42) (v := ?v45) (some 96) rfl (by kernel_rfl) (by kernel_rfl) (by kernel_rfl) (fun _ _ _ h => h) (Or.inl ⟨by rfl, ?hy45⟩) (by assumption) (by rfl) ?rest45
            case hy45 => first | (intro w hSw; (try dsimp only at hSw); obtain ⟨q0, q1, q2, q3, q4, q5, q6, q7, q8, q9⟩ := hSw; go_simp; done) | (intro w hSw; (try dsimp only at hSw); obtain ⟨q0, q1, q2, q3, q4, q5, q6, q7, q8, q9⟩ := hSw; go_simp; with_reducible rfl)
            try simp only [Act.put, List.setIfInBounds_toArray, List.set_cons_zero, List.set_cons_succ]
            refine wpAnyH_ready (rs := [38]) (by kernel_rfl) (by simp) ?_
            refine AllReadyH.cons rfl (fun K hK => ?_) AllReadyH.nil
            go_simp
            refine (subst_calls (HBO.out.term.below (bafter HW7.out HB32.out (Nat.le_refl _))) x (HBP.out.term.below (bafter HW7.out HB32.out (Nat.le_refl _))) (by omega)).mono ?_
            rintro e w33 ⟨v33, M33, rfl, ht33, hc33, hb33⟩
            have HB33 : Hid (Below w7.heap.size w7 w33) := bafter HB32.out hb33 (Nat.le_refl _)
            have HBS33 := hide hb33
            obtain ⟨n1n, n1a, n1L, n1c, n1p, n1l, n1k, rfl⟩ := ht33.form
            have HT33 := hide ht33
            have HC33 := hide hc33
            clear ht33 hc33 hb33 hHeld
            go_wp2_with fail
            refine hK.out _ _ (HS7.out _ HB33.out) (fun hHeld => ?_)
            clear hK K
            try simp only [Act.put, List.setIfInBounds_toArray, List.set_cons_zero, List.set_cons_succ]
            have HCX : Hid ((cf x (ps A)).natAbs < R ^ 20) := lt_up (cf_bound HBO.out.term.bnd.1 x) (by rw [ps_length]; have := HBO.out.len; omega)
            have HG33 := hide (HT33.out.great (k := 30) (j := 300) (l := ((ps A).filter fun p => decide (p.1 ≠ x)) ++ times (cf x (ps A)) (ps B)) (fun u => by rw [HC33.out, cf_append, cf_without, times, cf_scale]) (bnd_append (bnd_up (bnd_filter _ HBO.out.term.bnd.1) (by omega)) (bnd_up (bnd_times HBP.out.term.bnd.1 HCX.out) (by omega))) (by have h9 := List.length_filter_le (fun p : Int × Int => decide (p.1 ≠ x)) (ps A); rw [ps_length] at h9; rw [List.length_append, times_length, ps_length]; have := HBO.out.len; have := HBP.out.len; omega) (pl_add (lt_up HBO.out.term.bnd.2 (show 8 ≤ 29 by omega)) (lt_up (bl_mul HBP.out.term.bnd.2 HCX.out) (show 8 + 20 ≤ 29 by omega))) (by omega) (by omega))
            refine wpAnyH_ready (rs := [40]) (by kernel_rfl) (by simp) ?_
            refine AllReadyH.cons rfl (fun K hK => ?_) AllReadyH.nil
            go_simp
            refine (eval_calls (k := 300) HG33.out (HLB.out.row.below (bafter HW7.out HB33.out (Nat.le_refl _))) (HLB.out.good.below (bafter HW7.out HB33.out (Nat.le_refl _))) (bnd_up HLB.out.bnd (by omega)) (by have := HLB.out.len; omega) (by omega)).mono ?_
            rintro e w34 ⟨v34, rfl, hr34, hb34⟩
            have HB34 : Hid (Below w7.heap.size w7 w34) := bafter HB33.out hb34 (Nat.le_refl _)
            have HBS34 := hide hb34
            obtain ⟨o1n, o1a, o1L, o1c, rfl⟩ := hr34.form
            have HR34 := hide hr34
            clear hr34 hb34 hHeld
            go_wp2_with fail
            refine hK.out _ _ (HS7.out _ HB34.out) (fun hHeld => ?_)
            clear hK K
            try simp only [Act.put, List.setIfInBounds_toArray, List.set_cons_zero, List.set_cons_succ]
            refine wpAnyH_ready (rs := [43]) (by kernel_rfl) (by simp) ?_
            refine AllReadyH.cons rfl (fun K hK => ?_) AllReadyH.nil
            go_simp
            refine (eval_calls (k := 40) ((HBO.out.term.below (bafter HW7.out HB34.out (Nat.le_refl _))).up (by omega)) (HNX.out.row.below HB34.out) (HNX.out.good.below HB34.out) HNX.out.bnd HNX.out.len (by omega)).mono ?_
            rintro e w35 ⟨v35, rfl, hr35, hb35⟩
            have HB35 : Hid (Below w7.heap.size w7 w35) := bafter HB34.out hb35 (Nat.le_refl _)
            have HBS35 := hide hb35
            obtain ⟨p1n, p1a, p1L, p1c, rfl⟩ := hr35.form
            have HR35 := hide hr35
            clear hr35 hb35 hHeld
            go_wp2_with fail
            refine hK.out _ _ (HS7.out _ HB35.out) (fun hHeld => ?_)
            clear hK K
            try simp only [Act.put, List.setIfInBounds_toArray, List.set_cons_zero, List.set_cons_succ]
            have HE4 : Hid (c + d * cf x (ps A) + ev (lookZ L) (ps M33) = c + ev (lookZ ((x, yn, .slice ya yL yc, vb) :: L)) (ps A)) := ev_place HC33.out (fun u => by rw [lookZ_cons, HVBE.out])
            have HN4 : Hid ((c + ev (lookZ ((x, yn, .slice ya yL yc, vb) :: L)) (ps A)).natAbs < R ^ 100) := by
              have h1 := ev_bnd (look_bnd HNX.out.bnd) HBO.out.term.bnd.1
              have h2 : (ps A).length ≤ 12 := by rw [ps_length]; exact HBO.out.len
              exact lt_up (pl_add (lt_up HBO.out.term.bnd.2 (show 8 ≤ 60 by omega)) (lt_up h1 (show _ ≤ 60 by omega))) (by omega)
            have HR34b : Hid (BRes w34 (.agg #[.bool o1n, .slice o1a o1L o1c]) (c + ev (lookZ ((x, yn, .slice ya yL yc, vb) :: L)) (ps A))) := by
              have h9 := HR34.out
              rw [HE4.out] at h9
              exact h9
            refine wpAnyH_ready (rs := [44]) (by kernel_rfl) (by simp) ?_
            refine AllReadyH.cons rfl (fun K hK => ?_) AllReadyH.nil
            go_simp
            refine (bcmp_same ((HR34b.out.below HBS35.out).arg HN4.out (by omega)) (HR35.out.arg HN4.out (by omega)) rfl).mono ?_
            rintro e w36 ⟨rfl, hb36⟩
            have HB36 : Hid (Below w7.heap.size w7 w36) := bafter HB35.out hb36 (Nat.le_refl _)
            have HBS36 := hide hb36
            clear hb36 hHeld
            go_wp2_with fail
            refine hK.out _ _ (HS7.out _ HB36.out) (fun hHeld => ?_)
            clear hK K
            try simp only [Act.put, List.setIfInBounds_toArray, List.set_cons_zero, List.set_cons_succ]
            refine takeD (i := 45) (v := ?v46) (some 99) rfl (by kernel_rfl) (by kernel_rfl) (by kernel_rfl) (fun _ _ _ h => h) (Or.inl ⟨by rfl, ?hy46⟩) (by assumption) (by rfl) ?rest46
            case hy46 => first | (intro w hSw; (try dsimp only at hSw); obtain ⟨q0, q1, q2, q3, q4, q5, q6, q7, q8, q9⟩ := hSw; go_simp; done) | (intro w hSw; (try dsimp only at hSw); obtain ⟨q0, q1, q2, q3, q4, q5, q6, q7, q8, q9⟩ := hSw; go_simp; with_reducible rfl)
            try simp only [Act.put, List.setIfInBounds_toArray, List.set_cons_zero, List.set_cons_succ]
            refine takeD (i := 46) (v := ?v47) (some 100) rfl (by kernel_rfl) (by kernel_rfl) (by kernel_rfl) (fun _ _ _ h => h) (Or.inl ⟨by rfl, ?hy47⟩) (by assumption) (by rfl) ?rest47
            case hy47 => first | (intro w hSw; (try dsimp only at hSw); obtain ⟨q0, q1, q2, q3, q4, q5, q6, q7, q8, q9⟩ := hSw; go_simp; done) | (intro w hSw; (try dsimp only at hSw); obtain ⟨q0, q1, q2, q3, q4, q5, q6, q7, q8, q9⟩ := hSw; go_simp; with_reducible rfl)
            try simp only [Act.put, List.setIfInBounds_toArray, List.set_cons_zero, List.set_cons_succ]
            refine takeD (i := 47) (v := ?v48) (some 2) rfl (by kernel_rfl) (by kernel_rfl) (by kernel_rfl) (fun _ _ _ h => h) (Or.inl ⟨by rfl, ?hy48⟩) (by assumption) (by rfl) ?rest48
            case hy48 => first | (intro w hSw; (try dsimp only at hSw); obtain ⟨q0, q1, q2, q3, q4, q5, q6, q7, q8, q9⟩ := hSw; go_simp; done) | (intro w hSw; (try dsimp only at hSw); obtain ⟨q0, q1, q2, q3, q4, q5, q6, q7, q8, q9⟩ := hSw; go_simp; with_reducible rfl)
            try simp only [Act.put, List.setIfInBounds_toArray, List.set_cons_zero, List.set_cons_succ]
            clear hHeld
            refine wpAnyH_done (by kernel_rfl) ?_ _
            go_wp2
            go_ret
            exact ⟨rfl, bafter HW7.out HB36.out (Nat.le_refl _)⟩

end Go.Proofs.YtkdhcpfmlelfcaaGreatDoor
