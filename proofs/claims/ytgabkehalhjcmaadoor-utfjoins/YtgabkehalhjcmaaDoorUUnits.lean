/- The contracts of utf.width and utf.Units. -/
import Derived.Test.YtgabkehalhjcmaaDoorURound
namespace Go.Proofs.YtgabkehalhjcmaaDoor
set_option linter.unusedVariables false
set_option linter.unusedSimpArgs false
open Go Go.RowKit Go.Shelf Go.Lib

attribute [local go_sem] Oper.semAt_some

/-- How many units a letter has. -/
def unitOf (r : Int) : Nat := if r > 65535 then 2 else 1

set_option maxHeartbeats 1000000 in
theorem width_calls (w : World) (r : Int) :
    Calls Tryd.prog 23 #[.int .i32 r] w fun e w' => e = .returned (.int .i64 ((unitOf r : Nat) : Int)) ∧ w' = w := by
  by_cases h : r > 65535
  · have e : unitOf r = 2 := by unfold unitOf; rw [if_pos h]
    rw [e]
    go_enter Tryd.func23, Tryd.ntmps23
    go_wp2
    go_ret
    exact ⟨rfl, rfl⟩
  · have e : unitOf r = 1 := by unfold unitOf; rw [if_neg h]
    rw [e]
    go_enter Tryd.func23, Tryd.ntmps23
    go_wp2
    go_ret
    exact ⟨rfl, rfl⟩

theorem boxed_set_drew {W : World} {B : Nat} {t : TypeId} {v u : Value} (h : Boxed W B t v) : Boxed (W.drew.setCell ⟨B, 0, none⟩ u) B t u := Boxed.set u (show Boxed W.drew B t v from h)
theorem boxed_other_drew {W : World} {B C : Nat} {t : TypeId} {v : Value} (h : Boxed W B t v) (hne : B ≠ C) (u : Value) : Boxed (W.drew.setCell ⟨C, 0, none⟩ u) B t v := boxed_other (show Boxed W.drew B t v from h) hne u

/-- The units of the first k letters. -/
def unitsL (T : List Nat) : Nat → Nat
  | 0 => 0
  | k + 1 => unitsL T k + unitOf (runeAt T (posL T k))
theorem unitsL_le (T : List Nat) (k : Nat) : unitsL T k ≤ 2 * k := by
  induction k with
  | zero => exact Nat.le_refl _
  | succ k ih =>
    have : unitOf (runeAt T (posL T k)) ≤ 2 := by unfold unitOf; split <;> omega
    show unitsL T k + _ ≤ _
    omega
theorem posL_ge {T : List Nat} (hT : ∀ x ∈ T, x < 256) {N : Nat} (h1 : ∀ k, k < N → posL T k < T.length) (k : Nat) (hk : k ≤ N) : k ≤ posL T k := by
  induction k with
  | zero => exact Nat.zero_le _
  | succ k ih =>
    have h3 := ih (by omega)
    have h4 := (size_bounds hT (h1 k (by omega))).1
    show k + 1 ≤ posL T k + sizeAt T (posL T k)
    omega

set_option maxRecDepth 100000 in
set_option maxHeartbeats 4000000 in
theorem units_calls (w : World) (ao : Option Addr) (cap : Nat) (T : List Nat) (N : Nat) (h : Byts w (.slice ao T.length cap) T) (hT : Utf8Tabs 1 2 w) (h1 : ∀ k, k < N → posL T k < T.length) (h2 : posL T N = T.length) (hlen : T.length ≤ 1000000000) (hcap : T.length ≤ cap) :
    Calls Tryd.prog 11 #[.slice ao T.length cap] w fun e w' => e = .returned (.int .i64 ((unitsL T N : Nat) : Int)) ∧ Below w.heap.size w w' := by
  have hN : N ≤ T.length := by
    obtain ⟨_, _, _, hb, _⟩ := id h
    have := posL_ge hb h1 N (Nat.le_refl _)
    omega
  refine (callsIn_wide (n := 3)).1 ?_
  refine callsIn_of_wp_marks Tryd.func11 rfl trivial ?_ rfl
  simp only [Tryd.ntmps11, List.size_toArray, List.length_cons, List.length_nil, Nat.reduceAdd, Nat.reduceSub, Array.replicate_succ, Array.replicate_zero, List.push_toArray, List.append_toArray, List.nil_append, List.cons_append]
  gi_wp2_with (refine ⟨trivial, ?_⟩; gi_at_call 21; refine (callsIn_wide.2 (letters_calls _ _ _ _)).mono ?_; rintro e w' ⟨rfl, rfl⟩)
  have b1 := Boxed.new w 3 (.int .i64 0)
  have b2 := Boxed.new (w.alloc (.cells #[.int .i64 0] 3)) 22 (.slice ao T.length cap)
  simp only [World.size_alloc] at b2
  have hB0 : Below w.heap.size w ((w.alloc (.cells #[.int .i64 0] 3)).alloc (.cells #[.slice ao T.length cap] 22)) :=
    ((Below.refl _ w).alloc (Nat.le_refl _) _).alloc (by simp) _
  refine range_knownB (gf := 33) (lb := #[.pointer (some ⟨w.heap.size + 1, 0, none⟩)]) rfl (enters_of Tryd.func33 (by kernel_rfl) rfl)
    (letters_hands (w.heap.size + 1) ao cap T N h1 h2 (by omega) hcap) (fun _ => rfl)
    (fun k W => (Boxed W w.heap.size 3 (.int .i64 ((unitsL T k : Nat) : Int)) ∧ Boxed W (w.heap.size + 1) 22 (.slice ao T.length cap)) ∧ Below w.heap.size w W)
    (fun c k W => False)
    (OwnFrom.and (OwnFrom.and (own_boxedk _ _ _ _) (own_boxed _ _ _ _)) (ownFrom_below (Nat.le_refl _) (by simp; omega)))
    (fun c => ownFrom_pure _ _)
    ?know ?stable ⟨⟨b1.alloc _, b2⟩, hB0⟩
    (fun k => { tmps := #[.slice ao T.length cap, undef, .int .i64 0, .pointer (some ⟨w.heap.size, 0, none⟩), undef, .int .i32 (runeAt T (posL T k)), .slice ao T.length cap, .func (.func 33) #[] #[.pointer (some ⟨w.heap.size + 1, 0, none⟩)], .int .i64 ((posL T k : Nat) : Int), .int .i32 (runeAt T (posL T k)), undef, undef, undef, undef, undef], defers := [] }) ?assign ?body ?done ?stop
  case know =>
    rintro k W ⟨⟨_, hb⟩, hB⟩
    exact ⟨hb.cell, h.below hB, Utf8Tabs_below hT hB⟩
  case stable =>
    rintro k W W' ⟨⟨g1, g2⟩, hB⟩ hb
    exact ⟨⟨boxed_below g1 hb, boxed_below g2 hb⟩, bafter hB hb (Nat.le_refl _)⟩
  case assign =>
    intro l k W K hk hK
    gi_wp2
    exact hK
  case body =>
    rintro l k W hk ⟨⟨g1, g2⟩, hB⟩
    have c1 := g1.cell
    have f1 := g1.frozen
    have hle := unitsL_le T k
    have hun : unitOf (runeAt T (posL T k)) ≤ 2 := by unfold unitOf; split <;> omega
    have HU : Hid (unitsL T (k + 1) = unitsL T k + unitOf (runeAt T (posL T k))) := rfl
    generalize runeAt T (posL T k) = r at *
    generalize hu : unitOf r = u at *
    obtain ⟨U, hU⟩ : ∃ U, unitsL T k + u = U := ⟨_, rfl⟩
    have hUU : ((unitsL T k : Nat) : Int) + (u : Int) = (U : Int) := by omega
    have hUb : U ≤ 2000000002 := by omega
    have hwU : IntKind.i64.wrap (U : Int) = (U : Int) := by rw [IntKind.wrap_i64]; omega
    have HE : Hid (((unitsL T (k + 1) : Nat) : Int) = (U : Int)) := by show _ = _; rw [HU.out, hU]
    clear hU HU hle hun
    gi_wp2
    refine round_any 1 l (by kernel_rfl) (no_defer (by simp)) (by rintro ⟨_, _, h⟩; exact h) ?_
    refine takeA (i := 1) (v := ?v3) (some 11) rfl (by kernel_rfl) (by kernel_rfl) (by kernel_rfl) (fun _ _ _ h => h) (Or.inl ⟨by rfl, ?hy3⟩) (by rfl) ?rest3
    case hy3 => first | (intro w; go_simp; done) | (intro w; go_simp; with_reducible rfl)
    try simp only [Act.put, List.setIfInBounds_toArray, List.set_cons_zero, List.set_cons_succ]
    refine wpAny_ready (rs := [0, 2]) (by kernel_rfl) (by simp) ?_
    refine AllReady.cons rfl (fun K hK => ?_) (AllReady.cons rfl (fun K hK => ?_) AllReady.nil)
    · go_simp
      refine hK _ _ ?_
      clear hK K
      try simp only [Act.put, List.setIfInBounds_toArray, List.set_cons_zero, List.set_cons_succ]
      refine wpAny_ready (rs := [2]) (by kernel_rfl) (by simp) ?_
      refine AllReady.cons rfl (fun K hK => ?_) AllReady.nil
      go_simp
      refine (width_calls _ _).mono ?_
      rintro e w1 ⟨rfl, rfl⟩
      rw [hu]
      go_wp2_with fail
      try simp only [Act.put, List.setIfInBounds_toArray, List.set_cons_zero, List.set_cons_succ]
      refine takeA (i := 3) (v := ?v1) (some 13) rfl (by kernel_rfl) (by kernel_rfl) (by kernel_rfl) (fun _ _ _ h => h) (Or.inl ⟨by rfl, ?hy1⟩) (by rfl) ?rest1
      case hy1 => first | (intro w; go_simp; done) | (intro w; go_simp; with_reducible rfl)
      try simp only [Act.put, List.setIfInBounds_toArray, List.set_cons_zero, List.set_cons_succ]
      refine wpAny_ready (rs := [4]) (by kernel_rfl) (by simp) ?_
      refine AllReady.cons rfl (fun K hK => ?_) AllReady.nil
      go_simp
      refine hK _ _ ?_
      clear hK K
      try simp only [Act.put, List.setIfInBounds_toArray, List.set_cons_zero, List.set_cons_succ]
      refine wpAny_done (by kernel_rfl) ?_ _
      refine ⟨((KeepsOthers.drew _).trans (KeepsOthers.setCell _ _ _)).from _, ⟨?_, boxed_other_drew g2 (by omega) _⟩, (hB.drew).setCell (p := ⟨w.heap.size, 0, none⟩) (by simp) _⟩
      rw [HE.out]
      exact g1.set _
    · go_simp
      refine (width_calls _ _).mono ?_
      rintro e w1 ⟨rfl, rfl⟩
      rw [hu]
      go_wp2_with fail
      try simp only [Act.put, List.setIfInBounds_toArray, List.set_cons_zero, List.set_cons_succ]
      refine wpAny_ready (rs := [0]) (by kernel_rfl) (by simp) ?_
      refine AllReady.cons rfl (fun K hK => ?_) AllReady.nil
      go_simp
      refine hK _ _ ?_
      clear hK K
      try simp only [Act.put, List.setIfInBounds_toArray, List.set_cons_zero, List.set_cons_succ]
      refine takeA (i := 3) (v := ?v2) (some 13) rfl (by kernel_rfl) (by kernel_rfl) (by kernel_rfl) (fun _ _ _ h => h) (Or.inl ⟨by rfl, ?hy2⟩) (by rfl) ?rest2
      case hy2 => first | (intro w; go_simp; done) | (intro w; go_simp; with_reducible rfl)
      try simp only [Act.put, List.setIfInBounds_toArray, List.set_cons_zero, List.set_cons_succ]
      refine wpAny_ready (rs := [4]) (by kernel_rfl) (by simp) ?_
      refine AllReady.cons rfl (fun K hK => ?_) AllReady.nil
      go_simp
      refine hK _ _ ?_
      clear hK K
      try simp only [Act.put, List.setIfInBounds_toArray, List.set_cons_zero, List.set_cons_succ]
      refine wpAny_done (by kernel_rfl) ?_ _
      refine ⟨((KeepsOthers.drew _).trans (KeepsOthers.setCell _ _ _)).from _, ⟨?_, boxed_other_drew g2 (by omega) _⟩, (hB.drew).setCell (p := ⟨w.heap.size, 0, none⟩) (by simp) _⟩
      rw [HE.out]
      exact g1.set _
  case done =>
    rintro D W hD ⟨⟨g1, g2⟩, hB⟩ hK
    have c1 := g1.cell
    gi_wp2
    refine ⟨by simp, .inl ⟨_, _, rfl, run_takeDeferred hK, ?_⟩⟩
    exact ⟨.int .i64 ((unitsL T N : Nat) : Int), results_tmp (fn := Tryd.f11) rfl _ _ _, rfl, hB.trans (belowK_b (w := w) (Nat.le_refl _) W D _ _ (by simp at hD; omega) hK rfl rfl)⟩
  case stop =>
    rintro D c k W _ _ h _
    exact h.elim

end Go.Proofs.YtgabkehalhjcmaaDoor
