/- What it means that a slice of 32-bit numbers in memory is a list of digits; and the contract of trim: it cuts off the noughts at the end. -/
import Derived.Test.YtjmbblglfabefaaDoorTop
import Derived.Test.YtjmbblglfabefaaDoorNum
namespace Go.Proofs.YtjmbblglfabefaaDoor
set_option linter.unusedVariables false
set_option linter.unusedSimpArgs false
open Go Go.RowKit Go.Shelf

attribute [local go_sem] Oper.semAt_some

/-- The base of a limb. -/
def R : Nat := 4294967296
theorem R_eq : R = 4294967296 := rfl

/-- The slice value sv holds the limbs zs. -/
def Limbs (W : World) (sv : Value) (zs : List Nat) : Prop :=
  ∃ ao cap, sv = .slice ao zs.length cap ∧ zs.length ≤ cap ∧ cap ≤ 70368744177664 ∧ Small R zs ∧ ∀ j, j < zs.length → ∃ b off, ao = some ⟨b, off, none⟩ ∧ W.cell? ⟨b, off + j, none⟩ = some (.int .u32 ((nth zs j : Nat) : Int))

theorem Limbs.below {W W' : World} {sv : Value} {zs : List Nat} (h : Limbs W sv zs) (hb : Below W.heap.size W W') : Limbs W' sv zs := by
  obtain ⟨ao, cap, rfl, h1, h2, h3, h4⟩ := h
  refine ⟨ao, cap, rfl, h1, h2, h3, fun j hj => ?_⟩
  obtain ⟨b, off, e, hc⟩ := h4 j hj
  exact ⟨b, off, e, (hb.cell (p := ⟨b, off + j, none⟩) (block_lt_of_cell hc)).trans hc⟩

theorem Limbs.nil (W : World) : Limbs W (.slice none 0 0) [] := ⟨none, 0, rfl, Nat.le_refl _, by omega, Small.nil _, fun j hj => by simp at hj⟩

/-- What trim hands back. -/
def trimmed (ao : Option Addr) (cap : Nat) (zs : List Nat) : Value := if tl zs = 0 then .slice none 0 0 else .slice ao (tl zs) cap

theorem trm_nil_of {zs : List Nat} (h : tl zs = 0) : trm zs = [] := by unfold trm; rw [h]; rfl

theorem Limbs.trimmed {W : World} {ao : Option Addr} {n cap : Nat} {zs : List Nat} (h : Limbs W (.slice ao n cap) zs) : Limbs W (trimmed ao cap zs) (trm zs) := by
  obtain ⟨ao', cap', e, h1, h2, h3, h4⟩ := h
  cases e
  unfold Proofs.YtjmbblglfabefaaDoor.trimmed
  by_cases hz : tl zs = 0
  · rw [if_pos hz, trm_nil_of hz]; exact Limbs.nil W
  · rw [if_neg hz]
    have := tl_le zs
    refine ⟨ao, cap, by rw [trm_length], by rw [trm_length]; omega, h2, h3.trm, fun j hj => ?_⟩
    rw [trm_length] at hj
    obtain ⟨b, off, e, hc⟩ := h4 j (by omega)
    refine ⟨b, off, e, ?_⟩
    rw [hc]
    unfold trm
    rw [nth_take hj]

theorem drop_zero_step {zs : List Nat} {k : Nat} (hk : k < zs.length) (h : ∀ x ∈ zs.drop (zs.length - k), x = 0) (hz : nth zs (zs.length - 1 - k) = 0) : ∀ x ∈ zs.drop (zs.length - (k + 1)), x = 0 := by
  have e : zs.drop (zs.length - (k + 1)) = zs[zs.length - 1 - k] :: zs.drop (zs.length - k) := by
    rw [List.drop_eq_getElem_cons (by omega)]
    simp only [show zs.length - (k + 1) = zs.length - 1 - k from by omega, show zs.length - 1 - k + 1 = zs.length - k from by omega]
  rw [e]
  intro x hx
  rcases List.mem_cons.1 hx with rfl | hx
  · rw [nth_eq (by omega)] at hz; exact hz
  · exact h x hx

theorem hide {p : Prop} (h : p) : Hid p := h

theorem own_boxed (B : Nat) (t : TypeId) (v : Value) (C : Nat) : OwnFrom C (fun (_ : Nat) W => Boxed W B t v) := Own.from (boxed_own B t (fun _ => v)) C

set_option maxRecDepth 100000 in
set_option maxHeartbeats 2000000 in
theorem trim_calls (w : World) (ao : Option Addr) (cap : Nat) (zs : List Nat) (h : Limbs w (.slice ao zs.length cap) zs) :
    Calls Tryd.prog 33 #[.slice ao zs.length cap] w fun e w' => e = .returned (trimmed ao cap zs) ∧ Below w.heap.size w w' := by
  obtain ⟨ao', cap', e, h1, h2, h3, h4⟩ := id h
  cases e
  refine (callsIn_wide (n := 3)).1 ?_
  refine callsIn_of_wp_marks Tryd.func33 rfl trivial ?_ rfl
  simp only [Tryd.ntmps33, List.size_toArray, List.length_cons, List.length_nil, Nat.reduceAdd, Nat.reduceSub, Array.replicate_succ, Array.replicate_zero, List.push_toArray, List.append_toArray, List.nil_append, List.cons_append]
  gi_wp2_with (refine ⟨trivial, ?_⟩; gi_at_call 36; refine (callsIn_wide.2 (fromTop_calls _ _ ⟨_, _, _, rfl⟩)).mono ?_; rintro e w' ⟨rfl, rfl⟩)
  have b0 := Boxed.new w 22 (.slice ao zs.length cap)
  have b1 := Boxed.new (w.alloc (.cells #[.slice ao zs.length cap] 22)) 22 (.slice none 0 0)
  have b2 := Boxed.new ((w.alloc (.cells #[.slice ao zs.length cap] 22)).alloc (.cells #[.slice none 0 0] 22)) 22 (.slice ao zs.length cap)
  simp only [World.size_alloc] at b1 b2
  have hB0 : Below w.heap.size w (((w.alloc (.cells #[.slice ao zs.length cap] 22)).alloc (.cells #[.slice none 0 0] 22)).alloc (.cells #[.slice ao zs.length cap] 22)) :=
    (((Below.refl _ w).alloc (Nat.le_refl _) _).alloc (by simp) _).alloc (by simp; omega) _
  refine range_known (gf := 49) (lb := #[.pointer (some ⟨w.heap.size + 1 + 1, 0, none⟩)]) rfl (enters_of Tryd.func49 (by kernel_rfl) rfl)
    (top_hands (w.heap.size + 1 + 1) ao zs.length cap (fun k => ((nth zs (zs.length - 1 - k) : Nat) : Int)) (by omega)) (fun _ => rfl)
    (fun k W => (Boxed W w.heap.size 22 (.slice ao zs.length cap) ∧ Boxed W (w.heap.size + 1) 22 (.slice none 0 0) ∧ Boxed W (w.heap.size + 1 + 1) 22 (.slice ao zs.length cap) ∧ (∀ x ∈ zs.drop (zs.length - k), x = 0)) ∧ Below w.heap.size w W)
    (fun c k W => (c = .ret ∧ Boxed W (w.heap.size + 1) 22 (trimmed ao cap zs)) ∧ Below w.heap.size w W)
    (OwnFrom.and (OwnFrom.and (own_boxed _ _ _ _) (OwnFrom.and (own_boxed _ _ _ _) (OwnFrom.and (own_boxed _ _ _ _) (ownFrom_pure _ _)))) (ownFrom_below (Nat.le_refl _) (by simp; omega)))
    (fun c => OwnFrom.and (OwnFrom.and (ownFrom_pure _ _) (own_boxed _ _ _ _)) (ownFrom_below (Nat.le_refl _) (by simp; omega)))
    ?know ⟨⟨(b0.alloc _).alloc _, b1.alloc _, b2, by simp⟩, hB0⟩
    (fun k => { tmps := #[.slice ao zs.length cap, .pointer (some ⟨w.heap.size, 0, none⟩), .pointer (some ⟨w.heap.size + 1, 0, none⟩), .int .i64 ((zs.length : Int) - 1 - k), .int .u32 ((nth zs (zs.length - 1 - k) : Nat) : Int), .slice ao zs.length cap, .func (.func 49) #[] #[.pointer (some ⟨w.heap.size + 1 + 1, 0, none⟩)], .int .i64 ((zs.length : Int) - 1 - k), .int .u32 ((nth zs (zs.length - 1 - k) : Nat) : Int), undef, undef, undef, undef, undef, undef], defers := [] }) ?assign ?body ?done ?stop
  case know =>
    rintro k W ⟨⟨_, _, hb, _⟩, hB⟩
    refine ⟨hb.cell, fun hk => ?_⟩
    obtain ⟨b, off, e, hc⟩ := h4 (zs.length - 1 - k) (by omega)
    exact ⟨b, off, e, (hB.cell (p := ⟨b, off + (zs.length - 1 - k), none⟩) (block_lt_of_cell hc)).trans hc⟩
  case assign =>
    intro l k W K hk hK
    gi_wp2
    exact hK
  case body =>
    rintro l k W hk ⟨⟨hb0, hb1, hb2, hz⟩, hB⟩
    have c0 := hb0.cell
    have c1 := hb1.cell
    have f1 := hb1.frozen
    by_cases hv : nth zs (zs.length - 1 - k) = 0
    · have hv' : (((nth zs (zs.length - 1 - k) : Nat) : Int) != 0) = false := by simp [hv]
      have Hv := hide hv
      clear hv
      gi_wp2
      exact ⟨KeepsFrom.refl _ _, ⟨hb0, hb1, hb2, drop_zero_step hk hz Hv.out⟩, hB⟩
    · have hv' : (((nth zs (zs.length - 1 - k) : Nat) : Int) != 0) = true := by simp; omega
      have ht : tl zs = zs.length - 1 - k + 1 := tl_of_top zs (zs.length - 1 - k) (by omega) (by rw [nth_eq (by omega)] at hv; exact hv) (by rw [show zs.length - 1 - k + 1 = zs.length - k from by omega]; exact hz)
      have Ht : Hid (trimmed ao cap zs = .slice ao (zs.length - 1 - k + 1) cap) := by unfold trimmed; rw [ht, if_neg (by omega)]; rfl
      clear ht hv
      gi_wp2
      exact ⟨(KeepsOthers.setCell _ _ _).from _, ⟨rfl, by rw [Ht.out]; exact hb1.set _⟩, hB.setCell (p := ⟨w.heap.size + 1, 0, none⟩) (by simp) _⟩
  case done =>
    rintro D W hD ⟨⟨hb0, hb1, hb2, hz⟩, hB⟩ hK
    have c1 := hb1.cell
    have f1 := hb1.frozen
    have ht : Hid (trimmed ao cap zs = .slice none 0 0) := by
      unfold trimmed
      rw [if_pos ((tl_zero_iff zs).2 (by simpa using hz))]
      rfl
    gi_wp2
    have hb3 := hb1.set (.slice none 0 0)
    have hK' := (KeepsOthers.setCell W ⟨w.heap.size + 1, 0, none⟩ (.slice none 0 0)).same D _ hK rfl
    refine ⟨by simp, .inl ⟨_, _, rfl, run_takeDeferred hK', ?_⟩⟩
    have hc5 := cell_kept hb3.cell (grownBy_putObj' _ D (.deferred none)) (fun r e => by cases e; exact ⟨_, hK', rfl⟩)
    refine ⟨.slice none 0 0, ?_, by rw [ht.out], (hB.setCell (p := ⟨w.heap.size + 1, 0, none⟩) (by simp) _).trans (belowK_b (w := w) (Nat.le_refl _) _ D _ _ (by simp at hD; omega) hK' rfl rfl)⟩
    simp [results, Tryd.f33, go_sem, hc5]
  case stop =>
    rintro D c k W hD hk ⟨⟨rfl, hb1⟩, hB⟩ hK
    obtain ⟨tv, htv⟩ : ∃ tv, tv = trimmed ao cap zs := ⟨_, rfl⟩
    rw [← htv] at hb1
    have hsl : ∃ a n c, tv = .slice a n c := by
      rw [htv]; unfold trimmed; split
      · exact ⟨_, _, _, rfl⟩
      · exact ⟨_, _, _, rfl⟩
    obtain ⟨a, n, c, rfl⟩ := hsl
    have Ht := hide htv
    clear htv
    gi_wp2
    refine ⟨by simp, .inl ⟨_, _, rfl, run_takeDeferred hK, ?_⟩⟩
    have hc5 := cell_kept hb1.cell (grownBy_putObj' _ D (.deferred none)) (fun r e => by cases e; exact ⟨_, hK, rfl⟩)
    refine ⟨.slice a n c, ?_, by rw [Ht.out], hB.trans (belowK_b (w := w) (Nat.le_refl _) W D _ _ (by simp at hD; omega) hK rfl rfl)⟩
    simp [results, Tryd.f33, go_sem, hc5]

theorem trim_calls' (w : World) (ao : Option Addr) (n cap : Nat) (zs : List Nat) (hn : zs.length = n) (h : Limbs w (.slice ao n cap) zs) :
    Calls Tryd.prog 33 #[.slice ao n cap] w fun e w' => e = .returned (trimmed ao cap zs) ∧ Below w.heap.size w w' := by
  subst hn
  exact trim_calls w ao cap zs h

theorem trimmed_form (ao : Option Addr) (cap : Nat) (zs : List Nat) : ∃ bo dap, trimmed ao cap zs = .slice bo (trm zs).length dap := by
  unfold trimmed
  by_cases h : tl zs = 0
  · rw [if_pos h, trm_nil_of h]; exact ⟨_, _, rfl⟩
  · rw [if_neg h, trm_length]; exact ⟨_, _, rfl⟩

/-- trim, as callers want it: what it hands back lies where its argument lies. -/
theorem trim_lim (w : World) (sv : Value) (zs : List Nat) (h : Limbs w sv zs) :
    Calls Tryd.prog 33 #[sv] w fun e w' => ∃ ys bo dap, e = .returned (.slice bo ys.length dap) ∧ Limbs w (.slice bo ys.length dap) ys ∧ Canon R ys ∧ Hid (val R ys = val R zs) ∧ ys.length ≤ zs.length ∧ Below w.heap.size w w' := by
  have h' := h
  obtain ⟨ao, cap, rfl, _, _, hs, _⟩ := h'
  refine (trim_calls w ao cap zs h).mono ?_
  rintro e w' ⟨rfl, hb⟩
  have hl := h.trimmed
  obtain ⟨bo, dap, hf⟩ := trimmed_form ao cap zs
  rw [hf] at hl ⊢
  exact ⟨_, _, _, rfl, hl, canon_trm hs, val_trm R zs, by rw [trm_length]; exact tl_le zs, hb⟩

/-- The same, from whatever later world. -/
theorem trim_from (w0 W2 W : World) (h02 : Below w0.heap.size w0 W2) (hW : Below W2.heap.size W2 W) (sv : Value) (zs : List Nat) (h : Limbs w0 sv zs) :
    Calls Tryd.prog 33 #[sv] W fun e w' => ∃ ys bo dap, e = .returned (.slice bo ys.length dap) ∧ Limbs w0 (.slice bo ys.length dap) ys ∧ Canon R ys ∧ Hid (val R ys = val R zs) ∧ ys.length ≤ zs.length ∧ Below W2.heap.size W2 w' := by
  have h' := h
  obtain ⟨ao, cap, rfl, _, _, hs, _⟩ := h'
  refine (trim_calls W ao cap zs (h.below (h02.trans (hW.mono h02.size)))).mono ?_
  rintro e w' ⟨rfl, hb⟩
  have hl := h.trimmed
  obtain ⟨bo, dap, hf⟩ := trimmed_form ao cap zs
  rw [hf] at hl ⊢
  exact ⟨_, _, _, rfl, hl, canon_trm hs, val_trm R zs, by rw [trm_length]; exact tl_le zs, hW.trans (hb.mono hW.size)⟩

end Go.Proofs.YtjmbblglfabefaaDoor
