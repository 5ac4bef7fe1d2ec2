/- The law's own function counted: true. -/
import Derived.Test.YtjmbblglfabefaaDoorText2
import Derived.Test.YtjmbblglfabefaaDoorQuo
import Derived.Test.YtjmbblglfabefaaDoorMul
import Derived.Test.YtjmbblglfabefaaDoorWords
import Derived.Test.YtjmbblglfabefaaDoorBText
namespace Go.Proofs.YtjmbblglfabefaaDoor
set_option linter.unusedVariables false
set_option linter.unusedSimpArgs false
open Go Go.RowKit Go.Shelf Go.Lib

theorem lit_limbs (W : World) (zs : List Nat) (hs : Small R zs) (hl : zs.length ≤ 70368744177664) : Limbs (W.alloc (.cells (zs.map (fun z : Nat => Value.int .u32 (z : Int))).toArray 46)) (.slice (some ⟨W.heap.size, 0, none⟩) zs.length zs.length) zs :=
  Row.whole (World.alloc_heap_new W _) hs hl

theorem Answer.is {w W : World} {v : Value} {n : Nat} (h : Answer w W v n) (zs : List Nat) (hc : Canon R zs) (hv : n = val R zs) : Limbs W v zs := by
  obtain ⟨ys, hm, hcy, hvy⟩ := h
  have : ys = zs := hcy.unique R_pos hc (by rw [hvy, hv])
  rw [← this]
  exact hm.limbs

theorem words_same (w : World) (sv tv : Value) (xs : List Nat) (hx : Limbs w sv xs) (hy : Limbs w tv xs) :
    Calls Tryd.prog 8 #[sv, tv] w fun e w' => e = .returned (.bool true) ∧ Below w.heap.size w w' := by
  refine (words_calls w sv tv xs xs hx hy).mono ?_
  rintro e w' ⟨rfl, h⟩
  exact ⟨by simp, h⟩

/-- The literals, as blocks. -/
def lit001 : Obj := .cells #[.int .u32 0, .int .u32 0, .int .u32 1] 46
def lit11 : Obj := .cells #[.int .u32 1, .int .u32 1] 46
def lit01 : Obj := .cells #[.int .u32 0, .int .u32 1] 46
def litq : Obj := .cells #[.int .u32 4294967295] 46
def lit1 : Obj := .cells #[.int .u32 1] 46

theorem l001 (W : World) : Limbs (W.alloc (.cells #[.int .u32 0, .int .u32 0, .int .u32 1] 46)) (.slice (some ⟨W.heap.size, 0, none⟩) 3 3) [0, 0, 1] := lit_limbs W [0, 0, 1] c_001.1 (by decide)
theorem l11 (W : World) : Limbs (W.alloc (.cells #[.int .u32 1, .int .u32 1] 46)) (.slice (some ⟨W.heap.size, 0, none⟩) 2 2) [1, 1] := lit_limbs W [1, 1] c_11.1 (by decide)
theorem l01 (W : World) : Limbs (W.alloc (.cells #[.int .u32 0, .int .u32 1] 46)) (.slice (some ⟨W.heap.size, 0, none⟩) 2 2) [0, 1] := lit_limbs W [0, 1] c_01.1 (by decide)
theorem lq (W : World) : Limbs (W.alloc (.cells #[.int .u32 4294967295] 46)) (.slice (some ⟨W.heap.size, 0, none⟩) 1 1) [4294967295] := lit_limbs W [4294967295] c_quo.1 (by decide)
theorem l1 (W : World) : Limbs (W.alloc (.cells #[.int .u32 1] 46)) (.slice (some ⟨W.heap.size, 0, none⟩) 1 1) [1] := lit_limbs W [1] c_one.1 (by decide)

theorem bel1 (w : World) (o : Obj) : Below w.heap.size w (w.alloc o) := (Below.refl _ w).alloc (Nat.le_refl _) o
theorem bel2 (w : World) (o p : Obj) : Below w.heap.size w ((w.alloc o).alloc p) := (bel1 w o).alloc (by simp) p

theorem bthn {w wa wb : World} (h : Below w.heap.size w wa) (k : Below wa.heap.size wa wb) : Below w.heap.size w wb := h.trans (k.mono h.size)

/-- DivMod of the literals. -/
theorem c_divMod (w : World) : Calls Tryd.prog 26 #[.slice (some ⟨w.heap.size, 0, none⟩) 3 3, .slice (some ⟨w.heap.size + 1, 0, none⟩) 2 2] ((w.alloc (.cells #[.int .u32 0, .int .u32 0, .int .u32 1] 46)).alloc (.cells #[.int .u32 1, .int .u32 1] 46))
    fun e w' => ∃ q r, e = .returned (.tuple #[q, r, .int .i64 0]) ∧ Limbs w' q [4294967295] ∧ Limbs w' r [1] ∧ Below w.heap.size w w' := by
  have a1 := (l001 w).below (bel1 _ (.cells #[.int .u32 1, .int .u32 1] 46))
  have a2 := l11 (w.alloc (.cells #[.int .u32 0, .int .u32 0, .int .u32 1] 46))
  simp only [World.size_alloc] at a2
  refine (divMod_calls _ _ _ [0, 0, 1] [1, 1] a1 a2 (by decide) (by decide)).mono ?_
  rintro e wa ⟨_, hq, hba⟩
  obtain ⟨q, r, rfl, hAq, hAr⟩ := hq v_div
  exact ⟨q, r, rfl, hAq.is _ c_quo v_quo, hAr.is _ c_one v_rem, (bel2 w _ _).trans (hba.mono (by simp; omega))⟩

theorem c_mul (w : World) : Calls Tryd.prog 24 #[.slice (some ⟨w.heap.size, 0, none⟩) 2 2, .slice (some ⟨w.heap.size + 1, 0, none⟩) 2 2] ((w.alloc (.cells #[.int .u32 0, .int .u32 1] 46)).alloc (.cells #[.int .u32 0, .int .u32 1] 46))
    fun e w' => ∃ q, e = .returned q ∧ Limbs w' q [0, 0, 1] ∧ Below w.heap.size w w' := by
  have a1 := (l01 w).below (bel1 _ (.cells #[.int .u32 0, .int .u32 1] 46))
  have a2 := l01 (w.alloc (.cells #[.int .u32 0, .int .u32 1] 46))
  simp only [World.size_alloc] at a2
  refine (mul_calls _ _ _ [0, 1] [0, 1] a1 a2 (by decide) (by decide)).mono ?_
  rintro e wa ⟨q, rfl, hA, hba⟩
  exact ⟨q, rfl, hA.is _ c_001 v_mul, (bel2 w _ _).trans (hba.mono (by simp; omega))⟩

theorem c_words1 (w : World) (v : Value) (h : Limbs w v [0, 0, 1]) : Calls Tryd.prog 8 #[v, .slice (some ⟨w.heap.size, 0, none⟩) 3 3] (w.alloc (.cells #[.int .u32 0, .int .u32 0, .int .u32 1] 46)) fun e w' => e = .returned (.bool true) ∧ Below w.heap.size w w' := by
  refine (words_same _ _ _ _ (h.below (bel1 _ _)) (l001 w)).mono ?_
  rintro e wa ⟨rfl, hba⟩
  exact ⟨rfl, (bel1 w _).trans (hba.mono (by simp))⟩

theorem c_words2 (w : World) (v : Value) (h : Limbs w v [4294967295]) : Calls Tryd.prog 8 #[v, .slice (some ⟨w.heap.size, 0, none⟩) 1 1] (w.alloc (.cells #[.int .u32 4294967295] 46)) fun e w' => e = .returned (.bool true) ∧ Below w.heap.size w w' := by
  refine (words_same _ _ _ _ (h.below (bel1 _ _)) (lq w)).mono ?_
  rintro e wa ⟨rfl, hba⟩
  exact ⟨rfl, (bel1 w _).trans (hba.mono (by simp))⟩

theorem c_words3 (w : World) (v : Value) (h : Limbs w v [1]) : Calls Tryd.prog 8 #[v, .slice (some ⟨w.heap.size, 0, none⟩) 1 1] (w.alloc (.cells #[.int .u32 1] 46)) fun e w' => e = .returned (.bool true) ∧ Below w.heap.size w w' := by
  refine (words_same _ _ _ _ (h.below (bel1 _ _)) (l1 w)).mono ?_
  rintro e wa ⟨rfl, hba⟩
  exact ⟨rfl, (bel1 w _).trans (hba.mono (by simp))⟩

theorem c_text (w : World) (htab : TabIs Tryd.prog w "internal/strconv.uint64pow10" .u64 pow10Tab) : Calls Tryd.prog 19 #[.slice (some ⟨w.heap.size, 0, none⟩) 2 2] (w.alloc (.cells #[.int .u32 0, .int .u32 1] 46)) fun e w' => e = .returned (.string ⟨#[52, 50, 57, 52, 57, 54, 55, 50, 57, 54]⟩) ∧ Below w.heap.size w w' := by
  refine (text_calls _ _ [0, 1] (l01 w) (by decide) (tab_keep htab (bel1 w _))).mono ?_
  rintro e wa ⟨rfl, hba⟩
  exact ⟨by rw [v_one, textOf_32], (bel1 w _).trans (hba.mono (by simp))⟩

set_option maxRecDepth 100000 in
set_option maxHeartbeats 400000 in
theorem counted_calls (w : World) (htab : TabIs Tryd.prog w "internal/strconv.uint64pow10" .u64 pow10Tab) :
    Calls Tryd.prog 7 #[] w fun e w' => e = .returned (.bool true) ∧ Below w.heap.size w w' := by
  go_enter Tryd.func7, Tryd.ntmps7
  go_upto_region 2 with (go_at_call 26; go_must (refine (c_divMod w).mono ?_; rintro e wa ⟨q, r, rfl, hq, hr, hba⟩))
  go_wp2_with (go_at_call 24; go_must (refine (c_mul wa).mono ?_; rintro e wb ⟨rv, rfl, hm, hbb⟩))
  refine (c_words1 wb rv hm).mono ?_
  rintro e wc ⟨rfl, hbc⟩
  go_wp2_with fail
  refine (c_words2 wc q ((hq.below hbb).below hbc)).mono ?_
  rintro e wd ⟨rfl, hbd⟩
  go_wp2_with fail
  refine (c_words3 wd r (((hr.below hbb).below hbc).below hbd)).mono ?_
  rintro e we ⟨rfl, hbe⟩
  go_wp2_with fail
  refine (c_text we (tab_keep (tab_keep (tab_keep (tab_keep (tab_keep htab hba) hbb) hbc) hbd) hbe)).mono ?_
  rintro e wf ⟨rfl, hbf⟩
  go_wp2_with fail
  go_ret
  exact ⟨rfl, bthn (bthn (bthn (bthn (bthn hba hbb) hbc) hbd) hbe) hbf⟩

end Go.Proofs.YtjmbblglfabefaaDoor
