/- The first half of Text's contract: the groups of nine digits. -/
import Derived.Test.YtgijacdjmmhglaaDoorDivby
import Derived.Test.YtgijacdjmmhglaaDoorWords
import Derived.Test.YtgijacdjmmhglaaDoorSmall2
import Derived.Test.YtgijacdjmmhglaaDoorFmt
import Derived.Deep.AppendLies
import Derived.Deep.RegionLaw
import Derived.Laws.OwnMore
namespace Go.Proofs.YtgijacdjmmhglaaDoor
open Go Go.RowKit Go.Shelf

/-- The groups of nine digits of a number, the lowest first. -/
def pieces (n : Nat) : List Nat := if _h : n = 0 then [] else n % 1000000000 :: pieces (n / 1000000000)
termination_by n
decreasing_by exact Nat.div_lt_self (Nat.pos_of_ne_zero _h) (by decide)

theorem pieces_zero : pieces 0 = [] := by rw [pieces]; simp

theorem pieces_pos {n : Nat} (h : n ≠ 0) : pieces n = n % 1000000000 :: pieces (n / 1000000000) := by rw [pieces]; simp [h]

theorem pieces_len : ∀ (k n : Nat), n < 2 ^ k → (pieces n).length ≤ k := by
  intro k
  induction k with
  | zero => intro n h; rw [show n = 0 by omega, pieces_zero]; simp
  | succ k ih =>
    intro n h
    by_cases hn : n = 0
    · rw [hn, pieces_zero]; simp
    · rw [pieces_pos hn, List.length_cons]
      have : n / 1000000000 < 2 ^ k := by rw [Nat.pow_succ] at h; omega
      have := ih _ this
      omega

theorem pieces_small (n : Nat) : ∀ x ∈ pieces n, x < 1000000000 := by
  induction n using Nat.strongRecOn with
  | _ n ih =>
    by_cases hn : n = 0
    · rw [hn, pieces_zero]; simp
    · rw [pieces_pos hn]
      intro x hx
      rcases List.mem_cons.1 hx with rfl | hx
      · exact Nat.mod_lt _ (by decide)
      · exact ih _ (Nat.div_lt_self (by omega) (by decide)) x hx

/-- A call of a Go function in a region that draws its order. -/
theorem step_enter {P : Program} {ops : Array Oper} {o : Oper} {a : Act} {w : World} {K : Act → World → Prop} {Q : Exit → Act → World → Prop} {E : Prop} (hg : o.guard = none) (f : FuncId) (args : Array Value)
    (hrun : (execOp a.eval o).run P w = .ok (.enter f args) w)
    (h : Calls P f args w fun
      | .returned v, w'' => K (a.put o.dst v) w''
      | .panicked chain, w'' => Q (.panic chain) a w''
      | .outgrown, _ => LetsOut Q) :
    if Region.wanted o (yielded ops a.tmps) = true then Oper.wp P o a w K Q else E := by
  have hw : Region.wanted o (yielded ops a.tmps) = true := by simp [Region.wanted, hg]
  rw [if_pos hw]
  unfold Oper.wp
  rw [hrun, Oper.upon_enter]
  exact h

theorem Limbs.same {W : World} {v : Value} {xs ys : List Nat} (h : Limbs W v xs) (k : Limbs W v ys) : xs = ys := by
  obtain ⟨ao, cap, e1, _, _, _, hc⟩ := h
  obtain ⟨bo, dap, e2, _, _, _, kc⟩ := k
  have e := e1.symm.trans e2
  injection e with ea el ec
  refine same_of_nth el fun i hi => ?_
  obtain ⟨b, off, h1, h2⟩ := hc i hi
  obtain ⟨b', off', k1, k2⟩ := kc i (by omega)
  rw [← ea, h1] at k1
  cases k1
  rw [h2] at k2
  injection k2 with k2
  injection k2 with _ k2
  exact Int.ofNat.inj k2

/-- What the limbs behind a value are worth. -/
noncomputable def worth (v : Value) (W : World) : Nat := by
  classical
  exact if h : ∃ zs, Limbs W v zs then val R (Classical.choose h) else 0

theorem worth_eq {W : World} {v : Value} {zs : List Nat} (h : Limbs W v zs) : worth v W = val R zs := by
  have he : ∃ zs, Limbs W v zs := ⟨zs, h⟩
  unfold worth
  rw [dif_pos he, (Classical.choose_spec he).same h]

theorem ownsRow_but {W W' : World} {g base : Nat} {e : TypeId} {size : Nat} {v : Value} {n : Nat} {xs : List Value} (h : W.ownsRow base e size v n xs) (hb : But g W W') (hg : g < base) : W'.ownsRow base e size v n xs := by
  refine ⟨h.1, ?_⟩
  rcases h.2 with hn | ⟨g2, cap, cur, hv, h1, h2, h3⟩
  · exact .inl hn
  · exact .inr ⟨g2, cap, cur, hv, h1, (hb.block g2 (Array.getElem?_eq_some_iff.1 h2).1 (by omega)).trans h2, h3⟩

/-- The front of a block, or nil. -/
def restOf (g cap : Nat) (us : List Nat) : Value := if us.length = 0 then .slice none 0 0 else .slice (some ⟨g, 0, none⟩) us.length cap

def u32s (gs : List Nat) : List Value := gs.map (fun z : Nat => Value.int .u32 (z : Int))

theorem divideBy_at9 (w : World) (g cap : Nat) (zs rest : List Nat) (hrow : Row w g (zs ++ rest)) (hs : Small R zs) (hc : zs.length ≤ cap) (hcap : cap ≤ 70368744177664) (hb : zs.length ≤ 1048577) :
    Calls Tryd.prog 38 #[.slice (some ⟨g, 0, none⟩) zs.length cap, .int .u32 1000000000] w fun e w' => ∃ (qs : List Nat) (r : Nat), e = .returned (.int .u32 (r : Int)) ∧ Hid (r = val R zs % 1000000000) ∧ r < 1000000000 ∧ Hid (qs.length = zs.length) ∧ Small R qs ∧ Hid (val R qs = val R zs / 1000000000) ∧ Row w' g (qs ++ rest) ∧ But g w w' := by
  refine (divideBy_calls w g cap 1000000000 zs rest hrow hs hc hcap hb (by decide) (by decide)).mono ?_
  rintro e w' ⟨qs, h1, h2, h3, h4, h5, h6⟩
  exact ⟨qs, _, h1, rfl, Nat.mod_lt _ (by decide), h2, h3, h4, h5, h6⟩

end Go.Proofs.YtgijacdjmmhglaaDoor
