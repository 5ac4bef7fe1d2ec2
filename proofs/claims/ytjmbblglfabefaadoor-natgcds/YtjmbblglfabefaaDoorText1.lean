/- The first half of Text's contract: the groups of nine digits. -/
import Derived.Test.YtjmbblglfabefaaDoorDivby
import Derived.Test.YtjmbblglfabefaaDoorWords
import Derived.Test.YtjmbblglfabefaaDoorSmall2
import Derived.Test.YtjmbblglfabefaaDoorFmt
import Derived.Deep.AppendLies
import Derived.Deep.RegionLaw
import Derived.Laws.OwnMore
namespace Go.Proofs.YtjmbblglfabefaaDoor
set_option linter.unusedVariables false
set_option linter.unusedSimpArgs false
open Go Go.RowKit Go.Shelf

/-- The groups of nine digits of a number, the lowest first, at most so many. -/
def piecesUpto : Nat → Nat → List Nat
  | 0, _ => []
  | k + 1, n => if n = 0 then [] else n % 1000000000 :: piecesUpto k (n / 1000000000)

/-- The groups of nine digits of a number, the lowest first. -/
def pieces (n : Nat) : List Nat := piecesUpto n n

theorem piecesUpto_enough : ∀ (j k n : Nat), n ≤ j → n ≤ k → piecesUpto j n = piecesUpto k n := by
  intro j
  induction j with
  | zero =>
    intro k n h1 _
    have hn : n = 0 := by omega
    subst hn
    cases k <;> rfl
  | succ j ih =>
    intro k n h1 h2
    by_cases hn : n = 0
    · subst hn
      cases k <;> rfl
    · obtain ⟨k', rfl⟩ : ∃ k', k = k' + 1 := ⟨k - 1, by omega⟩
      show (if n = 0 then [] else _) = (if n = 0 then [] else _)
      rw [if_neg hn, if_neg hn, ih k' (n / 1000000000) (by omega) (by omega)]

theorem pieces_zero : pieces 0 = [] := rfl

theorem pieces_pos {n : Nat} (h : n ≠ 0) : pieces n = n % 1000000000 :: pieces (n / 1000000000) := by
  obtain ⟨k, rfl⟩ : ∃ k, n = k + 1 := ⟨n - 1, by omega⟩
  have e : pieces (k + 1) = if k + 1 = 0 then [] else (k + 1) % 1000000000 :: piecesUpto k ((k + 1) / 1000000000) := rfl
  rw [e, if_neg h]
  unfold pieces
  rw [piecesUpto_enough k ((k + 1) / 1000000000) _ (by omega) (Nat.le_refl _)]

theorem pieces_len : ∀ (k n : Nat), n < 2 ^ k → (pieces n).length ≤ k := by
  intro k
  induction k with
  | zero => intro n h; rw [show n = 0 by omega, pieces_zero]; simp
  | succ k ih =>
    intro n h
    by_cases hn : n = 0
    · rw [hn, pieces_zero]; simp
    · rw [pieces_pos hn, List.length_cons]
      have : n / 1000000000 < 2 ^ k := by rw [Nat.pow_succ] at h; omega
      have := ih _ this
      omega

theorem pieces_small (n : Nat) : ∀ x ∈ pieces n, x < 1000000000 := by
  induction n using Nat.strongRecOn with
  | _ n ih =>
    by_cases hn : n = 0
    · rw [hn, pieces_zero]; simp
    · rw [pieces_pos hn]
      intro x hx
      rcases List.mem_cons.1 hx with rfl | hx
      · exact Nat.mod_lt _ (by decide)
      · exact ih _ (Nat.div_lt_self (by omega) (by decide)) x hx

/-- A call of a Go function in a region that draws its order. -/
theorem step_enter {P : Program} {ops : Array Oper} {o : Oper} {a : Act} {w : World} {K : Act → World → Prop} {Q : Exit → Act → World → Prop} {E : Prop} (hg : o.guard = none) (f : FuncId) (args : Array Value)
    (hrun : (execOp a.eval o).run P w = .ok (.enter f args) w)
    (h : Calls P f args w fun
      | .returned v, w'' => K (a.put o.dst v) w''
      | .panicked chain, w'' => Q (.panic chain) a w''
      | .outgrown, _ => LetsOut Q) :
    if Region.wanted o (yielded ops a.tmps) = true then Oper.wp P o a w K Q else E := by
  have hw : Region.wanted o (yielded ops a.tmps) = true := by simp [Region.wanted, hg]
  rw [if_pos hw]
  unfold Oper.wp
  rw [hrun, Oper.upon_enter]
  exact h

theorem Limbs.same {W : World} {v : Value} {xs ys : List Nat} (h : Limbs W v xs) (k : Limbs W v ys) : xs = ys := by
  obtain ⟨ao, cap, e1, _, _, _, hc⟩ := h
  obtain ⟨bo, dap, e2, _, _, _, kc⟩ := k
  have e := e1.symm.trans e2
  injection e with ea el ec
  refine same_of_nth el fun i hi => ?_
  obtain ⟨b, off, h1, h2⟩ := hc i hi
  obtain ⟨b', off', k1, k2⟩ := kc i (by omega)
  rw [← ea, h1] at k1
  cases k1
  rw [h2] at k2
  injection k2 with k2
  injection k2 with _ k2
  exact Int.ofNat.inj k2

/-- What the limbs behind a value are worth. -/
def worth (v : Value) (W : World) : Nat :=
  match v with
  | .slice (some a) n _ => val R ((List.range n).map fun j => match W.cell? ⟨a.block, a.off + j, none⟩ with | some (.int _ z) => z.toNat | _ => 0)
  | _ => 0

theorem worth_eq {W : World} {v : Value} {zs : List Nat} (h : Limbs W v zs) : worth v W = val R zs := by
  obtain ⟨ao, cap, rfl, _, _, _, hc⟩ := h
  cases ao with
  | none =>
    cases zs with
    | nil => rfl
    | cons x r =>
      obtain ⟨b, off, e, _⟩ := hc 0 (by simp)
      cases e
  | some a =>
    show val R _ = _
    congr 1
    apply List.ext_getElem (by simp)
    intro j h1 h2
    obtain ⟨b, off, e, hcell⟩ := hc j h2
    cases e
    simp only [List.getElem_map, List.getElem_range, hcell]
    rw [nth_eq h2]
    rfl

theorem ownsRow_but {W W' : World} {g base : Nat} {e : TypeId} {size : Nat} {v : Value} {n : Nat} {xs : List Value} (h : W.ownsRow base e size v n xs) (hb : But g W W') (hg : g < base) : W'.ownsRow base e size v n xs := by
  refine ⟨h.1, ?_⟩
  rcases h.2 with hn | ⟨g2, cap, cur, hv, h1, h2, h3⟩
  · exact .inl hn
  · exact .inr ⟨g2, cap, cur, hv, h1, (hb.block g2 (Array.getElem?_eq_some_iff.1 h2).1 (by omega)).trans h2, h3⟩

/-- The front of a block, or nil. -/
def restOf (g cap : Nat) (us : List Nat) : Value := if us.length = 0 then .slice none 0 0 else .slice (some ⟨g, 0, none⟩) us.length cap

def u32s (gs : List Nat) : List Value := gs.map (fun z : Nat => Value.int .u32 (z : Int))

theorem divideBy_at9 (w : World) (g cap : Nat) (zs rest : List Nat) (hrow : Row w g (zs ++ rest)) (hs : Small R zs) (hc : zs.length ≤ cap) (hcap : cap ≤ 70368744177664) (hb : zs.length ≤ 1048577) :
    Calls Tryd.prog 41 #[.slice (some ⟨g, 0, none⟩) zs.length cap, .int .u32 1000000000] w fun e w' => ∃ (qs : List Nat) (r : Nat), e = .returned (.int .u32 (r : Int)) ∧ Hid (r = val R zs % 1000000000) ∧ r < 1000000000 ∧ Hid (qs.length = zs.length) ∧ Small R qs ∧ Hid (val R qs = val R zs / 1000000000) ∧ Row w' g (qs ++ rest) ∧ But g w w' := by
  refine (divideBy_calls w g cap 1000000000 zs rest hrow hs hc hcap hb (by decide) (by decide)).mono ?_
  rintro e w' ⟨qs, h1, h2, h3, h4, h5, h6⟩
  exact ⟨qs, _, h1, rfl, Nat.mod_lt _ (by decide), h2, h3, h4, h5, h6⟩

end Go.Proofs.YtjmbblglfabefaaDoor
