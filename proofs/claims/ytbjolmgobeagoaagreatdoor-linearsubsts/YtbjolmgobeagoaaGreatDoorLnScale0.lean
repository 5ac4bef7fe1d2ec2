/- So many times a sum: Scale. -/
import Derived.Test.YtbjolmgobeagoaaGreatDoorLnVars
import Derived.Test.YtbjolmgobeagoaaGreatDoorLnAdd
namespace Go.Proofs.YtbjolmgobeagoaaGreatDoor
set_option linter.unusedVariables false
set_option linter.unusedSimpArgs false
set_option maxRecDepth 100000
open Go Go.RowKit Go.Shelf Go.Lib

/-- A row of parts has no block of another kind. -/
theorem OwnP.apart {n₀ : Nat} {W : World} {v : Value} {M : List Pt} (h : OwnP n₀ W v M) {b : Nat} {cs : Array Value} {t : TypeId} {m : Nat × Nat} (hb : W.heap[b]? = some (.cells cs t m)) (ht : t ≠ 89) : v.ownBlock ≠ some b := by
  intro e
  rcases h.1.2 with ⟨hv, _⟩ | ⟨g, cap, cur, hv, h1, h2, _⟩
  · rw [hv] at e
    simp [Value.ownBlock] at e
  · rw [hv] at e
    simp only [Value.ownBlock, Option.some.injEq] at e
    subst e
    rw [hb] at h2
    simp only [Option.some.injEq, Obj.cells.injEq] at h2
    exact ht h2.2.1
theorem OwnP.isCells {n₀ : Nat} {W : World} {v : Value} {M : List Pt} (h : OwnP n₀ W v M) {j : Nat} {o : Obj} (hj : v.ownBlock = some j) (ho : W.heap[j]? = some o) : o.isCells = true := by
  rcases h.1.2 with ⟨hv, _⟩ | ⟨g, cap, cur, hv, h1, h2, _⟩
  · rw [hv] at hj
    simp [Value.ownBlock] at hj
  · rw [hv] at hj
    simp only [Value.ownBlock, Option.some.injEq] at hj
    subst hj
    rw [h2] at ho
    cases ho
    rfl

def times (z : Int) (l : Ps) : Ps := l.map fun p => (p.1, p.2 * z)
/-- What was gathered of the first so many parts; B5 holds the row, which lies below n2 or from n3 on; the parts lie between. -/
structure ScJ (B5 n1 n2 n3 : Nat) (T : World → Prop) (z : Int) (B0 : Nat) (v0 : Value) (M : List Pt) (i : Nat) (W : World) (X : List Pt) (oa : Option Addr) (oc : Nat) : Prop where
  box : Uno W B5 (.slice oa X.length oc) 25
  own : OwnP n1 W (.slice oa X.length oc) X
  off : ∀ g, (Value.slice oa X.length oc).ownBlock = some g → g < n2 ∨ n3 ≤ g
  good : GoodR W X
  ps : ps X = times z (Go.Proofs.YtbjolmgobeagoaaGreatDoor.ps (M.take i))
  it : Uno W B0 v0 25
  row : OwnP n2 W v0 M
  lt : ∀ b, v0.ownBlock = some b → b < n3
  gd : GoodR W M
  oth : T W
theorem ScJ.cel {B5 n1 n2 n3 : Nat} {T : World → Prop} {z : Int} {B0 : Nat} {v0 : Value} {M : List Pt} {i : Nat} {W W' : World} {X : List Pt} {oa : Option Addr} {oc : Nat} (h : ScJ B5 n1 n2 n3 T z B0 v0 M i W X oa oc) (hT : ∀ W W', T W → Cel W W' → T W') (hc : Cel W W') : ScJ B5 n1 n2 n3 T z B0 v0 M i W' X oa oc :=
  ⟨hc.uno h.box, hc.own h.own, h.off, h.good.k32 hc.k32, h.ps, hc.uno h.it, hc.own h.row, h.lt, h.gd.k32 hc.k32, hT _ _ h.oth hc⟩
/-- One part more. -/
theorem ScJ.step {B5 n1 n2 n3 : Nat} {T : World → Prop} {z : Int} {B0 : Nat} {v0 : Value} {M : List Pt} {i : Nat} {W w5 w6 : World} {X : List Pt} {oa oa6 : Option Addr} {oc oc6 : Nat} {m : Pt} {rb : Bool} {rv : Value}
    (h : ScJ B5 n1 n2 n3 T z B0 v0 M i W X oa oc) (hm : M[i]? = some m) (h5 : Below W.heap.size W w5) (hn3 : n3 ≤ W.heap.size) (hne : B0 ≠ B5)
    (ho : OwnP n1 w6 (.slice oa6 (X ++ [(m.1, rb, rv, m.2.2.2 * z)]).length oc6) (X ++ [(m.1, rb, rv, m.2.2.2 * z)])) (hg : w5.grownBy w6 (Value.slice oa X.length oc).ownBlock)
    (ha : (Value.slice oa6 (X ++ [((m.1, rb, rv, m.2.2.2 * z) : Pt)]).length oc6).ownBlock = (Value.slice oa X.length oc).ownBlock ∨ (Value.slice oa6 (X ++ [((m.1, rb, rv, m.2.2.2 * z) : Pt)]).length oc6).ownBlock = some w5.heap.size)
    (hk : K32 w5 w6) (hr : Rng m.1 ∧ BRes w5 (.agg #[.bool rb, rv]) (m.2.2.2 * z))
    (hT : ∀ W' : World, (∀ b, b ≠ B5 → (Value.slice oa X.length oc).ownBlock ≠ some b → b < W.heap.size → W'.heap[b]? = W.heap[b]?) → T W') :
    ScJ B5 n1 n2 n3 T z B0 v0 M (i + 1) (w6.setCell ⟨B5, 0, none⟩ (.slice oa6 (X ++ [(m.1, rb, rv, m.2.2.2 * z)]).length oc6)) (X ++ [(m.1, rb, rv, m.2.2.2 * z)]) oa6 oc6 ∧ KeepsOthers W (w6.setCell ⟨B5, 0, none⟩ (.slice oa6 (X ++ [(m.1, rb, rv, m.2.2.2 * z)]).length oc6)) := by
  have hsame : ∀ b, (Value.slice oa X.length oc).ownBlock ≠ some b → b < W.heap.size → w6.heap[b]? = W.heap[b]? := fun b hb hl => (hg.block b (Nat.lt_of_lt_of_le hl h5.size) (fun e => hb e.symm)).trans (h5.block b hl)
  have hap : (Value.slice oa X.length oc).ownBlock ≠ some B5 := h.own.apart h.box (by decide)
  have hbox6 : Uno w6 B5 (.slice oa X.length oc) 25 := (hsame B5 hap h.box.lt).trans h.box
  have hsame7 : ∀ b, b ≠ B5 → (w6.setCell ⟨B5, 0, none⟩ (.slice oa6 (X ++ [((m.1, rb, rv, m.2.2.2 * z) : Pt)]).length oc6)).heap[b]? = w6.heap[b]? := fun b hb => heap_setCell_other w6 ⟨B5, 0, none⟩ b _ hb
  have hk7 : K32 w6 (w6.setCell ⟨B5, 0, none⟩ (.slice oa6 (X ++ [((m.1, rb, rv, m.2.2.2 * z) : Pt)]).length oc6)) := fun a x hx => (World.cell?_of_block (hsame7 a.block (hbox6.noInt.off hx))).trans hx
  have hap6 : (Value.slice oa6 (X ++ [((m.1, rb, rv, m.2.2.2 * z) : Pt)]).length oc6).ownBlock ≠ some B5 := ho.apart hbox6 (by decide)
  have hrow0 : ∀ b, v0.ownBlock = some b → b ≠ B5 ∧ (Value.slice oa X.length oc).ownBlock ≠ some b ∧ b < W.heap.size := fun b hb => by
    have h1 := h.row.lt hb
    have h2 := h.lt b hb
    refine ⟨fun e => ?_, fun e => ?_, h1.2⟩
    · subst e
      exact h.row.apart h.box (by decide) hb
    · have := h.off b e
      omega
  refine ⟨⟨hbox6.put _, ho.block (fun j hj => hsame7 j (fun e => hap6 (by rw [← e]; exact hj))), fun g hg2 => ?_, ?_, ?_, ?_, ?_, h.lt, ((h.gd.below h5).k32 hk).k32 hk7, hT _ (fun b h1 h2 h3 => (hsame7 b h1).trans (hsame b h2 h3))⟩, ?_⟩
  · rcases ha with e | e
    · rw [e] at hg2
      exact h.off g hg2
    · rw [e] at hg2
      cases hg2
      have := h5.size
      omega
  · refine GoodR.k32 ?_ hk7
    intro p hp
    rcases List.mem_append.1 hp with hp | hp
    · exact ((h.good.below h5).k32 hk) p hp
    · simp at hp
      subst hp
      exact ⟨hr.1, hr.2.k32 hk⟩
  · rw [ps_append, h.ps, List.take_add_one, hm]
    simp [times, Go.Proofs.YtbjolmgobeagoaaGreatDoor.ps, pt]
  · exact (hsame7 B0 hne).trans ((hsame B0 (h.own.apart h.it (by decide)) h.it.lt).trans h.it)
  · exact h.row.block (fun b hb => by
      obtain ⟨x1, x2, x3⟩ := hrow0 b hb
      exact (hsame7 b x1).trans (hsame b x2 x3))
  · exact (KeepsOthers.mk h5.size (fun k o hk _ => (h5.block k (Array.getElem?_eq_some_iff.1 hk).1).trans hk)).trans ((KeepsOthers.of_grownBy hg (fun j o hj ho2 => ((h.own.below h5).isCells hj ho2))).trans (KeepsOthers.setCell _ _ _))
theorem TermR.cel {W W' : World} {v : Value} {c : Int} {M : List Pt} (h : TermR W v c M) (hb : Cel W W') : TermR W' v c M := by
  obtain ⟨cn, ca, cL, cc, pa, pl, pc, e, h1, h3, h4, h5⟩ := h
  exact ⟨cn, ca, cL, cc, pa, pl, pc, e, h1.k32 hb.k32, hb.row h3, h4.k32 hb.k32, h5⟩
theorem sg_not0 {z : Int} (h : z ≠ 0) : (sg z == 0) = false := by
  unfold sg
  rw [if_neg h]
  split <;> rfl
theorem times_nf {l : Ps} {z : Int} (h : NF l) (hz : z ≠ 0) : NF (times z l) := nf_scale h hz

set_option maxHeartbeats 2000000 in
theorem scale_zero {k : Nat} {w : World} {v u : Value} {c z : Int} {M : List Pt} (h : TermA k w v c M) (g : BArg w u z) (hz : z = 0) :
    Calls Tryz.prog 31 #[v, u] w fun e w' => TermE w (c * z) (fun x => cf x (ps M) * z) e w' := by
  subst hz
  obtain ⟨cn, ca, cL, cc, pa, pl, pc, rfl⟩ := h.form
  obtain ⟨dn, dm, n, rfl, hm, _⟩ := id g
  obtain ⟨da, dL, dc, rfl⟩ := hm.shape
  have tz := Thr.new2 w (.cells #[.bool cn, .slice ca cL cc, .slice pa pl pc] 27) (.cells #[.bool dn, .slice da dL dc] 24) (.bool false) (.slice none 0 0) (.slice none 0 0) 27
  have hba := bel3 w (.cells #[.bool cn, .slice ca cL cc, .slice pa pl pc] 27) (.cells #[.bool dn, .slice da dL dc] 24) (.cells #[.bool false, .slice none 0 0, .slice none 0 0] 27)
  have hs := sign_calls (g.below hba)
  have TZ := hide tz
  have HBA := hide hba
  rw [sg_zero] at hs
  clear tz hba hm g h
  go_enter Tryz.func31, Tryz.ntmps31
  go_wp2_with fail
  refine hs.mono ?_
  rintro e w1 ⟨rfl, hb1⟩
  have TZ1 := hide (TZ.out.keep hb1)
  obtain ⟨d0, d1, d2, f0, f1, f2⟩ := TZ1.out.every
  have HB1 := hide (bafter HBA.out hb1 (Nat.le_refl _))
  clear hs hb1
  go_wp2
  refine bodyPost_ret (results_term rfl rfl (TZ1.out.put _ _ _)) rfl ?_
  refine ⟨_, [], rfl, ?_, fun x => by simp [ps, cf], put3_below HB1.out (by omega) _ _ _⟩
  rw [Int.mul_zero]
  exact TermR.but ⟨_, _, _, _, none, 0, 0, rfl, ⟨_, rfl, Res.nil _⟩, ⟨none, 0, rfl, Nat.le_refl _, by simp [maxLen], fun j m hj => by simp at hj⟩, fun m hm => (by cases hm), NF.nil⟩ (TZ1.out.but _ _ _)

end Go.Proofs.YtbjolmgobeagoaaGreatDoor
