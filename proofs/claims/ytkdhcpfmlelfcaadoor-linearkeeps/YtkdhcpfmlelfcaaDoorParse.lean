/- The contracts of timesAndMore and Parse: the number that a text's digits write. -/
import Derived.Test.YtkdhcpfmlelfcaaDoorGroup
import Derived.Test.YtkdhcpfmlelfcaaDoorAppU
namespace Go.Proofs.YtkdhcpfmlelfcaaDoor
set_option linter.unusedVariables false
set_option linter.unusedSimpArgs false
open Go Go.RowKit Go.Shelf

theorem OwnU.stored {n₀ : Nat} {W : World} {g cap n : Nat} {gs : List Nat} (h : OwnU n₀ W (.slice (some ⟨g, 0, none⟩) n cap) gs) (j t : Nat) :
    OwnU n₀ (W.setCell ⟨g, j, none⟩ (.int .u32 (t : Int))) (.slice (some ⟨g, 0, none⟩) n cap) (gs.set j t) := by
  have hn : n = gs.length := h.len
  subst hn
  have := (World.ownsRow.stored (show W.ownsRow n₀ 53 1 (.slice (some ⟨g, 0, none⟩) gs.length cap) gs.length (u32s gs) from h) j (.int .u32 (t : Int))).1
  unfold OwnU
  rw [List.length_set]
  have e : u32s (gs.set j t) = (u32s gs).set j (.int .u32 (t : Int)) := by simp [u32s, List.map_set]
  rw [e]
  exact this

theorem OwnU.frozen {n₀ : Nat} {W : World} {g cap n : Nat} {gs : List Nat} (h : OwnU n₀ W (.slice (some ⟨g, 0, none⟩) n cap) gs) (j : Nat) : W.frozen? ⟨g, j, none⟩ = false := by
  have hn : n = gs.length := h.len
  subst hn
  exact World.ownsRow.frozenAt (show W.ownsRow n₀ 53 1 (.slice (some ⟨g, 0, none⟩) gs.length cap) gs.length (u32s gs) from h) j

theorem OwnU.somewhere {n₀ : Nat} {W : World} {a : Option Addr} {cap n : Nat} {gs : List Nat} (h : OwnU n₀ W (.slice a n cap) gs) (hp : 0 < gs.length) : ∃ g, a = some ⟨g, 0, none⟩ ∧ n₀ ≤ g := by
  rcases h.2 with ⟨_, h0⟩ | ⟨g, cap', cur, e, hg, _⟩
  · omega
  · cases e
    exact ⟨g, rfl, hg⟩

theorem set_front {ds gs : List Nat} {k : Nat} (hl : ds.length = k) (hk : k < gs.length) (y : Nat) : (ds ++ gs.drop k).set k y = (ds ++ [y]) ++ gs.drop (k + 1) := by
  have e := List.drop_eq_getElem_cons hk
  rw [List.set_append_right _ _ (by omega), hl, Nat.sub_self, e, List.set_cons_zero, List.append_assoc]
  rfl

/-- What k rounds have made. -/
def MoreInv (gs : List Nat) (t m k : Nat) (ds : List Nat) (c : Nat) : Prop :=
  ds.length = k ∧ Small R ds ∧ c ≤ t ∧ val R ds + R ^ k * c = val R (gs.take k) * t + m

theorem MoreInv.step {gs : List Nat} {t m k : Nat} {ds : List Nat} {c W : Nat} (h : MoreInv gs t m k ds c) (hs : Small R gs) (hW : W = nth gs k * t + c) :
    MoreInv gs t m (k + 1) (ds ++ [W % 4294967296]) (W / 4294967296) := by
  obtain ⟨h1, h2, h3, h4⟩ := h
  have hx := hs.nth R_pos k
  rw [R_eq] at hx
  refine ⟨by simp [h1], small_snoc h2 (by rw [R_eq]; omega), ?_, ?_⟩
  · have : nth gs k * t ≤ 4294967295 * t := Nat.mul_le_mul_right _ (by omega)
    omega
  · rw [val_snoc, h1, val_take_nth, Nat.pow_succ]
    generalize R ^ k = P at *
    generalize val R (gs.take k) = V at *
    generalize val R ds = A at *
    rw [R_eq]
    have e := Nat.mod_add_div W 4294967296
    have e1 : P * (W % 4294967296) + P * 4294967296 * (W / 4294967296) = P * (nth gs k * t) + P * c := by rw [Nat.mul_assoc, ← Nat.mul_add, e, hW, Nat.mul_add]
    have e2 : (V + P * nth gs k) * t = V * t + P * (nth gs k * t) := by rw [Nat.add_mul, Nat.mul_assoc]
    rw [e2]
    omega

theorem MoreInv.canon {gs : List Nat} {t m : Nat} {ds : List Nat} (h : MoreInv gs t m gs.length ds 0) (hc : Canon R gs) (ht : 0 < t) : Canon R ds ∧ val R ds = val R gs * t + m := by
  obtain ⟨h1, h2, h3, h4⟩ := h
  rw [List.take_length, Nat.mul_zero, Nat.add_zero] at h4
  refine ⟨canon_of_big h2 ?_, h4⟩
  by_cases hn : gs = []
  · subst hn
    exact .inl (List.eq_nil_of_length_eq_zero h1)
  · refine .inr ?_
    rw [h1, h4]
    have := canon_big hc hn
    have h5 : val R gs * 1 ≤ val R gs * t := Nat.mul_le_mul_left _ ht
    omega

theorem tmod9 (m : Nat) : Int.tmod (m : Int) 9 = ((m % 9 : Nat) : Int) := by
  rw [Int.tmod_eq_emod_of_nonneg (by omega)]
  omega

theorem slice_to (s : ByteArray) (j : Nat) (hj : j ≤ s.size) (w : World) :
    (Instr.slice 9 (.string s) none (some (.int .i64 (j : Int))) none).run Tryd.prog w = .ok (.string (s.extract 0 j)) w := by
  rw [run_slice_string_to_if w 9 s .i64 _ Tryd.underlying9, if_pos ⟨by omega, by omega⟩]
  simp

theorem slice_nine (s : ByteArray) (i : Nat) (hj : i + 9 ≤ s.size) (w : World) :
    (Instr.slice 9 (.string s) (some (.int .i64 (i : Int))) (some (.int .i64 ((i : Int) + 9))) none).run Tryd.prog w = .ok (.string (s.extract i (i + 9))) w := by
  rw [run_slice_string w 9 s .i64 .i64 _ _ Tryd.underlying9 (by omega) (by omega) (by omega)]
  have e1 : ((i : Int)).toNat = i := by omega
  have e2 : ((i : Int) + 9).toNat = i + 9 := by omega
  rw [e1, e2]

end Go.Proofs.YtkdhcpfmlelfcaaDoor
