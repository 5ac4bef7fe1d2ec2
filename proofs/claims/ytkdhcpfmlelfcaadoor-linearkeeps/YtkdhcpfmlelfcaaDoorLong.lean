/- The contract of longDivide: quotient and rest, by Knuth's long division. -/
import Derived.Test.YtkdhcpfmlelfcaaDoorBKnuth
import Derived.Test.YtkdhcpfmlelfcaaDoorBShift
import Derived.Test.YtkdhcpfmlelfcaaDoorLz
import Derived.Deep.RegionWith
import Derived.Deep.CutRange
import Derived.Deep.DeepMust
namespace Go.Proofs.YtkdhcpfmlelfcaaDoor
set_option linter.unusedVariables false
set_option linter.unusedSimpArgs false
open Go Go.RowKit Go.Shelf

attribute [local go_sem] Oper.semAt_some

theorem val_top_lt {xs : List Nat} {k : Nat} (h : Small R xs) (hl : xs.length = k + 1) : val R xs < R ^ k * (nth xs k + 1) := by
  have e := val_take_nth R xs k
  rw [List.take_of_length_le (by omega)] at e
  have hs := val_lt (h.take k)
  rw [show (xs.take k).length = k from by rw [List.length_take]; omega] at hs
  rw [Nat.mul_add]
  omega

theorem val_top_ge {xs : List Nat} {k : Nat} (hl : xs.length = k + 1) : R ^ k * nth xs k ≤ val R xs := by
  have e := val_take_nth R xs k
  rw [List.take_of_length_le (by omega)] at e
  omega

theorem shift_top {vs : List Nat} {k s : Nat} (h : Small R vs) (hl : vs.length = k + 1) (hs : s ≤ 31) (ht : nth vs k * 2 ^ s < 4294967296) : val R vs * 2 ^ s < R ^ (k + 1) := by
  have h1 := val_top_lt h hl
  have h2 : (nth vs k + 1) * 2 ^ s ≤ R := by
    have e := R_split hs
    have h3 : nth vs k < 2 ^ (32 - s) := Nat.lt_of_mul_lt_mul_right (a := 2 ^ s) (by rw [← e, R_eq]; exact ht)
    rw [e]
    exact Nat.mul_le_mul_right _ h3
  have h4 : val R vs * 2 ^ s < R ^ k * (nth vs k + 1) * 2 ^ s := Nat.mul_lt_mul_of_pos_right h1 (pow_pos2 s)
  rw [Nat.mul_assoc] at h4
  have h5 := Nat.mul_le_mul_left (R ^ k) h2
  rw [Nat.pow_succ]
  omega

theorem take_all {zs : List Nat} {k : Nat} (hl : zs.length = k + 1) (h : val R zs < R ^ k) : val R (zs.take k) = val R zs := by
  have e := val_split R zs k (by omega)
  have : val R (zs.drop k) = 0 := by
    rcases Nat.eq_zero_or_pos (val R (zs.drop k)) with h0 | h0
    · exact h0
    · have := Nat.mul_le_mul_left (R ^ k) h0
      omega
  rw [this] at e
  omega

theorem top_set {ds vs : List Nat} {k s : Nat} (hd : Small R ds) (hld : ds.length = k + 1) (hlv : vs.length = k + 1) (hv : val R ds = val R vs * 2 ^ s) (ht : 2147483648 ≤ nth vs k * 2 ^ s) : 2147483648 ≤ nth ds k := by
  have h1 := val_top_lt hd hld
  have h2 := Nat.mul_le_mul_right (2 ^ s) (val_top_ge hlv)
  rw [Nat.mul_assoc, ← hv] at h2
  have h3 := Nat.lt_of_mul_lt_mul_left (Nat.lt_of_le_of_lt h2 h1)
  omega

theorem canon_top {vs : List Nat} {k : Nat} (h : Canon R vs) (hl : vs.length = k + 1) : 0 < nth vs k := by
  rcases Nat.eq_zero_or_pos (nth vs k) with h0 | h0
  · exfalso
    have h1 : tl vs ≤ k := by
      rcases Nat.lt_or_ge k (tl vs) with h2 | h2
      · exfalso
        have h3 : tl (vs.take (tl vs)) = (vs.take (tl vs)).length := tl_trm vs
        -- the last digit of a list in its one form is not 0
        have : ∀ xs : List Nat, tl xs = xs.length → ∀ k, xs.length = k + 1 → nth xs k ≠ 0 := by
          intro xs
          induction xs with
          | nil => intro _ k hk; simp at hk
          | cons x r ih =>
            intro ht k hk
            cases k with
            | zero =>
              have hr : r = [] := by simpa using hk
              subst hr
              simp [tl] at ht
              simp [nth]; omega
            | succ k =>
              have hr : tl r = r.length := by
                simp only [tl, List.length_cons] at ht
                by_cases hz : tl r = 0
                · rw [if_pos hz] at ht
                  simp only [List.length_cons] at hk
                  split at ht <;> omega
                · rw [if_neg hz] at ht; omega
              have := ih hr k (by simpa using hk)
              simpa [nth] using this
        exact this vs h.2 k hl h0
      · exact h2
    have := h.2
    omega
  · exact h0

/-- An answer outlasts a store into memory that is older than it, and the turn of a block that is no cells. -/
theorem Answer.last {w0 w4 W : World} {rv : Value} {n D : Nat} {p : Addr} {o : Obj} (v : Value) (o' : Obj) (h : Answer w4 W rv n) (hp : p.block < w4.heap.size) (hw : w0.heap.size ≤ w4.heap.size) (hK : (W.setCell p v).heap[D]? = some o) (ho : o.isCells = false) : Answer w0 ((W.setCell p v).putObj D o') rv n := by
  obtain ⟨zs, ⟨hs, h | ⟨g, full, cap, rfl, h1, h2, h3, h4, h5, h6, h7⟩⟩, hc, hv⟩ := h
  · exact ⟨zs, ⟨hs, .inl h⟩, hc, hv⟩
  · exact ⟨zs, ⟨hs, .inr ⟨g, full, cap, rfl, by omega, h2, h3, h4, h5, (h6.other (a := p) (by omega) v).putObj hK ho o', h7⟩⟩, hc, hv⟩

end Go.Proofs.YtkdhcpfmlelfcaaDoor
