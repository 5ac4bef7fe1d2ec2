/- The contracts of DivMod and Gcd. -/
import Derived.Test.YtkdhcpfmlelfcaaDoorLong
import Derived.Test.YtkdhcpfmlelfcaaDoorCmp
import Derived.Test.YtkdhcpfmlelfcaaDoorBTake
import Derived.Test.YtkdhcpfmlelfcaaDoorSmall2
namespace Go.Proofs.YtkdhcpfmlelfcaaDoor
set_option linter.unusedVariables false
set_option linter.unusedSimpArgs false
open Go Go.RowKit Go.Shelf

theorem canon_len_le {us vs : List Nat} (hu : Canon R us) (hv : Canon R vs) (h : val R vs ≤ val R us) : vs.length ≤ us.length := by
  rcases Nat.lt_or_ge us.length vs.length with h1 | h1
  · have := canon_len_lt R_pos hu.1 hv h1
    omega
  · exact h1

theorem trim_front (w0 w : World) (g cap : Nat) (zs rest : List Nat) (n v : Nat) (hn : zs.length = n) (hrow : Row w g (zs ++ rest)) (hs : Small R (zs ++ rest)) (hg : w0.heap.size ≤ g) (hc1 : n ≤ cap) (hc2 : cap ≤ (zs ++ rest).length) (hb : (zs ++ rest).length ≤ 70368744177664) (hv : val R zs = v) :
    Calls Tryd.prog 47 #[.slice (some ⟨g, 0, none⟩) n cap] w fun e w' => ∃ bo m dap, e = .returned (.slice bo m dap) ∧ Answer w0 w' (.slice bo m dap) v ∧ Below w.heap.size w w' := by
  subst hn
  have hsz : Small R zs := fun x hx => hs x (by simp [hx])
  have hlim := hrow.limbs hs 0 zs.length cap (by simp) hc1 (by omega)
  rw [List.drop_zero, List.take_left] at hlim
  refine (trim_calls _ _ _ zs hlim).mono ?_
  rintro e w2 ⟨rfl, hb2⟩
  have hm : Made w0.heap.size w2 (trimmed (some ⟨g, 0, none⟩) cap zs) (trm zs) := by
    unfold trimmed
    by_cases hz : tl zs = 0
    · rw [if_pos hz, trm_nil_of hz]; exact Made.nil _ _
    · rw [if_neg hz]
      have := tl_le zs
      refine ⟨hsz.trm, .inr ⟨g, zs ++ rest, cap, by rw [trm_length], hg, by rw [trm_length]; omega, hc2, hb, hs, hrow.keep hb2, ?_⟩⟩
      rw [trm_length, List.take_append_of_le_length this]
      rfl
  obtain ⟨bo, dap, hf⟩ := trimmed_form (some ⟨g, 0, none⟩) cap zs
  rw [hf] at hm ⊢
  exact ⟨_, _, _, rfl, ⟨_, hm, canon_trm hsz, by rw [val_trm, hv]⟩, hb2⟩

theorem divideBy_at (w : World) (g cap d n : Nat) (zs rest : List Nat) (hn : zs.length = n) (hrow : Row w g (zs ++ rest)) (hs : Small R zs) (hc : n ≤ cap) (hcap : cap ≤ 70368744177664) (hb : n ≤ 1048577) (hd : 0 < d) (hd2 : d < 4294967296) :
    Calls Tryd.prog 79 #[.slice (some ⟨g, 0, none⟩) n cap, .int .u32 (d : Int)] w fun e w' => ∃ (qs : List Nat) (r : Nat), e = .returned (.int .u32 (r : Int)) ∧ Hid (r = val R zs % d) ∧ r < d ∧ Hid (qs.length = n) ∧ Small R qs ∧ Hid (val R qs = val R zs / d) ∧ Row w' g (qs ++ rest) ∧ But g w w' := by
  subst hn
  refine (divideBy_calls w g cap d zs rest hrow hs hc hcap hb hd hd2).mono ?_
  rintro e w' ⟨qs, h1, h2, h3, h4, h5, h6⟩
  exact ⟨qs, _, h1, rfl, Nat.mod_lt _ hd, h2, h3, h4, h5, h6⟩

end Go.Proofs.YtkdhcpfmlelfcaaDoor
