/- utf.lettersOf: the letters of a line, as bytes. -/
import Derived.Test.YthhpfdjcggfhaaaDoorUIdx
import Derived.Test.YthhpfdjcggfhaaaDoorUSpan
namespace Go.Proofs.YthhpfdjcggfhaaaDoor
set_option linter.unusedVariables false
set_option linter.unusedSimpArgs false
open Go Go.RowKit Go.Shelf Go.Lib

/-- What of a text's memory the walks of utf know. -/
structure Know (W : World) : Prop where
  tabs : Utf8Tabs 1 2 W
  most : ∃ m : Int, W.cell? ⟨0, 0, none⟩ = some (.int .i64 m)
theorem Know.below {W W' : World} (h : Know W) (hb : Below W.heap.size W W') : Know W' :=
  ⟨Utf8Tabs_below h.tabs hb, by obtain ⟨m, hm⟩ := h.most; exact ⟨m, (hb.cell (p := ⟨0, 0, none⟩) (block_lt hm)).trans hm⟩⟩

/-- The bytes of a line. -/
def lineL (T : List Nat) (f e : Nat) : List Nat := (T.drop f).take (e - f)
theorem lineL_length {T : List Nat} {f e : Nat} (h : f ≤ e) (he : e ≤ T.length) : (lineL T f e).length = e - f := by
  unfold lineL
  rw [List.length_take, List.length_drop]
  omega
theorem lineL_small {T : List Nat} (hT : ∀ x ∈ T, x < 256) (f e : Nat) : ∀ x ∈ lineL T f e, x < 256 := fun x hx => hT x (List.mem_of_mem_drop (List.mem_of_mem_take hx))

theorem ends_drop {T : List Nat} {f n : Nat} (hf : f ≤ T.length) (h : IsEnd (T.drop f) 0 n) : IsEnd T f (f + n) := by
  obtain ⟨h1, h2, h3, h4⟩ := h
  rw [List.length_drop] at h2 h4
  refine ⟨by omega, by omega, fun j g1 g2 => ?_, fun g => ?_⟩
  · have := h3 (j - f) (Nat.zero_le _) (by omega)
    rw [nth_drop, show f + (j - f) = j by omega] at this
    exact this
  · have := h4 (by omega)
    rw [nth_drop] at this
    exact this

theorem clamp_nat (n : Int) (m : Nat) : ∃ f : Nat, clamp n (m : Int) = (f : Int) ∧ f ≤ m := by
  unfold clamp
  by_cases h : n < 0
  · exact ⟨0, by rw [if_pos h]; rfl, Nat.zero_le _⟩
  · rw [if_neg h]
    by_cases k : n > (m : Int)
    · exact ⟨m, by rw [if_pos k], Nat.le_refl _⟩
    · exact ⟨n.toNat, by rw [if_neg k]; omega, by omega⟩

/-- A slice of bytes whose room is known. -/
def Byt (W : World) (ao : Option Addr) (cap : Nat) (T : List Nat) : Prop := Byts W (.slice ao T.length cap) T ∧ T.length ≤ cap ∧ (ao = none → cap = 0)
theorem Byt.below {W W' : World} {ao : Option Addr} {cap : Nat} {T : List Nat} (h : Byt W ao cap T) (hb : Below W.heap.size W W') : Byt W' ao cap T := ⟨h.1.below hb, h.2.1, h.2.2⟩

set_option maxRecDepth 100000 in
set_option maxHeartbeats 4000000 in
theorem lettersOf_calls (w : World) (ao : Option Addr) (cap : Nat) (T : List Nat) (n : Int) (h : Byt w ao cap T) (hK : Know w) (hlen : T.length ≤ 1000000000) :
    Calls Tryd.prog 51 #[.slice ao T.length cap, .int .i64 n] w fun e w' => ∃ (f en : Nat) (bo : Option Addr) (bc : Nat), e = .returned (.tuple #[.slice bo (en - f) bc, .int .i64 (f : Int)]) ∧ clamp n (T.length : Int) = (f : Int) ∧ IsEnd T f en ∧ (∀ W0, Byt W0 ao cap T → Byt W0 bo bc (lineL T f en)) ∧ Below w.heap.size w w' := by
  obtain ⟨f, hcl, hf⟩ := clamp_nat n T.length
  obtain ⟨hB, hcap, hnil⟩ := h
  have HW := hide (within_calls w ao T.length cap n)
  rw [hcl] at HW
  have HCl := hide hcl
  have HK := hide hK
  clear hcl hK
  cases ao with
  | none =>
    obtain rfl : cap = 0 := hnil rfl
    have hT0 : T = [] := by
      cases T with
      | nil => rfl
      | cons x l =>
        obtain ⟨_, _, e, _, hc⟩ := hB
        cases e
        obtain ⟨_, _, e, _⟩ := hc 0 (by simp)
        cases e
    subst hT0
    obtain rfl : f = 0 := by simpa using hf
    obtain ⟨m, hm⟩ := HK.out.most
    have HI := hide (indexAny_calls w none 0 [] hB HK.out.tabs (by simp) (by simp) m hm)
    clear hB hnil hm hlen hcap hf
    rw [List.length_nil] at HW HI ⊢
    go_enter Tryd.func51, Tryd.ntmps51
    go_wp2_with fail
    refine HW.out.mono ?_
    rintro e w1 ⟨rfl, hw⟩
    rw [hw]
    clear hw
    go_wp2_with fail
    refine HI.out.mono ?_
    rintro e w2 ⟨r, rfl, hr, hb⟩
    obtain rfl : r = -1 := by
      rcases hr with ⟨k, _, hk, _⟩ | ⟨h, _⟩
      · simp at hk
      · exact h
    have hg : ¬ (0 : Int) ≤ -1 := by omega
    have Hb := hide hb
    clear hb
    go_wp2
    go_ret2
    refine ⟨0, 0, none, 0, rfl, HCl.out, ⟨Nat.le_refl _, Nat.le_refl _, fun j g1 g2 => by omega, fun g => by simp at g⟩, fun W0 _ => ⟨⟨none, 0, rfl, fun x hx => by simp [lineL] at hx, fun j hj => by simp [lineL] at hj⟩, by simp [lineL], fun _ => rfl⟩, Hb.out⟩
  | some ad =>
    by_cases h0 : T.length = 0
    · obtain rfl : T = [] := List.length_eq_zero_iff.1 h0
      obtain rfl : f = 0 := by simpa using hf
      obtain ⟨m, hm⟩ := HK.out.most
      have HI := hide (indexAny_calls w (some ad) cap [] hB HK.out.tabs (by simp) (by simp) m hm)
      clear hB hnil hm hlen hcap hf h0
      rw [List.length_nil] at HW HI ⊢
      go_enter Tryd.func51, Tryd.ntmps51
      go_wp2_with fail
      refine HW.out.mono ?_
      rintro e w1 ⟨rfl, hw⟩
      rw [hw]
      clear hw
      go_wp2_with fail
      refine HI.out.mono ?_
      rintro e w2 ⟨r, rfl, hr, hb⟩
      obtain rfl : r = -1 := by
        rcases hr with ⟨k, _, hk, _⟩ | ⟨h, _⟩
        · simp at hk
        · exact h
      have hg : ¬ (0 : Int) ≤ -1 := by omega
      have Hb := hide hb
      clear hb
      go_wp2
      go_ret2
      refine ⟨0, 0, some ad, cap, rfl, HCl.out, ⟨Nat.le_refl _, Nat.le_refl _, fun j g1 g2 => by omega, fun g => by simp at g⟩, fun W0 _ => ⟨⟨some ad, cap, rfl, fun x hx => by simp [lineL] at hx, fun j hj => by simp [lineL] at hj⟩, by simp [lineL], fun g => by cases g⟩, Hb.out⟩
    · obtain ⟨b, off, rfl, _⟩ : ∃ b off, ad = ⟨b, off, none⟩ ∧ True := by
        obtain ⟨_, _, e, _, hc⟩ := hB
        cases e
        obtain ⟨b, off, e, _⟩ := hc 0 (by omega)
        cases e
        exact ⟨b, off, rfl, trivial⟩
      by_cases hfc : f = cap
      · obtain ⟨m, hm⟩ := HK.out.most
        have E1 := hide (show T.length = f by omega)
        have hll : lineL T f f = [] := by unfold lineL; rw [Nat.sub_self, List.take_zero]
        subst hfc
        have HI := hide (indexAny_calls w (some ⟨b, off, none⟩) 0 [] ⟨some ⟨b, off, none⟩, 0, rfl, fun x hx => by simp at hx, fun j hj => by simp at hj⟩ HK.out.tabs (by simp) (by simp) m hm)
        rw [List.length_nil] at HI
        have d1 : (f : Int) ≤ (T.length : Int) := by omega
        have d2 : (T.length : Int) ≤ (f : Int) := by omega
        have d3 : (0 : Int) ≤ (f : Int) := by omega
        have Hll := hide hll
        clear hB hnil hm hf hcap h0 hll
        go_enter Tryd.func51, Tryd.ntmps51
        go_wp2_with fail
        refine HW.out.mono ?_
        rintro e w1 ⟨rfl, hw⟩
        rw [hw]
        clear hw
        go_wp2_with fail
        rw [show T.length - f = 0 by have := E1.out; omega]
        refine HI.out.mono ?_
        rintro e w2 ⟨r, rfl, hr, hb⟩
        obtain rfl : r = -1 := by
          rcases hr with ⟨k, _, hk, _⟩ | ⟨h, _⟩
          · simp at hk
          · exact h
        have hg : ¬ (0 : Int) ≤ -1 := by omega
        have Hb := hide hb
        clear hb
        go_wp2
        go_ret2
        refine ⟨f, f, some ⟨b, off, none⟩, 0, by rw [Nat.sub_self]; rfl, HCl.out, ⟨Nat.le_refl _, by rw [E1.out]; exact Nat.le_refl _, fun j g1 g2 => by omega, fun g => by have := E1.out; omega⟩, ?_, Hb.out⟩
        intro W0 _
        rw [Hll.out]
        exact ⟨⟨some ⟨b, off, none⟩, 0, rfl, fun x hx => by simp at hx, fun j hj => by simp at hj⟩, by simp, fun g => by cases g⟩
      have hl : (T.drop f).length = T.length - f := List.length_drop
      have HBd := hide (hB.drop (cap' := cap - f) hf rfl)
      have HBc := hide hB
      obtain ⟨m, hm⟩ := HK.out.most
      have hi := indexAny_calls w (some ⟨b, off + f, none⟩) (cap - f) (T.drop f) (by rw [hl]; exact HBd.out) HK.out.tabs (by omega) (by omega) m hm
      rw [hl] at hi
      have HI := hide hi
      have d1 : (f : Int) ≤ (T.length : Int) := by omega
      have d2 : (T.length : Int) ≤ (cap : Int) := by omega
      have d3 : (0 : Int) ≤ (f : Int) := by omega
      clear hB hnil hm hi
      go_enter Tryd.func51, Tryd.ntmps51
      go_wp2_with fail
      refine HW.out.mono ?_
      rintro e w1 ⟨rfl, hw⟩
      rw [hw]
      clear hw
      go_wp2_with fail
      refine HI.out.mono ?_
      rintro e w2 ⟨r, rfl, hr, hb⟩
      have Hb := hide hb
      clear hb
      rcases hr with ⟨k, rfl, hk, hE⟩ | ⟨rfl, hE⟩
      · have HE := hide (ends_drop hf hE)
        rw [hl] at hk
        have hg : (0 : Int) ≤ (k : Int) := by omega
        have d4 : (k : Int) ≤ ((T.length - f : Nat) : Int) := by omega
        have d5 : ((T.length - f : Nat) : Int) ≤ ((cap - f : Nat) : Int) := by omega
        clear hE
        go_wp2
        go_ret2
        refine ⟨f, f + k, some ⟨b, off + f, none⟩, cap - f, by rw [Nat.add_sub_cancel_left]; rfl, HCl.out, HE.out, fun W0 hW0 => ⟨?_, ?_, fun g => by cases g⟩, Hb.out⟩
        · rw [lineL_length (by omega) (by omega)]
          have := hW0.1.cut (cap' := cap - f) (p := f) (m := f + k - f) (by omega)
          exact this
        · rw [lineL_length (by omega) (by omega)]; omega
      · have HE := hide (ends_drop hf hE)
        rw [hl] at HE
        have hg : ¬ (0 : Int) ≤ -1 := by omega
        clear hE
        go_wp2
        go_ret2
        refine ⟨f, T.length, some ⟨b, off + f, none⟩, cap - f, rfl, HCl.out, by have := HE.out; rwa [show f + (T.length - f) = T.length by omega] at this, fun W0 hW0 => ⟨?_, ?_, fun g => by cases g⟩, Hb.out⟩
        · rw [lineL_length (by omega) (by omega)]
          have := hW0.1.cut (cap' := cap - f) (p := f) (m := T.length - f) (by omega)
          exact this
        · rw [lineL_length (by omega) (by omega)]; omega

end Go.Proofs.YthhpfdjcggfhaaaDoor
