/- Json: the writer: add, need; isNumber; a number. -/
import Derived.Test.YtacgocfgcoejpaaDoorJParse2
import Derived.Lib.ItoaNum
namespace Go.Proofs.YtacgocfgcoejpaaDoor
set_option linter.unusedVariables false
set_option linter.unusedSimpArgs false
set_option maxRecDepth 100000
open Go Go.RowKit Go.Shelf Go.Lib

/-- Is a block one of bytes? -/
def IsU8 (o : Option Obj) : Prop := ∃ cs z, o = some (.cells cs 5 z)
/-- Nothing is other than it was but block B, and blocks of bytes from n₀ on. -/
structure FrW (n₀ B : Nat) (w w' : World) : Prop where
  os : w'.os = w.os
  tape : w'.tape = w.tape
  output : w'.output = w.output
  size : w.heap.size ≤ w'.heap.size
  block : ∀ k, k < w.heap.size → k ≠ B → (k < n₀ ∨ ¬ IsU8 w.heap[k]?) → w'.heap[k]? = w.heap[k]?
theorem FrW.refl (n₀ B : Nat) (w : World) : FrW n₀ B w w := ⟨rfl, rfl, rfl, Nat.le_refl _, fun _ _ _ _ => rfl⟩
theorem FrW.trans {n₀ B : Nat} {a b c : World} (h : FrW n₀ B a b) (k : FrW n₀ B b c) : FrW n₀ B a c := by
  refine ⟨k.os.trans h.os, k.tape.trans h.tape, k.output.trans h.output, Nat.le_trans h.size k.size, fun i hi hne hc => ?_⟩
  have e := h.block i hi hne hc
  exact (k.block i (Nat.lt_of_lt_of_le hi h.size) hne (by rw [e]; exact hc)).trans e
theorem FrW.of {n₀ B : Nat} {w w' : World} (h : Below w.heap.size w w') : FrW n₀ B w w' := ⟨h.os, h.tape, h.output, h.size, fun k hk _ _ => h.block k hk⟩
theorem FrW.set {n₀ B : Nat} {w w' : World} (h : FrW n₀ B w w') (i : Nat) (x : Value) : FrW n₀ B w (w'.setCell ⟨B, i, none⟩ x) :=
  ⟨h.os, h.tape, h.output, by rw [World.size_setCell]; exact h.size, fun k hk hne hc => (Below.heap_setCell w' ⟨B, i, none⟩ x k hne).trans (h.block k hk hne hc)⟩
theorem FrW.grown {n₀ B : Nat} {w w' : World} {v : Value} {T : List Nat} (ho : OwnB n₀ w v T) (hg : w.grownBy w' v.ownBlock) : FrW n₀ B w w' := by
  have b := (Below.refl 0 w).grown hg (Nat.zero_le _) (fun _ _ => Nat.zero_le _)
  refine ⟨b.os, b.tape, b.output, b.size, fun k hk _ hc => hg.block k hk (fun e => ?_)⟩
  obtain ⟨c, fz, hkk⟩ := Lib.ownsRow_kind ho k e.symm
  have := (World.ownsRow.lt ho k e.symm).1
  rcases hc with h1 | h1
  · omega
  · exact h1 ⟨_, _, hkk⟩
theorem FrW.below {n₀ B n : Nat} {w w' : World} (h : FrW n₀ B w w') (hn : n ≤ n₀) (hB : n ≤ B) (hs : n ≤ w.heap.size) : Below n w w' :=
  ⟨h.os, h.tape, h.output, h.size, fun k hk => h.block k (by omega) (by omega) (.inl (by omega))⟩
theorem BoxC.frw {n₀ B C : Nat} {w w' : World} {t : TypeId} {cs : Array Value} (h : BoxC w C t cs) (k : FrW n₀ B w w') (hne : C ≠ B) (ht : t ≠ 5) : BoxC w' C t cs := by
  refine (k.block C h.lt hne (.inr ?_)).trans h
  rintro ⟨cs', z, e⟩
  rw [show w.heap[C]? = _ from h] at e
  cases e
  exact ht rfl
theorem OwnV.frw {n₀ n₁ B : Nat} {w w' : World} {v : Value} {M : List JC} {t : TypeId} {cs : Array Value} (h : OwnV n₁ w v M) (k : FrW n₀ B w w') (hB : BoxC w B t cs) (ht : t ≠ 25) : OwnV n₁ w' v M := by
  refine h.keep fun j e => k.block j (h.lt j e).2 (fun q => h.ne hB ht (by rw [e, q])) (.inr ?_)
  rintro ⟨cs', z, e'⟩
  obtain ⟨c, fz, hk⟩ := Lib.ownsRow_kind h j e
  rw [hk] at e'
  cases e'

/-- A writer: the text so far, how many are open. -/
def WrJ (n₀ : Nat) (W : World) (B : Nat) (L : List Nat) (d : Nat) : Prop :=
  ∃ bv, BoxC W B 58 #[bv, .int .i64 (d : Int)] ∧ OwnB n₀ W bv L ∧ (∀ x ∈ L, x < 256) ∧ n₀ ≤ W.heap.size
theorem WrJ.below {n₀ : Nat} {W W' : World} {B : Nat} {L : List Nat} {d : Nat} (h : WrJ n₀ W B L d) (hb : Below W.heap.size W W') : WrJ n₀ W' B L d := by
  obtain ⟨bv, h1, h2, h3, h4⟩ := h
  exact ⟨bv, h1.below hb, h2.below hb, h3, Nat.le_trans h4 hb.size⟩
theorem strCells_of (S : List Nat) (hS : ∀ x ∈ S, x < 256) : strCells (strOf S) = u8s S := by
  unfold strCells u8s strOf
  simp only [List.map_map]
  apply List.map_congr_left
  intro x hx
  have := hS x hx
  simp
  omega

set_option maxHeartbeats 2000000 in
theorem add_calls (n₀ : Nat) (w : World) (B : Nat) (L S : List Nat) (d : Nat) (h : WrJ n₀ w B L d) (hS : ∀ x ∈ S, x < 256) (hlen : L.length + S.length ≤ 1000000000) :
    Calls Tryd.prog 34 #[.pointer (some ⟨B, 0, none⟩), .string (strOf S)] w fun e w' => e = .returned (.tuple #[]) ∧ WrJ n₀ w' B (L ++ S) d ∧ FrW n₀ B w w' := by
  obtain ⟨i0, hi, hz0, hz1, hz2⟩ := info_parts infoByte
  obtain ⟨bv, hx, ho, hL, hn⟩ := h
  have c0 : w.cell? ⟨B, 0, none⟩ = some bv := hx.cell 0
  have f0 := hx.frozen 0
  have lB := hx.lt
  have hsz := strOf_size S
  obtain ⟨v', w', hr, h2, h3, h5⟩ := run_append_own_string (P := Tryd.prog) w n₀ 26 9 26 5 i0 Tryd.underlying26 Tryd.underlying9 hi hz0 hz1 hz2 bv L.length (u8s L) ho (strOf S) (by unfold maxLen; omega) (by omega) hn
  rw [strCells_of S hS, hsz] at h2
  have ho' : OwnB n₀ w' v' (L ++ S) := by
    unfold OwnB
    rw [List.length_append, u8s_append]
    exact h2
  have hne : v'.ownBlock ≠ some B := by
    intro e
    obtain ⟨c, fz, hk⟩ := Lib.ownsRow_kind ho' B e
    have := hx.kept h3 (fun q => by
      obtain ⟨c, fz, hk⟩ := Lib.ownsRow_kind ho B q.symm
      rw [show w.heap[B]? = _ from hx] at hk
      cases hk)
    rw [show w'.heap[B]? = _ from this] at hk
    cases hk
  have hx' := hx.kept h3 (fun q => by
      obtain ⟨c, fz, hk⟩ := Lib.ownsRow_kind ho B q.symm
      rw [show w.heap[B]? = _ from hx] at hk
      cases hk)
  obtain ⟨av, an, ac, rfl⟩ := ho'.slice
  have c0' : w'.cell? ⟨B, 0, none⟩ = some bv := hx'.cell 0
  have f0' := hx'.frozen 0
  have lB' := hx'.lt
  have HP : Hid (WrJ n₀ (w'.setCell ⟨B, 0, none⟩ (.slice av an ac)) B (L ++ S) d ∧ FrW n₀ B w (w'.setCell ⟨B, 0, none⟩ (.slice av an ac))) := by
    refine ⟨⟨.slice av an ac, hx'.set 0 _, ho'.fr ((Fr.refl B none w').set 0 _) hne (by cases (Value.slice av an ac).ownBlock <;> simp), fun x hx => ?_, ?_⟩, (FrW.grown ho h3).set 0 _⟩
    · rcases List.mem_append.1 hx with q | q
      · exact hL x q
      · exact hS x q
    · rw [World.size_setCell]; exact Nat.le_trans hn (FrW.grown (B := B) ho h3).size
  clear hx ho hL h2 h3 h5 ho' hne hx' hi hz0 hz1 hz2 hsz hS hlen hn
  generalize strOf S = s at *
  go_enter Tryd.func34, Tryd.ntmps34
  go_wp2_with (at_builtin; go_must (refine Lib.wpList_append_run _ rfl _ _ _ _ rfl _ _ rfl rfl _ _ hr ?_))
  go_end0
  exact ⟨rfl, HP.out⟩

end Go.Proofs.YtacgocfgcoejpaaDoor
