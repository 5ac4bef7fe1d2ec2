/- A builder of texts whose bytes lie in memory that was made since: copyCheck, WriteString, WriteByte, Len, String. -/
import Derived.Test.YtbjolmgobeagoaaGreatDoorLnVars
import Derived.Test.YtbjolmgobeagoaaGreatDoorLnShelf
import Derived.Lib.Builder
import Derived.Lib.AppendStr
import Derived.Lib.UnsafeStr
import Derived.Laws.Externs
namespace Go.Proofs.YtbjolmgobeagoaaGreatDoor
set_option linter.unusedVariables false
set_option linter.unusedSimpArgs false
set_option maxRecDepth 100000
open Go Go.RowKit Go.Shelf Go.Lib

/-- A builder in block b that holds bytes, in a row of its own from B on. -/
def BdP (B b : Nat) (p v : Value) (l : List UInt8) (W : World) : Prop := W.heap[b]? = some (.cells #[p, v] 117 (0, 0)) ∧ W.ownsRow B 5 1 v (byteCells l).length (byteCells l)
def Bd (B b : Nat) (l : List UInt8) (W : World) : Prop := ∃ p v, (p = .pointer none ∨ p = .pointer (some ⟨b, 0, none⟩)) ∧ BdP B b p v l W
/-- All blocks below B but b are as they were, and so is whatever is no cells. -/
structure BtB (B b : Nat) (w w' : World) : Prop where
  os : w'.os = w.os
  tape : w'.tape = w.tape
  output : w'.output = w.output
  size : w.heap.size ≤ w'.heap.size
  block : ∀ k, k < B → k ≠ b → w'.heap[k]? = w.heap[k]?
  oth : KeepsOthers w w'
  kin : ∀ k cs t m, w.heap[k]? = some (.cells cs t m) → t ≠ 5 → k ≠ b → w'.heap[k]? = some (.cells cs t m)
theorem BtB.refl (B b : Nat) (w : World) : BtB B b w w := ⟨rfl, rfl, rfl, Nat.le_refl _, fun _ _ _ => rfl, KeepsOthers.refl _, fun _ _ _ _ h _ _ => h⟩
theorem BtB.trans {B b : Nat} {x y z : World} (h : BtB B b x y) (k : BtB B b y z) : BtB B b x z := ⟨k.os.trans h.os, k.tape.trans h.tape, k.output.trans h.output, Nat.le_trans h.size k.size, fun i hi hn => (k.block i hi hn).trans (h.block i hi hn), h.oth.trans k.oth, fun i cs t m hi ht hn => k.kin i cs t m (h.kin i cs t m hi ht hn) ht hn⟩
theorem BtB.of {B b : Nat} {w w' : World} (h : Below w.heap.size w w') (hB : B ≤ w.heap.size) : BtB B b w w' := ⟨h.os, h.tape, h.output, h.size, fun k hk _ => h.block k (by omega), ⟨h.size, fun k o hk _ => (h.block k (Array.getElem?_eq_some_iff.1 hk).1).trans hk⟩, fun k cs t m hk _ _ => (h.block k (Array.getElem?_eq_some_iff.1 hk).1).trans hk⟩
theorem BtB.below {B b n : Nat} {w w' : World} (h : BtB B b w w') (hn : n ≤ B) (hb : n ≤ b) : Below n w w' := ⟨h.os, h.tape, h.output, h.size, fun k hk => h.block k (by omega) (by omega)⟩
theorem BtB.cell {B b : Nat} {w w' : World} (h : BtB B b w w') {a : Addr} (ha : a.block < B) (hb : a.block ≠ b) : w'.cell? a = w.cell? a := World.cell?_of_block (h.block _ ha hb)
theorem BdP.lt {B b : Nat} {p v : Value} {l : List UInt8} {W : World} (h : BdP B b p v l W) : b < W.heap.size := (Array.getElem?_eq_some_iff.1 h.1).1
theorem Bd.lt {B b : Nat} {l : List UInt8} {W : World} (h : Bd B b l W) : b < W.heap.size := by
  obtain ⟨p, v, _, h⟩ := h
  exact h.lt
theorem BdP.apart {B b : Nat} {p v : Value} {l : List UInt8} {W : World} (h : BdP B b p v l W) : v.ownBlock ≠ some b := Lib.ownBlock_ne h.2 h.1 (by decide)
theorem BdP.cel {B b : Nat} {p v : Value} {l : List UInt8} {W W' : World} (h : BdP B b p v l W) (hc : Cel W W') : BdP B b p v l W' := by
  refine ⟨hc _ _ h.1 rfl, h.2.1, ?_⟩
  rcases h.2.2 with hn | ⟨g, cap, cur, hv, h1, h2, h3⟩
  · exact .inl hn
  · exact .inr ⟨g, cap, cur, hv, h1, hc _ _ h2 rfl, h3⟩
theorem Bd.cel {B b : Nat} {l : List UInt8} {W W' : World} (h : Bd B b l W) (hc : Cel W W') : Bd B b l W' := by
  obtain ⟨p, v, hp, h⟩ := h
  exact ⟨p, v, hp, h.cel hc⟩
theorem Bd.below {B b : Nat} {l : List UInt8} {W W' : World} (h : Bd B b l W) (hc : Below W.heap.size W W') : Bd B b l W' := h.cel (Cel.of hc)
theorem bd_new (B : Nat) (w : World) : Bd B w.heap.size [] (w.alloc (.cells #[.pointer none, .slice none 0 0] 117)) := ⟨_, _, .inl rfl, World.alloc_heap_new w _, World.ownsRow_nil _ _ _ _⟩
/-- The row's base may be any, while there is none. -/
theorem Bd.base {B b C : Nat} {W : World} (h : Bd B b [] W) : Bd C b [] W ∨ ∃ p v g, BdP B b p v [] W ∧ v.ownBlock = some g := by
  obtain ⟨p, v, hp, h1, h2, h3⟩ := h
  rcases h3 with ⟨hv, hn⟩ | ⟨g, cap, cur, hv, h4⟩
  · refine .inl ⟨p, v, hp, h1, h2, .inl ⟨hv, hn⟩⟩
  · exact .inr ⟨p, v, g, ⟨h1, h2, .inr ⟨g, cap, cur, hv, h4⟩⟩, by rw [hv]; rfl⟩
theorem Bd.lib {B b : Nat} {l : List UInt8} {W : World} (h : Bd B b l W) (hB : b ≤ B) : Lib.IsBuilder 117 5 b b (byteCells l) W := by
  obtain ⟨p, v, hp, h1, h2⟩ := h
  have h3 : W.ownsRow b 5 1 v (byteCells l).length (byteCells l) := ⟨h2.1, h2.2.imp id (fun ⟨g, cap, cur, hv, h4, h5⟩ => ⟨g, cap, cur, hv, Nat.le_trans hB h4, h5⟩)⟩
  have h4 : v.ownBlock ≠ some b := Lib.ownBlock_ne h2 h1 (by decide)
  rcases hp with rfl | rfl
  · exact .inl ⟨Nat.le_refl _, v, h1, h3, h4⟩
  · exact .inr ⟨Nat.le_refl _, v, h1, h3, h4⟩

theorem sizeBld : (Tryz.prog.info? 117).map (fun i => i.size) = some 2 := by kernel_rfl
theorem infoByt : (Tryz.prog.info? 5).map (fun i => (i.zero, i.size, i.bytes)) = some (some (.int .u8 0), 1, 1) := by kernel_rfl

set_option maxHeartbeats 1000000 in
theorem copy_used (b : Nat) (w : World) (h0 : w.cell? ⟨b, 0, none⟩ = some (.pointer (some ⟨b, 0, none⟩))) :
    Calls Tryz.prog 109 #[.pointer (some ⟨b, 0, none⟩)] w fun e w' => e = .returned (.tuple #[]) ∧ w' = w := by
  obtain ⟨j, hj, _⟩ := Option.map_eq_some_iff.1 sizeBld
  go_enter Tryz.func109, Tryz.ntmps109
  go_wp2
  rw [Lib.run_neq_ptr_same w _ Tryz.underlying114 hj]
  go_wp2
  go_end0
  exact ⟨rfl, rfl⟩

set_option maxHeartbeats 1000000 in
theorem copy_fresh (b : Nat) (w : World) (h0 : w.cell? ⟨b, 0, none⟩ = some (.pointer none)) (hsh : w.shape? b = some (117, 2)) (hfz : w.frozen? ⟨b, 0, none⟩ = false) :
    Calls Tryz.prog 109 #[.pointer (some ⟨b, 0, none⟩)] w fun e w' => e = .returned (.tuple #[]) ∧ w' = w.setCell ⟨b, 0, none⟩ (.pointer (some ⟨b, 0, none⟩)) := by
  obtain ⟨j, hj, hjs⟩ := Option.map_eq_some_iff.1 sizeBld
  go_enter Tryz.func109, Tryz.ntmps109
  go_wp2
  rw [Lib.run_to_unsafe w ⟨b, 0, none⟩ Tryz.underlying114 Tryz.underlying171 hj (by rw [hjs]; decide) hsh (Nat.zero_lt_succ 1)]
  simp only [Result.andThen]
  rw [Oper.upon_value]
  go_wp2
  rw [run_callFunc_extern Tryz.func125 (by kernel_rfl) (by kernel_rfl) (by kernel_rfl) (e := Extern.AbiNoEscape.same) (by kernel_rfl)]
  rw [Lib.run_noEscape]
  simp only [Result.andThen]
  rw [Oper.upon_value]
  go_wp2
  rw [Lib.run_from_unsafe w ⟨b, 0, none⟩ Tryz.underlying171 Tryz.underlying114 hj hsh (by kernel_rfl)]
  simp only [Result.andThen]
  rw [Oper.upon_value]
  go_wp2
  go_end0
  exact ⟨rfl, rfl⟩

theorem copy_calls {B b : Nat} {l : List UInt8} {w : World} (h : Bd B b l w) :
    Calls Tryz.prog 109 #[.pointer (some ⟨b, 0, none⟩)] w fun e w' => e = .returned (.tuple #[]) ∧ (∃ v, BdP B b (.pointer (some ⟨b, 0, none⟩)) v l w') ∧ BtB B b w w' := by
  obtain ⟨p, v, hp, h1, h2⟩ := h
  have c0 : w.cell? ⟨b, 0, none⟩ = some p := by rw [Lib.cell_of_heap h1]; rfl
  rcases hp with rfl | rfl
  · refine (copy_fresh b w c0 (by simp [World.shape?, h1]) (Lib.frozen_of_heap h1 0)).mono ?_
    rintro e w' ⟨rfl, rfl⟩
    have hne := Lib.ownBlock_ne h2 h1 (by decide)
    have hs := heap_setCell_same w b 0 _ _ (.pointer (some ⟨b, 0, none⟩)) h1
    refine ⟨rfl, ⟨v, hs, ?_⟩, ⟨rfl, rfl, rfl, by simp, fun k _ hk => heap_setCell_other w ⟨b, 0, none⟩ k _ hk, KeepsOthers.setCell _ _ _, fun k cs t m hk _ hn => (heap_setCell_other w ⟨b, 0, none⟩ k _ hn).trans hk⟩⟩
    refine ⟨h2.1, h2.2.imp id (fun ⟨g, cap, cur, hv, h4, h5, h6⟩ => ⟨g, cap, cur, hv, h4, ?_, h6⟩)⟩
    refine (heap_setCell_other w ⟨b, 0, none⟩ g _ ?_).trans h5
    intro e
    simp only at e
    subst e
    exact hne (by rw [hv]; rfl)
  · refine (copy_used b w c0).mono ?_
    rintro e w' ⟨rfl, rfl⟩
    exact ⟨rfl, ⟨v, h1, h2⟩, BtB.refl _ _ _⟩

/-- The builder's row put anew. -/
theorem bd_put {B b : Nat} {v v' : Value} {l : List UInt8} {bs : List Value} {n : Nat} {w1 w2 : World} (h : BdP B b (.pointer (some ⟨b, 0, none⟩)) v l w1) (hg : w1.grownBy w2 v.ownBlock) (ho : w2.ownsRow B 5 1 v' n bs) (l' : List UInt8) (hB : B ≤ w1.heap.size) (hn : n = l'.length) (hbs : bs = byteCells l') :
    Bd B b l' (w2.setCell ⟨b, 1, none⟩ v') ∧ BtB B b w1 (w2.setCell ⟨b, 1, none⟩ v') := by
  have hb2 : w2.heap[b]? = some (.cells #[.pointer (some ⟨b, 0, none⟩), v] 117 (0, 0)) := (hg.block b h.lt (fun e => h.apart e.symm)).trans h.1
  have hne : v'.ownBlock ≠ some b := Lib.ownBlock_ne ho hb2 (by decide)
  subst hn
  subst hbs
  have hs := heap_setCell_same w2 b 1 _ _ v' hb2
  refine ⟨⟨_, v', .inr rfl, hs, ?_⟩, ⟨hg.os, hg.tape, hg.output, Nat.le_trans hg.size (by simp), fun k hk hkb => (heap_setCell_other w2 ⟨b, 1, none⟩ k _ hkb).trans ?_, (KeepsOthers.of_grownBy hg (fun j o hj hoj => ?_)).trans (KeepsOthers.setCell _ _ _), fun k cs t m hk ht hn => (heap_setCell_other w2 ⟨b, 1, none⟩ k _ hn).trans ((hg.block k (Array.getElem?_eq_some_iff.1 hk).1 (fun e => Lib.ownBlock_ne h.2 hk ht e.symm)).trans hk)⟩⟩
  · rw [byteCells_length]
    refine ⟨ho.1, ho.2.imp id (fun ⟨g, cap, cur, hv, h4, h5, h6⟩ => ⟨g, cap, cur, hv, h4, ?_, h6⟩)⟩
    refine (heap_setCell_other w2 ⟨b, 1, none⟩ g _ ?_).trans h5
    intro e
    simp only at e
    subst e
    exact hne (by rw [hv]; rfl)
  · exact hg.block k (by omega) (fun e => by have := (h.2.lt k e.symm).1; omega)
  · rcases h.2.2 with ⟨hv, _⟩ | ⟨g, cap, cur, hv, h1, h2, _⟩
    · rw [hv] at hj
      simp [Value.ownBlock] at hj
    · rw [hv] at hj
      simp only [Value.ownBlock, Option.some.injEq] at hj
      subst hj
      rw [h2] at hoj
      cases hoj
      rfl

end Go.Proofs.YtbjolmgobeagoaaGreatDoor
