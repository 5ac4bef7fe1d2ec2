/- slices.Grow and slices.Concat of bytes: three lists, one behind the other. -/
import Derived.Test.YthhpfdjcggfhaaaDoorUMem
import Derived.OwnWalk
import Derived.RangeFuncRecord
import Derived.Laws.OwnMore
import Derived.Lib.AppendZeros
import Derived.Lib.OwnKind
import Derived.Deep.DeepMust
namespace Go.Proofs.YthhpfdjcggfhaaaDoor
set_option linter.unusedVariables false
set_option linter.unusedSimpArgs false
set_option maxRecDepth 100000
open Go Go.RowKit Go.Shelf Go.Lib

theorem infoByte : (Tryd.prog.info? 5).map (fun i => (i.zero, i.size, i.bytes)) = some (some (.int .u8 0), 1, 1) := by kernel_rfl
def u8s (T : List Nat) : List Value := T.map (fun z : Nat => Value.int .u8 (z : Int))
theorem u8s_length (T : List Nat) : (u8s T).length = T.length := by simp [u8s]
theorem u8s_append (A B : List Nat) : u8s (A ++ B) = u8s A ++ u8s B := by simp [u8s]
/-- Bytes in a row of one's own. -/
def OwnB (n₀ : Nat) (W : World) (v : Value) (T : List Nat) : Prop := W.ownsRow n₀ 5 1 v T.length (u8s T)

set_option maxHeartbeats 4000000 in
theorem grow_calls (w : World) (n : Nat) (hn : n ≤ 1000000000) :
    Calls Tryd.prog 56 #[.slice none 0 0, .int .i64 (n : Int)] w fun e w' => ∃ v, e = .returned v ∧ OwnB w.heap.size w' v [] ∧ Below w.heap.size w w' := by
  by_cases h0 : n = 0
  · subst h0
    go_enter Tryd.func56, Tryd.ntmps56
    go_wp2
    go_ret
    exact ⟨_, rfl, World.ownsRow_nil _ _ _ _, Below.refl _ _⟩
  · obtain ⟨i0, hi, hz0, hz1, hz2⟩ := info_parts infoByte
    have happ := Lib.run_append_nil_zeros (P := Tryd.prog) w 36 3 36 5 i0 (.int .u8 0) .i64 .i64 Tryd.underlying36 Tryd.underlying3 hi hz0 n (by omega) (by omega) (by omega) (by rw [hz2]; omega)
    generalize hcap : grownCap w n 0 5 = cap2 at happ
    have hcapge : n ≤ cap2 := by rw [← hcap]; exact grownCap_ge w _ 0 5
    have hcaple : cap2 ≤ maxLen := by rw [← hcap]; exact grownCap_le_maxLen w _ 0 5 (by unfold maxLen; omega)
    generalize hZ : (Builtin.zeroCells (Value.int .u8 0).cells n ++ Builtin.zeroCells (Value.int .u8 0).cells (cap2 - n)) = Z at happ
    have hZs : Z.size = cap2 := by rw [← hZ]; simp [size_zeroCells, Value.cells]; omega
    have d1 : ¬ (n : Int) < 0 := by omega
    have d2 : (0 : Int) < (n : Int) := by omega
    have HZ := hide hZs
    have HC := hide hcapge
    have HL := hide hcaple
    clear hcap hZ hZs hcapge hcaple h0
    go_enter Tryd.func56, Tryd.ntmps56
    go_wp2_with (at_builtin; go_must (refine Lib.wpList_append_run _ rfl _ _ _ _ rfl _ _ rfl rfl _ _ happ ?_))
    go_ret
    refine ⟨_, rfl, ⟨rfl, .inr ⟨w.heap.size, cap2, Z, rfl, Nat.le_refl _, World.alloc_heap_new _ _, Nat.zero_le _, HL.out, by rw [HZ.out]; omega, by simp [u8s]⟩⟩, (Below.refl _ w).drew.alloc (Nat.le_refl _) _⟩

theorem run_append_none (w : World) (n₀ : Nat) (ty : TypeId) (v : Value) (gs : List Nat) (c : Nat) (hown : OwnB n₀ w v gs) : (Builtin.append_ #[36, 36] ty #[v, .slice none 0 c]).run Tryd.prog w = .ok v w := by
  obtain ⟨i0, hi, hz0, hz1, hz2⟩ := info_parts infoByte
  rcases hown.2 with ⟨rfl, h0⟩ | ⟨g, cap, cur, rfl, _, _, hnc, _⟩
  · simp [Builtin.append_, run_underlying Tryd.underlying36, sizeOf, typeInfo, hi, Builtin.lenOf, Builtin.firstCells]
  · simp [Builtin.append_, run_underlying Tryd.underlying36, sizeOf, typeInfo, hi, Builtin.lenOf, Builtin.firstCells, hnc, storeCells]

theorem addr_add' (b off j : Nat) : (⟨b, off, none⟩ : Addr).add j = ⟨b, off + j, none⟩ := by
  unfold Addr.add
  split
  · rename_i h0; simp [h0]
  · rfl

/-- Appending bytes, whatever they are, to one's own. -/
theorem wpList_appB (w : World) {ops : Array Oper} {rest : List Oper} {o : Oper} {a : Act} {Q : Exit → Act → World → Prop} (hg : o.guard = none) (s x : Operand)
    (ho : o.op = .call { callee := .builtin .append, args := #[s, x], argTypes := #[36, 36] })
    (n₀ : Nat) (v : Value) (gs : List Nat) (hs : a.eval s = v) (hown : OwnB n₀ w v gs) (xv : Value) (xs : List Nat) (hx : a.eval x = xv) (hl : Byts w xv xs) (hsum : gs.length + xs.length ≤ 1000000000) (hbase : n₀ ≤ w.heap.size)
    (h : ∀ v' w', OwnB n₀ w' v' (gs ++ xs) → w.grownBy w' v.ownBlock → wpList Tryd.prog ops Q rest (a.put o.dst v') w') : wpList Tryd.prog ops Q (o :: rest) a w := by
  obtain ⟨ao, cap, rfl, h3, h4⟩ := hl
  obtain ⟨i0, hi, hz0, hz1, hz2⟩ := info_parts infoByte
  by_cases hz : xs.length = 0 ∧ ao = none
  · obtain ⟨hz, rfl⟩ := hz
    obtain rfl : xs = [] := List.length_eq_zero_iff.1 hz
    refine wpList_plain hg fun K hK => ?_
    have hrun := run_append_none w n₀ o.type v gs cap hown
    unfold Oper.wp
    simp only [List.length_nil] at hx
    simp [execOp, ho, resolve, invoke, builtin, hs, hx, hrun, Result.andThen]
    exact hK _ _ (h v w (by simpa using hown) ⟨rfl, rfl, rfl, Nat.le_refl _, fun _ _ _ => rfl⟩)
  · obtain ⟨ad, had⟩ : ∃ ad, ao = some ad := by
      cases hA : ao with
      | some ad => exact ⟨ad, rfl⟩
      | none =>
        exfalso
        apply hz
        refine ⟨?_, hA⟩
        rcases Nat.eq_zero_or_pos xs.length with e | e
        · exact e
        · obtain ⟨b, off, e2, _⟩ := h4 0 e
          rw [hA] at e2
          cases e2
    subst had
    refine wpList_append_own w hg s x 36 ho n₀ 5 i0 (.int .u8 0) 1 1 Tryd.underlying36 hi hz0 hz1 hz2 rfl (by decide) v gs.length (u8s gs) hs hown ad xs.length cap (u8s xs) hx (by simp [u8s]) ?_ ?_ (by unfold maxLen; omega) (by omega) hbase ?_
    · intro j u hj
      have hj2 : j < xs.length := by
        have := (List.getElem?_eq_some_iff.1 hj).1
        rw [u8s_length] at this
        exact this
      obtain ⟨b, off, e, hc⟩ := h4 j hj2
      cases e
      rw [addr_add', hc]
      simp [u8s, hj2] at hj
      simp [nth, hj2, hj]
    · intro u hu
      obtain ⟨z, _, rfl⟩ := List.mem_map.1 hu
      rfl
    · intro v' w' hown' hgrow _
      refine h v' w' ?_ hgrow
      unfold OwnB
      rw [List.length_append, u8s_append]
      exact hown'

/-- The first of three lists, one behind the other. -/
def cat3 (A B C : List Nat) : Nat → List Nat
  | 0 => []
  | 1 => A
  | 2 => A ++ B
  | _ => A ++ B ++ C

set_option maxHeartbeats 4000000 in
theorem concat_calls (w : World) (g : Nat) (aA : Option Addr) (cA : Nat) (A : List Nat) (aB : Option Addr) (cB : Nat) (B : List Nat) (aC : Option Addr) (cC : Nat) (C : List Nat)
    (h0 : w.cell? ⟨g, 0, none⟩ = some (.slice aA A.length cA)) (h1 : w.cell? ⟨g, 1, none⟩ = some (.slice aB B.length cB)) (h2 : w.cell? ⟨g, 2, none⟩ = some (.slice aC C.length cC))
    (hA : Byts w (.slice aA A.length cA) A) (hB : Byts w (.slice aB B.length cB) B) (hC : Byts w (.slice aC C.length cC) C) (bA : A.length ≤ 10000000) (bB : B.length ≤ 10000000) (bC : C.length ≤ 10000000) :
    Calls Tryd.prog 46 #[.slice (some ⟨g, 0, none⟩) 3 3] w fun e w' => ∃ v, e = .returned v ∧ OwnB w.heap.size w' v (A ++ B ++ C) ∧ Below w.heap.size w w' := by
  have HA := hide hA
  have HB := hide hB
  have HC := hide hC
  clear hA hB hC
  go_enter Tryd.func46, Tryd.ntmps46
  go_wp2
  go_loopw [3, 11] (fun sv iv wr => ∃ k : Nat, k ≤ 3 ∧ iv = .int .i64 (k : Int) ∧ sv = .int .i64 (((cat3 A B C k).length : Nat) : Int) ∧ wr = w) (fun _ iv _ => 3 - (RowKit.intOf iv).toNat)
  case atStart => exact ⟨0, by omega, rfl, rfl, rfl⟩
  case round =>
    obtain ⟨k, hk, rfl, rfl, hwr⟩ := hrel
    rw [hwr]
    clear hwr
    rcases (by omega : k = 0 ∨ k = 1 ∨ k = 2 ∨ k = 3) with rfl | rfl | rfl | rfl
    · have e1 : (cat3 A B C 0).length = 0 := rfl
      rw [e1]
      go_wp2
      go_roundw
      case rel => exact ⟨1, by omega, rfl, rfl, trivial⟩
      case measure => simp [RowKit.intOf]
    · have e1 : (cat3 A B C 1).length = A.length := rfl
      rw [e1]
      have d1 : ¬ (A.length : Int) + (B.length : Int) < 0 := by omega
      go_wp2
      go_roundw
      case rel => exact ⟨2, by omega, rfl, by simp [cat3], trivial⟩
      case measure => simp [RowKit.intOf]
    · have e1 : (cat3 A B C 2).length = A.length + B.length := by simp [cat3]
      rw [e1]
      obtain ⟨m, hm⟩ : ∃ m, A.length + B.length = m := ⟨_, rfl⟩
      have HMM := hide hm
      have bm : m ≤ 20000000 := by omega
      rw [hm]
      clear hm e1
      have d1 : ¬ (m : Int) + (C.length : Int) < 0 := by omega
      go_wp2
      go_roundw
      case rel => exact ⟨3, by omega, rfl, by have := HMM.out; simp [cat3]; omega, trivial⟩
      case measure => simp [RowKit.intOf]
    · have e1 : (cat3 A B C 3).length = A.length + B.length + C.length := by simp [cat3]; omega
      rw [e1]
      obtain ⟨m, hm⟩ : ∃ m, A.length + B.length + C.length = m := ⟨_, rfl⟩
      have bm : m ≤ 30000000 := by omega
      rw [hm]
      clear hm e1
      go_wp2_with fail
      refine (grow_calls w m (by omega)).mono ?_
      rintro e w1 ⟨v, rfl, hown, hb1⟩
      have HOWN := hide hown
      have HB1 := hide hb1
      have c0 : Hid (w1.cell? ⟨g, 0, none⟩ = _) := (hb1.cell (p := ⟨g, 0, none⟩) (block_lt h0)).trans h0
      have c1 : Hid (w1.cell? ⟨g, 1, none⟩ = _) := (hb1.cell (p := ⟨g, 1, none⟩) (block_lt h1)).trans h1
      have c2 : Hid (w1.cell? ⟨g, 2, none⟩ = _) := (hb1.cell (p := ⟨g, 2, none⟩) (block_lt h2)).trans h2
      clear hown hb1
      have HG : Hid (g < w.heap.size) := block_lt h0
      go_wp2
      go_loopw [6, 27] (fun sv iv wr => ∃ k : Nat, k ≤ 3 ∧ iv = .int .i64 (k : Int) ∧ OwnB w.heap.size wr sv (cat3 A B C k) ∧ Below w.heap.size w wr) (fun _ iv _ => 3 - (RowKit.intOf iv).toNat)
      case atStart => exact ⟨0, by omega, rfl, HOWN.out, HB1.out⟩
      case round =>
        obtain ⟨k, hk, rfl, hown, hb⟩ := hrel
        clear HOWN HB1 c0 c1 c2
        rcases (by omega : k = 0 ∨ k = 1 ∨ k = 2 ∨ k = 3) with rfl | rfl | rfl | rfl
        · have e1 : cat3 A B C 0 = [] := rfl
          rw [e1] at hown
          have hbx : Byts wr (.slice aA A.length cA) A := HA.out.below hb
          have cc : wr.cell? ⟨g, 0, none⟩ = some (.slice aA A.length cA) := (hb.cell (p := ⟨g, 0, none⟩) (block_lt h0)).trans h0
          have HOWN := hide hown
          have HBX := hide hbx
          have HBB := hide hb
          clear hown hbx hb e1 h0 h1 h2
          go_wp2_with (at_builtin; go_must (refine wpList_appB _ rfl (.tmp 31) (.tmp 32) rfl w.heap.size _ [] rfl HOWN.out _ A rfl HBX.out (by (try simp only [List.length_append, List.length_nil]); omega) (by exact HBB.out.size) ?_; intro v' w2 hown' hgrow))
          have HOWN' := hide hown'
          have hb2 : Hid (Below w.heap.size w w2) := HBB.out.grown hgrow HBB.out.size (fun j hj => by have := (HOWN.out.lt j hj).1; omega)
          clear hown' hgrow cc
          go_wp2
          go_roundw
          case rel => exact ⟨1, by omega, rfl, by simpa [cat3] using HOWN'.out, hb2.out⟩
          case measure => simp [RowKit.intOf]
        · have e1 : cat3 A B C 1 = A := rfl
          rw [e1] at hown
          have hbx : Byts wr (.slice aB B.length cB) B := HB.out.below hb
          have cc : wr.cell? ⟨g, 1, none⟩ = some (.slice aB B.length cB) := (hb.cell (p := ⟨g, 1, none⟩) (block_lt h1)).trans h1
          have HOWN := hide hown
          have HBX := hide hbx
          have HBB := hide hb
          clear hown hbx hb e1 h0 h1 h2
          go_wp2_with (at_builtin; go_must (refine wpList_appB _ rfl (.tmp 31) (.tmp 32) rfl w.heap.size _ A rfl HOWN.out _ B rfl HBX.out (by (try simp only [List.length_append, List.length_nil]); omega) (by exact HBB.out.size) ?_; intro v' w2 hown' hgrow))
          have HOWN' := hide hown'
          have hb2 : Hid (Below w.heap.size w w2) := HBB.out.grown hgrow HBB.out.size (fun j hj => by have := (HOWN.out.lt j hj).1; omega)
          clear hown' hgrow cc
          go_wp2
          go_roundw
          case rel => exact ⟨2, by omega, rfl, by simpa [cat3] using HOWN'.out, hb2.out⟩
          case measure => simp [RowKit.intOf]
        · have e1 : cat3 A B C 2 = A ++ B := rfl
          rw [e1] at hown
          have hbx : Byts wr (.slice aC C.length cC) C := HC.out.below hb
          have cc : wr.cell? ⟨g, 2, none⟩ = some (.slice aC C.length cC) := (hb.cell (p := ⟨g, 2, none⟩) (block_lt h2)).trans h2
          have HOWN := hide hown
          have HBX := hide hbx
          have HBB := hide hb
          clear hown hbx hb e1 h0 h1 h2
          go_wp2_with (at_builtin; go_must (refine wpList_appB _ rfl (.tmp 31) (.tmp 32) rfl w.heap.size _ (A ++ B) rfl HOWN.out _ C rfl HBX.out (by (try simp only [List.length_append, List.length_nil]); omega) (by exact HBB.out.size) ?_; intro v' w2 hown' hgrow))
          have HOWN' := hide hown'
          have hb2 : Hid (Below w.heap.size w w2) := HBB.out.grown hgrow HBB.out.size (fun j hj => by have := (HOWN.out.lt j hj).1; omega)
          clear hown' hgrow cc
          go_wp2
          go_roundw
          case rel => exact ⟨3, by omega, rfl, by simpa [cat3] using HOWN'.out, hb2.out⟩
          case measure => simp [RowKit.intOf]
        · have e1 : cat3 A B C 3 = A ++ B ++ C := rfl
          rw [e1] at hown
          have HOWN := hide hown
          have HBB := hide hb
          clear hown hb e1 h0 h1 h2
          go_wp2
          go_ret
          exact ⟨_, rfl, HOWN.out, HBB.out⟩

end Go.Proofs.YthhpfdjcggfhaaaDoor
