/- Frame: what FrameReads says beyond its walk. -/
import Derived.Test.YtnflbplhokodjaaDoorFRMsg
import Derived.Test.YtnflbplhokodjaaDoorFPcs
namespace Go.Proofs.YtnflbplhokodjaaDoor
set_option linter.unusedVariables false
set_option linter.unusedSimpArgs false
set_option maxRecDepth 100000
open Go Go.RowKit Go.Shelf Go.Lib

set_option maxHeartbeats 4000000 in
theorem same_calls (w : World) (k en n c n2 c2 : Nat) (a a2 : Option Addr) (T : List Nat) (h1 : Byts w (.slice a n c) T) (h2 : Byts w (.slice a2 n2 c2) T) :
    Calls Tryd.prog 13 #[.agg #[.int .i64 (k : Int), .slice a n c], .agg #[.int .i64 (k : Int), .slice a2 n2 c2, .int .i64 (en : Int)]] w fun e w' => e = .returned (.bool true) ∧ Below w.heap.size w w' := by
  have b1 := bel w (.cells #[.int .i64 (k : Int), .slice a n c] 34)
  have b2 := bel (w.alloc (.cells #[.int .i64 (k : Int), .slice a n c] 34)) (.cells #[.int .i64 (k : Int), .slice a2 n2 c2, .int .i64 (en : Int)] 36)
  have HBB := hide (bafter b1 b2 (Nat.le_refl _))
  have cv1 := conv_byts (h1.below HBB.out)
  have cv2 := conv_byts (h2.below HBB.out)
  have ek : ((k : Int) == (k : Int)) = true := beq_iff_eq.2 rfl
  clear b1 b2 h1 h2
  generalize strOf T = sT at *
  go_enter Tryd.func13, Tryd.ntmps13
  go_wp2
  go_ret
  exact ⟨rfl, HBB.out⟩

theorem feed_bound (s : St) (T : List Nat) : (feedL s T).2.length ≤ T.length := by
  induction T generalizing s with
  | nil => exact Nat.le_refl _
  | cons c l ih =>
    have h1 : (stepF s c).2.length ≤ 1 := by
      cases s with
      | nothing => exact Nat.zero_le _
      | skip n => show (if n ≤ 1 then (St.head hd0, []) else (.skip (n - 1), [])).2.length ≤ 1; split <;> simp
      | body n g => show (if n ≤ 1 then (St.head hd0, [(1, g ++ [c])]) else (.body (n - 1) (g ++ [c]), [])).2.length ≤ 1; split <;> simp
      | head h =>
        rcases hq : addL h c with ⟨q, h'⟩
        cases q with
        | opn => rw [step_open hq]; simp
        | none => rw [step_none hq]; simp
        | whole =>
          rw [step_whole hq]
          unfold beginL
          split
          · simp
          · split <;> simp
    have h2 := ih (stepF s c).1
    show ((stepF s c).2 ++ (feedL (stepF s c).1 l).2).length ≤ l.length + 1
    rw [List.length_append]
    omega
def three (m : Msg) : Bool := m.1 == 3
theorem step_over (s : St) (c : Nat) : (stepF s c).1.over = (s.over || (stepF s c).2.any three) := by
  cases s with
  | nothing => rfl
  | skip n => show (if n ≤ 1 then (St.head hd0, []) else (.skip (n - 1), [])).1.over = (false || (if n ≤ 1 then (St.head hd0, []) else (.skip (n - 1), [])).2.any three); split <;> rfl
  | body n g => show (if n ≤ 1 then (St.head hd0, [(1, g ++ [c])]) else (.body (n - 1) (g ++ [c]), [])).1.over = (false || (if n ≤ 1 then (St.head hd0, [(1, g ++ [c])]) else (.body (n - 1) (g ++ [c]), [])).2.any three); split <;> rfl
  | head h =>
    rcases hq : addL h c with ⟨q, h'⟩
    cases q with
    | opn => rw [step_open hq]; rfl
    | none => rw [step_none hq]; rfl
    | whole =>
      rw [step_whole hq]
      unfold beginL
      split
      · rfl
      · split <;> rfl
theorem feed_over_any (s : St) (T : List Nat) : (feedL s T).1.over = (s.over || (feedL s T).2.any three) := by
  induction T generalizing s with
  | nil => simp [feedL]
  | cons c l ih =>
    show (feedL (stepF s c).1 l).1.over = (s.over || ((stepF s c).2 ++ (feedL (stepF s c).1 l).2).any three)
    rw [ih, step_over, List.any_append, Bool.or_assoc]
def catP (L : List Pc) : List Nat := L.flatMap (fun x => x.2.2)
theorem catP_snoc (L : List Pc) (x : Pc) : catP (L ++ [x]) = catP L ++ x.2.2 := by simp [catP]
theorem catP_len (L : List Pc) : (catP L).length = sumP L := by
  induction L with
  | nil => rfl
  | cons x l ih =>
    have e1 : catP (x :: l) = x.2.2 ++ catP l := rfl
    have e2 : sumP (x :: l) = x.2.2.length + sumP l := by simp [sumP]
    rw [e1, e2, List.length_append, ih]
theorem sumP_take (L : List Pc) (k : Nat) : sumP (L.take k) ≤ sumP L := by
  have h : sumP (L.take k ++ L.drop k) = sumP (L.take k) + sumP (L.drop k) := by simp only [sumP, List.map_append, List.sum_append]
  rw [List.take_append_drop] at h
  omega
/-- How far the stream is behind so many pieces. -/
def atP (L : List Pc) (i : Nat) : St × List Msg := feedL (.head hd0) (catP (L.take i))
theorem atP_step {L : List Pc} {i : Nat} {x : Pc} (h : L[i]? = some x) : atP L (i + 1) = ((feedL (atP L i).1 x.2.2).1, (atP L i).2 ++ (feedL (atP L i).1 x.2.2).2) := by
  unfold atP
  rw [takeP h, catP_snoc, feed_app]
theorem atP_len {L : List Pc} {i : Nat} : (atP L i).2.length = (feedE (.head hd0) 0 (catP (L.take i))).length := by
  unfold atP
  rw [← feedE_msgs (.head hd0) 0, List.length_map]
theorem wanted {L : List Pc} {i : Nat} {x : Pc} (h : L[i]? = some x) {j : Nat} {m : Msg} (hm : (feedL (atP L i).1 x.2.2).2[j]? = some m) :
    ∃ en, (feedE (.head hd0) 0 (catP L))[(atP L i).2.length + j]? = some (m, en) ∧ (catP (L.take i)).length < en ∧ en ≤ (catP (L.take i)).length + x.2.2.length := by
  have e : catP L = (catP (L.take i) ++ x.2.2) ++ catP (L.drop (i + 1)) := by
    rw [← catP_snoc, ← takeP h]
    unfold catP
    rw [← List.flatMap_append, List.take_append_drop]
  rw [e, feedE_app, feedE_app, atP_len]
  have hst : (feedL (.head hd0) (catP (L.take i))).1 = (atP L i).1 := rfl
  rw [hst, Nat.zero_add]
  rw [← feedE_msgs (atP L i).1 (catP (L.take i)).length, List.getElem?_map] at hm
  obtain ⟨y, hy, rfl⟩ := Option.map_eq_some_iff.1 hm
  have hjl := (List.getElem?_eq_some_iff.1 hy).1
  have hen := feedE_ends (atP L i).1 (catP (L.take i)).length x.2.2 y (List.mem_of_getElem? hy)
  refine ⟨y.2, ?_, hen.1, hen.2⟩
  rw [List.getElem?_append_left (by rw [List.length_append]; omega), List.getElem?_append_right (by omega), show ∀ a b : Nat, a + b - a = b from fun a b => by omega]
  exact hy

end Go.Proofs.YtnflbplhokodjaaDoor
