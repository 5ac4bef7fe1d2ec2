/- The law's changes: the program's, one by one, as the reference's. -/
import Derived.Test.YtjkfnplmnoghlaaDoorTEdits
import Derived.Test.YtjkfnplmnoghlaaDoorTStep
import Derived.StillTailTactics
import Derived.Deep.RegionHeld3
import Derived.Deep.AppendLies
import Derived.Laws.OwnMore
import Derived.OwnWalk
namespace Go.Proofs.YtjkfnplmnoghlaaDoor
set_option linter.unusedVariables false
set_option linter.unusedSimpArgs false
set_option maxRecDepth 100000
open Go Go.RowKit Go.Shelf Go.Lib

theorem infoRCh : (Tryd.prog.info? 82).map (fun i => (i.zero, i.size, i.bytes)) = some (some (.agg #[.bool false, .int .i64 0, .int .i64 0, .int .i64 0, .int .i64 0, .string ⟨#[]⟩]), 6, 56) := by kernel_rfl
/-- Changes as cells. -/
def chCells (x : Ch) : List Value := [.bool x.1, .int .i64 x.2.1, .int .i64 x.2.2.1, .int .i64 x.2.2.2.1, .int .i64 x.2.2.2.2.1, .string (strOf x.2.2.2.2.2)]
def ccells (L : List Ch) : List Value := L.flatMap chCells
theorem ccells_get : ∀ (L : List Ch) (j : Nat) (s : Ch), L[j]? = some s → ∀ i, i < 6 → (ccells L)[j * 6 + i]? = (chCells s)[i]? := by
  intro L
  induction L with
  | nil => intro j t h; simp at h
  | cons a l ih =>
    intro j t h i hi
    have e : ccells (a :: l) = chCells a ++ ccells l := by simp [ccells]
    have el : (chCells a).length = 6 := rfl
    rw [e]
    cases j with
    | zero =>
      simp at h
      subst h
      rw [List.getElem?_append_left (by omega)]
      congr 1
      omega
    | succ j =>
      rw [List.getElem?_append_right (by omega), el, show (j + 1) * 6 + i - 6 = j * 6 + i by omega]
      exact ih j t (by simpa using h) i hi
theorem chsIn_of {n₀ : Nat} {W : World} {e : TypeId} {v : Value} {L : List Ch} (hok : ∀ (j : Nat) (x : Ch), L[j]? = some x → ChOk x) (h : W.ownsRow n₀ e 6 v L.length (ccells L)) : ChsIn W v L := by
  rcases h.2 with ⟨hv, hn⟩ | ⟨g, cap, cur, hv, hg, hh, hc1, hc2, hc3⟩
  · refine ⟨none, 0, by rw [hv, hn], by omega, fun j t hj => ?_⟩
    have : L = [] := List.length_eq_zero_iff.1 hn
    rw [this] at hj
    simp at hj
  · subst hv
    refine ⟨some ⟨g, 0, none⟩, cap, rfl, hc1, fun j t hj => ⟨hok j t hj, g, 0, rfl, ?_⟩⟩
    have hlt : j < L.length := (List.getElem?_eq_some_iff.1 hj).1
    have c := fun i hi => (h.cellAt (j * 6 + i) (by omega)).trans (ccells_get L j t hj i hi)
    simp only [Nat.zero_add]
    exact ⟨c 0 (by omega), c 1 (by omega), c 2 (by omega), c 3 (by omega), c 4 (by omega), c 5 (by omega)⟩

set_option maxHeartbeats 8000000 in
theorem changes_calls (w : World) (v : Value) (L : List Ch) (h : ChsIn w v L) (hL : L.length ≤ 100000) :
    Calls Tryd.prog 15 #[v] w fun e w' => ∃ rv, e = .returned rv ∧ ChsIn w' rv L ∧ Below w.heap.size w w' := by
  obtain ⟨ao, cap, rfl, hcap, hs⟩ := h
  obtain ⟨i0, hi, hz0, hz1, hz2⟩ := info_parts infoRCh
  have HS := hide hs
  clear hs
  generalize hLn : L.length = Ln at *
  have HLN := hide hLn
  clear hLn
  go_enter Tryd.func15, Tryd.ntmps15
  go_wp2
  go_loopw [3, 4] (fun ov iv wr => ∃ k : Nat, k ≤ Ln ∧ iv = .int .i64 (k : Int) ∧ wr.ownsRow w.heap.size 82 6 ov k (ccells (L.take k)) ∧ Below w.heap.size w wr) (fun _ iv _ => Ln - (RowKit.intOf iv).toNat)
  case atStart => exact ⟨0, by omega, rfl, World.ownsRow_nil _ _ _ _, Below.refl _ _⟩
  case round =>
    obtain ⟨k, hk, rfl, hown, hb⟩ := hrel
    have HOWN := hide hown
    have HB := hide hb
    by_cases hlt : k < Ln
    · obtain ⟨⟨rg, p, u, q, v, X⟩, hx⟩ : ∃ x, L[k]? = some x := ⟨_, List.getElem?_eq_getElem (by rw [HLN.out]; exact hlt)⟩
      obtain ⟨hok, eb, eo, rfl, hca⟩ := HS.out k _ hx
      have hca' := hca
      obtain ⟨c0, c1, c2, c3, c4, c5⟩ := hca
      dsimp only at c0 c1 c2 c3 c4 c5
      have lw : eb < w.heap.size := block_lt c0
      have le : eb < wr.heap.size := by have := hb.size; omega
      have HX := hide hx
      have d1 : (k : Int) < (Ln : Int) := by omega
      have d0 : (0 : Int) ≤ (k : Int) := by omega
      have HTK : Hid (ccells (L.take (k + 1)) = ccells (L.take k) ++ [.bool rg, .int .i64 p, .int .i64 u, .int .i64 q, .int .i64 v, .string (strOf X)]) := by
        show _ = _
        rw [List.take_add_one, hx]
        simp [ccells, chCells]
      generalize strOf X = sx at *
      have HSS : Hid (∀ X', Below w.heap.size w X' → (fun X' : World => X'.cell? ⟨eb, eo + k * 6, none⟩ = some (.bool rg) ∧ X'.cell? ⟨eb, eo + k * 6 + 1, none⟩ = some (.int .i64 p) ∧ X'.cell? ⟨eb, eo + k * 6 + 2, none⟩ = some (.int .i64 u) ∧ X'.cell? ⟨eb, eo + k * 6 + 3, none⟩ = some (.int .i64 q) ∧ X'.cell? ⟨eb, eo + k * 6 + 4, none⟩ = some (.int .i64 v) ∧ X'.cell? ⟨eb, eo + k * 6 + 5, none⟩ = some (.string sx)) X') := fun X' hX => ⟨(hX.cell (p := ⟨eb, eo + k * 6, none⟩) (block_lt c0)).trans c0, (hX.cell (p := ⟨eb, eo + k * 6 + 1, none⟩) (block_lt c1)).trans c1, (hX.cell (p := ⟨eb, eo + k * 6 + 2, none⟩) (block_lt c2)).trans c2, (hX.cell (p := ⟨eb, eo + k * 6 + 3, none⟩) (block_lt c3)).trans c3, (hX.cell (p := ⟨eb, eo + k * 6 + 4, none⟩) (block_lt c4)).trans c4, (hX.cell (p := ⟨eb, eo + k * 6 + 5, none⟩) (block_lt c5)).trans c5⟩
      clear c0 c1 c2 c3 c4 c5 hx hown hb hca' hok
      have HONE : Hid (∀ y ∈ ([.bool rg, .int .i64 p, .int .i64 u, .int .i64 q, .int .i64 v, .string sx] : List Value), y.oneCell' = true) := fun y hu => by
        simp at hu
        rcases hu with rfl | rfl | rfl | rfl | rfl | rfl <;> rfl
      have HO : Hid ((wr.alloc (.cells #[.bool rg, .int .i64 p, .int .i64 u, .int .i64 q, .int .i64 v, .string sx] 82)).ownsRow w.heap.size 82 6 u3 k (ccells (L.take k))) := World.ownsRow.alloc HOWN.out _
      have HSZ : Hid (w.heap.size ≤ (wr.alloc (.cells #[.bool rg, .int .i64 p, .int .i64 u, .int .i64 q, .int .i64 v, .string sx] 82)).heap.size) := by
        show _ ≤ _
        have := HB.out.size
        simp
        omega
      have HFIN : Hid (∀ w1, (wr.alloc (.cells #[.bool rg, .int .i64 p, .int .i64 u, .int .i64 q, .int .i64 v, .string sx] 82)).drew.grownBy w1 u3.ownBlock → Below w.heap.size w w1) := fun w1 hg =>
        ((HB.out.alloc HB.out.size _).drew).grown hg (by have := HB.out.size; simp; omega) (fun j hj => by have := (HOWN.out.lt j hj).1; omega)
      go_upto_region 5 with fail
      refine wp_region_held_drew (S := fun X' : World => X'.cell? ⟨eb, eo + k * 6, none⟩ = some (.bool rg) ∧ X'.cell? ⟨eb, eo + k * 6 + 1, none⟩ = some (.int .i64 p) ∧ X'.cell? ⟨eb, eo + k * 6 + 2, none⟩ = some (.int .i64 u) ∧ X'.cell? ⟨eb, eo + k * 6 + 3, none⟩ = some (.int .i64 q) ∧ X'.cell? ⟨eb, eo + k * 6 + 4, none⟩ = some (.int .i64 v) ∧ X'.cell? ⟨eb, eo + k * 6 + 5, none⟩ = some (.string sx)) (by kernel_rfl) ?_ (fun hHeld => ?_)
      · exact HSS.out _ HB.out.drew
      refine takeD (i := 0) (v := ?v1) (some 11) rfl (by kernel_rfl) (by kernel_rfl) (by kernel_rfl) (fun _ _ _ h => h) (Or.inl ⟨by rfl, ?hy1⟩) (by assumption) (by rfl) ?rest1
      case hy1 => first | (intro w hSw; (try dsimp only at hSw); obtain ⟨q0, q1, q2, q3, q4, q5⟩ := hSw; go_simp; done) | (intro w hSw; (try dsimp only at hSw); obtain ⟨q0, q1, q2, q3, q4, q5⟩ := hSw; go_simp; with_reducible rfl)
      try simp only [Act.put, List.setIfInBounds_toArray, List.set_cons_zero, List.set_cons_succ]
      refine takeD (i := 1) (v := ?v2) (some 12) rfl (by kernel_rfl) (by kernel_rfl) (by kernel_rfl) (fun _ _ _ h => h) (Or.inl ⟨by rfl, ?hy2⟩) (by assumption) (by rfl) ?rest2
      case hy2 => first | (intro w hSw; (try dsimp only at hSw); obtain ⟨q0, q1, q2, q3, q4, q5⟩ := hSw; go_simp; done) | (intro w hSw; (try dsimp only at hSw); obtain ⟨q0, q1, q2, q3, q4, q5⟩ := hSw; go_simp; with_reducible rfl)
      try simp only [Act.put, List.setIfInBounds_toArray, List.set_cons_zero, List.set_cons_succ]
      refine takeD (i := 2) (v := ?v3) (some 13) rfl (by kernel_rfl) (by kernel_rfl) (by kernel_rfl) (fun _ _ _ h => h) (Or.inl ⟨by rfl, ?hy3⟩) (by assumption) (by rfl) ?rest3
      case hy3 => first | (intro w hSw; (try dsimp only at hSw); obtain ⟨q0, q1, q2, q3, q4, q5⟩ := hSw; go_simp; done) | (intro w hSw; (try dsimp only at hSw); obtain ⟨q0, q1, q2, q3, q4, q5⟩ := hSw; go_simp; with_reducible rfl)
      try simp only [Act.put, List.setIfInBounds_toArray, List.set_cons_zero, List.set_cons_succ]
      refine takeD (i := 3) (v := ?v4) (some 14) rfl (by kernel_rfl) (by kernel_rfl) (by kernel_rfl) (fun _ _ _ h => h) (Or.inl ⟨by rfl, ?hy4⟩) (by assumption) (by rfl) ?rest4
      case hy4 => first | (intro w hSw; (try dsimp only at hSw); obtain ⟨q0, q1, q2, q3, q4, q5⟩ := hSw; go_simp; done) | (intro w hSw; (try dsimp only at hSw); obtain ⟨q0, q1, q2, q3, q4, q5⟩ := hSw; go_simp; with_reducible rfl)
      try simp only [Act.put, List.setIfInBounds_toArray, List.set_cons_zero, List.set_cons_succ]
      refine takeD (i := 4) (v := ?v5) (some 15) rfl (by kernel_rfl) (by kernel_rfl) (by kernel_rfl) (fun _ _ _ h => h) (Or.inl ⟨by rfl, ?hy5⟩) (by assumption) (by rfl) ?rest5
      case hy5 => first | (intro w hSw; (try dsimp only at hSw); obtain ⟨q0, q1, q2, q3, q4, q5⟩ := hSw; go_simp; done) | (intro w hSw; (try dsimp only at hSw); obtain ⟨q0, q1, q2, q3, q4, q5⟩ := hSw; go_simp; with_reducible rfl)
      try simp only [Act.put, List.setIfInBounds_toArray, List.set_cons_zero, List.set_cons_succ]
      refine takeD (i := 5) (v := ?v6) (some 16) rfl (by kernel_rfl) (by kernel_rfl) (by kernel_rfl) (fun _ _ _ h => h) (Or.inl ⟨by rfl, ?hy6⟩) (by assumption) (by rfl) ?rest6
      case hy6 => first | (intro w hSw; (try dsimp only at hSw); obtain ⟨q0, q1, q2, q3, q4, q5⟩ := hSw; go_simp; done) | (intro w hSw; (try dsimp only at hSw); obtain ⟨q0, q1, q2, q3, q4, q5⟩ := hSw; go_simp; with_reducible rfl)
      try simp only [Act.put, List.setIfInBounds_toArray, List.set_cons_zero, List.set_cons_succ]
      refine takeD (i := 6) (v := ?v7) (some 17) rfl (by kernel_rfl) (by kernel_rfl) (by kernel_rfl) (fun _ _ _ h => h) (Or.inl ⟨by rfl, ?hy7⟩) (by assumption) (by rfl) ?rest7
      case hy7 => first | (intro w hSw; (try dsimp only at hSw); obtain ⟨q0, q1, q2, q3, q4, q5⟩ := hSw; go_simp; done) | (intro w hSw; (try dsimp only at hSw); obtain ⟨q0, q1, q2, q3, q4, q5⟩ := hSw; go_simp; with_reducible rfl)
      try simp only [Act.put, List.setIfInBounds_toArray, List.set_cons_zero, List.set_cons_succ]
      refine takeD (i := 7) (v := ?v8) (some 18) rfl (by kernel_rfl) (by kernel_rfl) (by kernel_rfl) (fun _ _ _ h => h) (Or.inl ⟨by rfl, ?hy8⟩) (by assumption) (by rfl) ?rest8
      case hy8 => first | (intro w hSw; (try dsimp only at hSw); obtain ⟨q0, q1, q2, q3, q4, q5⟩ := hSw; go_simp; done) | (intro w hSw; (try dsimp only at hSw); obtain ⟨q0, q1, q2, q3, q4, q5⟩ := hSw; go_simp; with_reducible rfl)
      try simp only [Act.put, List.setIfInBounds_toArray, List.set_cons_zero, List.set_cons_succ]
      refine takeD (i := 8) (v := ?v9) (some 19) rfl (by kernel_rfl) (by kernel_rfl) (by kernel_rfl) (fun _ _ _ h => h) (Or.inl ⟨by rfl, ?hy9⟩) (by assumption) (by rfl) ?rest9
      case hy9 => first | (intro w hSw; (try dsimp only at hSw); obtain ⟨q0, q1, q2, q3, q4, q5⟩ := hSw; go_simp; done) | (intro w hSw; (try dsimp only at hSw); obtain ⟨q0, q1, q2, q3, q4, q5⟩ := hSw; go_simp; with_reducible rfl)
      try simp only [Act.put, List.setIfInBounds_toArray, List.set_cons_zero, List.set_cons_succ]
      refine takeD (i := 9) (v := ?v10) (some 20) rfl (by kernel_rfl) (by kernel_rfl) (by kernel_rfl) (fun _ _ _ h => h) (Or.inl ⟨by rfl, ?hy10⟩) (by assumption) (by rfl) ?rest10
      case hy10 => first | (intro w hSw; (try dsimp only at hSw); obtain ⟨q0, q1, q2, q3, q4, q5⟩ := hSw; go_simp; done) | (intro w hSw; (try dsimp only at hSw); obtain ⟨q0, q1, q2, q3, q4, q5⟩ := hSw; go_simp; with_reducible rfl)
      try simp only [Act.put, List.setIfInBounds_toArray, List.set_cons_zero, List.set_cons_succ]
      refine takeD (i := 10) (v := ?v11) (some 21) rfl (by kernel_rfl) (by kernel_rfl) (by kernel_rfl) (fun _ _ _ h => h) (Or.inl ⟨by rfl, ?hy11⟩) (by assumption) (by rfl) ?rest11
      case hy11 => first | (intro w hSw; (try dsimp only at hSw); obtain ⟨q0, q1, q2, q3, q4, q5⟩ := hSw; go_simp; done) | (intro w hSw; (try dsimp only at hSw); obtain ⟨q0, q1, q2, q3, q4, q5⟩ := hSw; go_simp; with_reducible rfl)
      try simp only [Act.put, List.setIfInBounds_toArray, List.set_cons_zero, List.set_cons_succ]
      refine takeD (i := 11) (v := ?v12) (some 22) rfl (by kernel_rfl) (by kernel_rfl) (by kernel_rfl) (fun _ _ _ h => h) (Or.inl ⟨by rfl, ?hy12⟩) (by assumption) (by rfl) ?rest12
      case hy12 => first | (intro w hSw; (try dsimp only at hSw); obtain ⟨q0, q1, q2, q3, q4, q5⟩ := hSw; go_simp; done) | (intro w hSw; (try dsimp only at hSw); obtain ⟨q0, q1, q2, q3, q4, q5⟩ := hSw; go_simp; with_reducible rfl)
      try simp only [Act.put, List.setIfInBounds_toArray, List.set_cons_zero, List.set_cons_succ]
      refine takeD (i := 12) (v := ?v13) (some 23) rfl (by kernel_rfl) (by kernel_rfl) (by kernel_rfl) (fun _ _ _ h => h) (Or.inl ⟨by rfl, ?hy13⟩) (by assumption) (by rfl) ?rest13
      case hy13 => first | (intro w hSw; (try dsimp only at hSw); obtain ⟨q0, q1, q2, q3, q4, q5⟩ := hSw; go_simp; done) | (intro w hSw; (try dsimp only at hSw); obtain ⟨q0, q1, q2, q3, q4, q5⟩ := hSw; go_simp; with_reducible rfl)
      try simp only [Act.put, List.setIfInBounds_toArray, List.set_cons_zero, List.set_cons_succ]
      refine takeD (i := 13) (v := ?v14) (some 24) rfl (by kernel_rfl) (by kernel_rfl) (by kernel_rfl) (fun _ _ _ h => h) (Or.inl ⟨by rfl, ?hy14⟩) (by assumption) (by rfl) ?rest14
      case hy14 => first | (intro w hSw; (try dsimp only at hSw); obtain ⟨q0, q1, q2, q3, q4, q5⟩ := hSw; go_simp; done) | (intro w hSw; (try dsimp only at hSw); obtain ⟨q0, q1, q2, q3, q4, q5⟩ := hSw; go_simp; with_reducible rfl)
      try simp only [Act.put, List.setIfInBounds_toArray, List.set_cons_zero, List.set_cons_succ]
      refine takeD (i := 14) (v := ?v15) (some 25) rfl (by kernel_rfl) (by kernel_rfl) (by kernel_rfl) (fun _ _ _ h => h) (Or.inl ⟨by rfl, ?hy15⟩) (by assumption) (by rfl) ?rest15
      case hy15 => first | (intro w hSw; (try dsimp only at hSw); obtain ⟨q0, q1, q2, q3, q4, q5⟩ := hSw; go_simp; done) | (intro w hSw; (try dsimp only at hSw); obtain ⟨q0, q1, q2, q3, q4, q5⟩ := hSw; go_simp; with_reducible rfl)
      try simp only [Act.put, List.setIfInBounds_toArray, List.set_cons_zero, List.set_cons_succ]
      refine takeD (i := 15) (v := ?v16) (some 26) rfl (by kernel_rfl) (by kernel_rfl) (by kernel_rfl) (fun _ _ _ h => h) (Or.inl ⟨by rfl, ?hy16⟩) (by assumption) (by rfl) ?rest16
      case hy16 => first | (intro w hSw; (try dsimp only at hSw); obtain ⟨q0, q1, q2, q3, q4, q5⟩ := hSw; go_simp; done) | (intro w hSw; (try dsimp only at hSw); obtain ⟨q0, q1, q2, q3, q4, q5⟩ := hSw; go_simp; with_reducible rfl)
      try simp only [Act.put, List.setIfInBounds_toArray, List.set_cons_zero, List.set_cons_succ]
      refine takeD (i := 16) (v := ?v17) (some 27) rfl (by kernel_rfl) (by kernel_rfl) (by kernel_rfl) (fun _ _ _ h => h) (Or.inl ⟨by rfl, ?hy17⟩) (by assumption) (by rfl) ?rest17
      case hy17 => first | (intro w hSw; (try dsimp only at hSw); obtain ⟨q0, q1, q2, q3, q4, q5⟩ := hSw; go_simp; done) | (intro w hSw; (try dsimp only at hSw); obtain ⟨q0, q1, q2, q3, q4, q5⟩ := hSw; go_simp; with_reducible rfl)
      try simp only [Act.put, List.setIfInBounds_toArray, List.set_cons_zero, List.set_cons_succ]
      refine takeD (i := 17) (v := ?v18) (some 28) rfl (by kernel_rfl) (by kernel_rfl) (by kernel_rfl) (fun _ _ _ h => h) (Or.inl ⟨by rfl, ?hy18⟩) (by assumption) (by rfl) ?rest18
      case hy18 => first | (intro w hSw; (try dsimp only at hSw); obtain ⟨q0, q1, q2, q3, q4, q5⟩ := hSw; go_simp; done) | (intro w hSw; (try dsimp only at hSw); obtain ⟨q0, q1, q2, q3, q4, q5⟩ := hSw; go_simp; with_reducible rfl)
      try simp only [Act.put, List.setIfInBounds_toArray, List.set_cons_zero, List.set_cons_succ]
      refine takeD (i := 18) (v := ?v19) (some 29) rfl (by kernel_rfl) (by kernel_rfl) (by kernel_rfl) (fun _ _ _ h => h) (Or.inl ⟨by rfl, ?hy19⟩) (by assumption) (by rfl) ?rest19
      case hy19 => first | (intro w hSw; (try dsimp only at hSw); obtain ⟨q0, q1, q2, q3, q4, q5⟩ := hSw; go_simp; done) | (intro w hSw; (try dsimp only at hSw); obtain ⟨q0, q1, q2, q3, q4, q5⟩ := hSw; go_simp; with_reducible rfl)
      try simp only [Act.put, List.setIfInBounds_toArray, List.set_cons_zero, List.set_cons_succ]
      refine takeD (i := 19) (v := ?v20) (some 30) rfl (by kernel_rfl) (by kernel_rfl) (by kernel_rfl) (fun _ _ _ h => h) (Or.inl ⟨by rfl, ?hy20⟩) (by assumption) (by rfl) ?rest20
      case hy20 => first | (intro w hSw; (try dsimp only at hSw); obtain ⟨q0, q1, q2, q3, q4, q5⟩ := hSw; go_simp; done) | (intro w hSw; (try dsimp only at hSw); obtain ⟨q0, q1, q2, q3, q4, q5⟩ := hSw; go_simp; with_reducible rfl)
      try simp only [Act.put, List.setIfInBounds_toArray, List.set_cons_zero, List.set_cons_succ]
      refine takeD (i := 20) (v := ?v21) (some 31) rfl (by kernel_rfl) (by kernel_rfl) (by kernel_rfl) (fun _ _ _ h => h) (Or.inl ⟨by rfl, ?hy21⟩) (by assumption) (by rfl) ?rest21
      case hy21 => first | (intro w hSw; (try dsimp only at hSw); obtain ⟨q0, q1, q2, q3, q4, q5⟩ := hSw; go_simp; done) | (intro w hSw; (try dsimp only at hSw); obtain ⟨q0, q1, q2, q3, q4, q5⟩ := hSw; go_simp; with_reducible rfl)
      try simp only [Act.put, List.setIfInBounds_toArray, List.set_cons_zero, List.set_cons_succ]
      refine takeD (i := 21) (v := ?v22) (some 32) rfl (by kernel_rfl) (by kernel_rfl) (by kernel_rfl) (fun _ _ _ h => h) (Or.inl ⟨by rfl, ?hy22⟩) (by assumption) (by rfl) ?rest22
      case hy22 => first | (intro w hSw; (try dsimp only at hSw); obtain ⟨q0, q1, q2, q3, q4, q5⟩ := hSw; go_simp; done) | (intro w hSw; (try dsimp only at hSw); obtain ⟨q0, q1, q2, q3, q4, q5⟩ := hSw; go_simp; with_reducible rfl)
      try simp only [Act.put, List.setIfInBounds_toArray, List.set_cons_zero, List.set_cons_succ]
      refine wpAnyH_ready (rs := [22]) (by kernel_rfl) (by simp) ?_
      refine AllReadyH.cons rfl (fun K hK => ?_) AllReadyH.nil
      go_simp
      refine hK.out _ _ (HSS.out _ (HB.out.drew.alloc (by simpa using HB.out.size) _)) (fun _ => ?_)
      clear hK K
      try simp only [Act.put, List.setIfInBounds_toArray, List.set_cons_zero, List.set_cons_succ]
      refine wpAnyH_ready (rs := [23]) (by kernel_rfl) (by simp) ?_
      refine AllReadyH.cons rfl (fun K hK => ?_) AllReadyH.nil
      refine wp_append_own _ (.tmp 11) (.tmp 33) 34 rfl w.heap.size 82 i0 (.agg #[.bool false, .int .i64 0, .int .i64 0, .int .i64 0, .int .i64 0, .string ⟨#[]⟩]) 6 56 Tryd.underlying34 hi hz0 hz1 hz2 rfl (by decide) _ k (ccells (L.take k)) rfl HO.out ⟨wr.heap.size, 0, none⟩ 1 1 [.bool rg, .int .i64 p, .int .i64 u, .int .i64 q, .int .i64 v, .string sx] rfl rfl (by exact World.news_of_block (World.alloc_heap_new _ _)) HONE.out (by unfold maxLen; omega) (by omega) HSZ.out ?_
      intro v' w1 hown' hgrow hnil
      have hb1 : Below w.heap.size w w1 := HFIN.out w1 hgrow
      obtain ⟨so, sn, sc, rfl⟩ : ∃ so sn sc, v' = Value.slice so sn sc := by
        rcases hown'.2 with ⟨e, _⟩ | ⟨g, cp, cur, e, _⟩
        · exact ⟨_, _, _, e⟩
        · exact ⟨_, _, _, e⟩
      refine hK.out _ _ (HSS.out _ hb1) (fun _ => ?_)
      clear hK K hnil
      try simp only [Act.put, List.setIfInBounds_toArray, List.set_cons_zero, List.set_cons_succ]
      refine wpAnyH_ready (rs := [24]) (by kernel_rfl) (by simp) ?_
      refine AllReadyH.cons rfl (fun K hK => ?_) AllReadyH.nil
      go_simp
      refine hK.out _ _ (HSS.out _ hb1) (fun _ => ?_)
      clear hK K
      try simp only [Act.put, List.setIfInBounds_toArray, List.set_cons_zero, List.set_cons_succ]
      refine wpAnyH_done (by kernel_rfl) ?_ _
      have HB1 := hide hb1
      have HOWN1 : Hid (w1.ownsRow w.heap.size 82 6 (.slice so sn sc) (k + 1) (ccells (L.take (k + 1)))) := by
        show World.ownsRow _ _ _ _ _ _ _
        rw [HTK.out]
        exact hown'
      clear hb1 hown' hgrow HO HSZ HFIN hHeld
      go_wp2
      go_roundw
      case rel => exact ⟨k + 1, by omega, by go_num, HOWN1.out, HB1.out⟩
      case measure => simp [RowKit.intOf]; omega
    · have ek : k = Ln := by omega
      subst ek
      clear hown hb
      have HT : Hid (L.take k = L) := List.take_of_length_le (Nat.le_of_eq HLN.out)
      go_wp2
      go_ret
      refine ⟨_, rfl, ?_, HB.out⟩
      have hw := HOWN.out
      rw [HT.out, ← HLN.out] at hw
      exact chsIn_of (fun j x hj => (HS.out j x hj).1) hw

/-- What light answers. -/
def LightR (T : List Nat) (L : List Ch) (v : Value) : Prop := v = .bool false ∨ (v = .bool true ∧ T.length ≤ 500 ∧ L.length ≤ 20 ∧ ∀ (j : Nat) (x : Ch), L[j]? = some x → x.2.2.2.2.2.length ≤ 300)

set_option maxHeartbeats 8000000 in
theorem light_calls (w : World) (T : List Nat) (v : Value) (L : List Ch) (h : ChsIn w v L) :
    Calls Tryd.prog 9 #[.string (strOf T), v] w fun e w' => ∃ b : Value, e = .returned b ∧ LightR T L b ∧ w' = w := by
  obtain ⟨ao, cap, rfl, hcap, hs⟩ := h
  have HS := hide hs
  have hsz : (strOf T).size = T.length := by simp [strOf, ByteArray.size]
  clear hs
  generalize strOf T = sT at *
  generalize hLl : L.length = Ln at *
  have HLN := hide hLl
  clear hLl
  by_cases g1 : T.length ≤ 500
  · by_cases g2 : Ln ≤ 20
    · have d1 : ¬ (T.length : Int) > 500 := by omega
      have d2 : ¬ (Ln : Int) > 20 := by omega
      have G1 := hide g1
      have G2 := hide g2
      go_enter Tryd.func9, Tryd.ntmps9
      go_wp2
      go_loopw [5] (fun iv wr => ∃ k : Nat, k ≤ Ln ∧ iv = .int .i64 (k : Int) ∧ (∀ (j : Nat) (x : Ch), j < k → L[j]? = some x → x.2.2.2.2.2.length ≤ 300) ∧ wr = w) (fun iv _ => Ln - (RowKit.intOf iv).toNat)
      case atStart => exact ⟨0, Nat.zero_le _, rfl, fun j x hj => by omega, rfl⟩
      case round =>
        obtain ⟨k, hk, rfl, hall, rfl⟩ := hrel
        have HALL := hide hall
        clear hall
        by_cases hlt : k < Ln
        · obtain ⟨⟨rg, p, u, q, v, X⟩, hx⟩ : ∃ x, L[k]? = some x := ⟨_, List.getElem?_eq_getElem (by rw [HLN.out]; exact hlt)⟩
          obtain ⟨hok, eb, eo, rfl, hca⟩ := HS.out k _ hx
          have c5 := hca.2.2.2.2.2
          dsimp only at c5
          have hsx : (strOf X).size = X.length := by simp [strOf, ByteArray.size]
          have e1 : (k : Int) < (Ln : Int) := by omega
          have e0 : (0 : Int) ≤ (k : Int) := by omega
          have HX := hide hx
          clear hok hca hx
          generalize strOf X = sx at *
          by_cases g3 : X.length ≤ 300
          · have e2 : ¬ (X.length : Int) > 300 := by omega
            go_wp2
            go_roundw
            case rel =>
              refine ⟨k + 1, by omega, by go_num, fun j x hj hjx => ?_, by first | rfl | trivial⟩
              rcases Nat.lt_or_ge j k with g | g
              · exact HALL.out j x g hjx
              · obtain rfl : j = k := by omega
                obtain rfl := Option.some.inj (HX.out.symm.trans hjx)
                exact g3
            case measure => simp [RowKit.intOf]; omega
          · have e2 : (X.length : Int) > 300 := by omega
            go_wp2
            go_ret
            exact ⟨_, rfl, .inl rfl, rfl⟩
        · obtain rfl : k = Ln := by omega
          have e1 : ¬ (k : Int) < (k : Int) := by omega
          go_wp2
          go_ret
          exact ⟨_, rfl, .inr ⟨rfl, G1.out, by rw [HLN.out]; exact G2.out, fun j x hj => HALL.out j x (by have := (List.getElem?_eq_some_iff.1 hj).1; have := HLN.out; omega) hj⟩, rfl⟩
    · have d1 : ¬ (T.length : Int) > 500 := by omega
      have d2 : (Ln : Int) > 20 := by omega
      go_enter Tryd.func9, Tryd.ntmps9
      go_wp2
      go_ret
      exact ⟨_, rfl, .inl rfl, rfl⟩
  · have d1 : (T.length : Int) > 500 := by omega
    go_enter Tryd.func9, Tryd.ntmps9
    go_wp2
    go_ret
    exact ⟨_, rfl, .inl rfl, rfl⟩

end Go.Proofs.YtjkfnplmnoghlaaDoor
