/- The law's edits: the program's, one by one, as the reference's. -/
import Derived.Test.YthhpfdjcggfhaaaDoorTMoved
import Derived.Test.YthhpfdjcggfhaaaDoorUOne
import Derived.Test.YthhpfdjcggfhaaaDoorULines
import Derived.StillTailTactics
import Derived.Deep.RegionHeld3
import Derived.Deep.AppendLies
import Derived.Laws.OwnMore
import Derived.OwnWalk
namespace Go.Proofs.YthhpfdjcggfhaaaDoor
set_option linter.unusedVariables false
set_option linter.unusedSimpArgs false
set_option maxRecDepth 100000
open Go Go.RowKit Go.Shelf Go.Lib

theorem infoREd : (Tryd.prog.info? 84).map (fun i => (i.zero, i.size, i.bytes)) = some (some (.agg #[.int .i64 0, .int .i64 0, .int .i64 0]), 3, 24) := by kernel_rfl
/-- Edits as cells. -/
def edCells (x : Ed) : List Value := [.int .i64 x.1, .int .i64 x.2.1, .int .i64 x.2.2]
def ecells (L : List Ed) : List Value := L.flatMap edCells
theorem ecells_snoc (L : List Ed) (x : Ed) : ecells (L ++ [x]) = ecells L ++ edCells x := by simp [ecells]
theorem ecells_get : ∀ (L : List Ed) (j : Nat) (s : Ed), L[j]? = some s → ∀ i, i < 3 → (ecells L)[j * 3 + i]? = (edCells s)[i]? := by
  intro L
  induction L with
  | nil => intro j t h; simp at h
  | cons a l ih =>
    intro j t h i hi
    have e : ecells (a :: l) = edCells a ++ ecells l := by simp [ecells]
    have el : (edCells a).length = 3 := rfl
    rw [e]
    cases j with
    | zero =>
      simp at h
      subst h
      rw [List.getElem?_append_left (by omega)]
      congr 1
      omega
    | succ j =>
      rw [List.getElem?_append_right (by omega), el, show (j + 1) * 3 + i - 3 = j * 3 + i by omega]
      exact ih j t (by simpa using h) i hi
theorem edsIn_of {n₀ : Nat} {W : World} {e : TypeId} {v : Value} {L : List Ed} (h : W.ownsRow n₀ e 3 v L.length (ecells L)) : EdsIn W v L := by
  rcases h.2 with ⟨hv, hn⟩ | ⟨g, cap, cur, hv, hg, hh, hc1, hc2, hc3⟩
  · refine ⟨none, 0, by rw [hv, hn], by omega, fun j t hj => ?_⟩
    have : L = [] := List.length_eq_zero_iff.1 hn
    rw [this] at hj
    simp at hj
  · subst hv
    refine ⟨some ⟨g, 0, none⟩, cap, rfl, hc1, fun j t hj => ⟨g, 0, rfl, ?_⟩⟩
    have hlt : j < L.length := (List.getElem?_eq_some_iff.1 hj).1
    have c := fun i hi => (h.cellAt (j * 3 + i) (by omega)).trans (ecells_get L j t hj i hi)
    simp only [Nat.zero_add]
    exact ⟨c 0 (by omega), c 1 (by omega), c 2 (by omega)⟩

set_option maxHeartbeats 8000000 in
theorem edits_calls (w : World) (v : Value) (L : List Ed) (h : EdsIn w v L) (hL : L.length ≤ 100000) :
    Calls Tryd.prog 25 #[v] w fun e w' => ∃ rv, e = .returned rv ∧ EdsIn w' rv L ∧ Below w.heap.size w w' := by
  obtain ⟨ao, cap, rfl, hcap, hs⟩ := h
  obtain ⟨i0, hi, hz0, hz1, hz2⟩ := info_parts infoREd
  have HS := hide hs
  clear hs
  generalize hLn : L.length = Ln at *
  have HLN := hide hLn
  clear hLn
  go_enter Tryd.func25, Tryd.ntmps25
  go_wp2
  go_loopw [3, 4] (fun ov iv wr => ∃ k : Nat, k ≤ Ln ∧ iv = .int .i64 (k : Int) ∧ wr.ownsRow w.heap.size 84 3 ov k (ecells (L.take k)) ∧ Below w.heap.size w wr) (fun _ iv _ => Ln - (RowKit.intOf iv).toNat)
  case atStart => exact ⟨0, by omega, rfl, World.ownsRow_nil _ _ _ _, Below.refl _ _⟩
  case round =>
    obtain ⟨k, hk, rfl, hown, hb⟩ := hrel
    have HOWN := hide hown
    have HB := hide hb
    by_cases hlt : k < Ln
    · obtain ⟨⟨a, b, z⟩, hx⟩ : ∃ x, L[k]? = some x := ⟨_, List.getElem?_eq_getElem (by rw [HLN.out]; exact hlt)⟩
      obtain ⟨eb, eo, rfl, c0, c1, c2⟩ := HS.out k _ hx
      have c0' : wr.cell? ⟨eb, eo + k * 3, none⟩ = some (.int .i64 a) := (hb.cell (p := ⟨eb, eo + k * 3, none⟩) (block_lt c0)).trans c0
      have c1' : wr.cell? ⟨eb, eo + k * 3 + 1, none⟩ = some (.int .i64 b) := (hb.cell (p := ⟨eb, eo + k * 3 + 1, none⟩) (block_lt c1)).trans c1
      have c2' : wr.cell? ⟨eb, eo + k * 3 + 2, none⟩ = some (.int .i64 z) := (hb.cell (p := ⟨eb, eo + k * 3 + 2, none⟩) (block_lt c2)).trans c2
      have lw : eb < w.heap.size := block_lt c0
      have le : eb < wr.heap.size := block_lt c0'
      have HX := hide hx
      have d1 : (k : Int) < (Ln : Int) := by omega
      have d0 : (0 : Int) ≤ (k : Int) := by omega
      have HTK : Hid (ecells (L.take (k + 1)) = ecells (L.take k) ++ [.int .i64 a, .int .i64 b, .int .i64 z]) := by
        show _ = _
        rw [List.take_add_one, hx]
        simp [ecells, edCells]
      clear c0 c1 c2 hx hown hb
      have HSS : Hid (∀ X, Below w.heap.size w X → (fun X : World => X.cell? ⟨eb, eo + k * 3, none⟩ = some (.int .i64 a) ∧ X.cell? ⟨eb, eo + k * 3 + 1, none⟩ = some (.int .i64 b) ∧ X.cell? ⟨eb, eo + k * 3 + 2, none⟩ = some (.int .i64 z)) X) := fun X hX => by
        obtain ⟨b', o', e', c0, c1, c2⟩ := HS.out k _ HX.out
        cases e'
        exact ⟨(hX.cell (p := ⟨eb, eo + k * 3, none⟩) (block_lt c0)).trans c0, (hX.cell (p := ⟨eb, eo + k * 3 + 1, none⟩) (block_lt c1)).trans c1, (hX.cell (p := ⟨eb, eo + k * 3 + 2, none⟩) (block_lt c2)).trans c2⟩
      have HONE : Hid (∀ u ∈ ([.int .i64 a, .int .i64 b, .int .i64 z] : List Value), u.oneCell' = true) := fun u hu => by
        simp at hu
        rcases hu with rfl | rfl | rfl <;> rfl
      have HO : Hid ((wr.alloc (.cells #[.int .i64 a, .int .i64 b, .int .i64 z] 84)).ownsRow w.heap.size 84 3 u3 k (ecells (L.take k))) := World.ownsRow.alloc HOWN.out _
      have HSZ : Hid (w.heap.size ≤ (wr.alloc (.cells #[.int .i64 a, .int .i64 b, .int .i64 z] 84)).heap.size) := by
        show _ ≤ _
        have := HB.out.size
        simp
        omega
      have HFIN : Hid (∀ w1, (wr.alloc (.cells #[.int .i64 a, .int .i64 b, .int .i64 z] 84)).drew.grownBy w1 u3.ownBlock → Below w.heap.size w w1) := fun w1 hg =>
        ((HB.out.alloc HB.out.size _).drew).grown hg (by have := HB.out.size; simp; omega) (fun j hj => by have := (HOWN.out.lt j hj).1; omega)
      go_upto_region 5 with fail
      refine wp_region_held_drew (S := fun X : World => X.cell? ⟨eb, eo + k * 3, none⟩ = some (.int .i64 a) ∧ X.cell? ⟨eb, eo + k * 3 + 1, none⟩ = some (.int .i64 b) ∧ X.cell? ⟨eb, eo + k * 3 + 2, none⟩ = some (.int .i64 z)) (by kernel_rfl) ?_ (fun hHeld => ?_)
      · exact HSS.out _ HB.out.drew
      refine takeD (i := 0) (v := ?v1) (some 11) rfl (by kernel_rfl) (by kernel_rfl) (by kernel_rfl) (fun _ _ _ h => h) (Or.inl ⟨by rfl, ?hy1⟩) (by assumption) (by rfl) ?rest1
      case hy1 => first | (intro w hSw; (try dsimp only at hSw); obtain ⟨q0, q1, q2⟩ := hSw; go_simp; done) | (intro w hSw; (try dsimp only at hSw); obtain ⟨q0, q1, q2⟩ := hSw; go_simp; with_reducible rfl)
      try simp only [Act.put, List.setIfInBounds_toArray, List.set_cons_zero, List.set_cons_succ]
      refine takeD (i := 1) (v := ?v2) (some 12) rfl (by kernel_rfl) (by kernel_rfl) (by kernel_rfl) (fun _ _ _ h => h) (Or.inl ⟨by rfl, ?hy2⟩) (by assumption) (by rfl) ?rest2
      case hy2 => first | (intro w hSw; (try dsimp only at hSw); obtain ⟨q0, q1, q2⟩ := hSw; go_simp; done) | (intro w hSw; (try dsimp only at hSw); obtain ⟨q0, q1, q2⟩ := hSw; go_simp; with_reducible rfl)
      try simp only [Act.put, List.setIfInBounds_toArray, List.set_cons_zero, List.set_cons_succ]
      refine takeD (i := 2) (v := ?v3) (some 13) rfl (by kernel_rfl) (by kernel_rfl) (by kernel_rfl) (fun _ _ _ h => h) (Or.inl ⟨by rfl, ?hy3⟩) (by assumption) (by rfl) ?rest3
      case hy3 => first | (intro w hSw; (try dsimp only at hSw); obtain ⟨q0, q1, q2⟩ := hSw; go_simp; done) | (intro w hSw; (try dsimp only at hSw); obtain ⟨q0, q1, q2⟩ := hSw; go_simp; with_reducible rfl)
      try simp only [Act.put, List.setIfInBounds_toArray, List.set_cons_zero, List.set_cons_succ]
      refine takeD (i := 3) (v := ?v4) (some 14) rfl (by kernel_rfl) (by kernel_rfl) (by kernel_rfl) (fun _ _ _ h => h) (Or.inl ⟨by rfl, ?hy4⟩) (by assumption) (by rfl) ?rest4
      case hy4 => first | (intro w hSw; (try dsimp only at hSw); obtain ⟨q0, q1, q2⟩ := hSw; go_simp; done) | (intro w hSw; (try dsimp only at hSw); obtain ⟨q0, q1, q2⟩ := hSw; go_simp; with_reducible rfl)
      try simp only [Act.put, List.setIfInBounds_toArray, List.set_cons_zero, List.set_cons_succ]
      refine takeD (i := 4) (v := ?v5) (some 15) rfl (by kernel_rfl) (by kernel_rfl) (by kernel_rfl) (fun _ _ _ h => h) (Or.inl ⟨by rfl, ?hy5⟩) (by assumption) (by rfl) ?rest5
      case hy5 => first | (intro w hSw; (try dsimp only at hSw); obtain ⟨q0, q1, q2⟩ := hSw; go_simp; done) | (intro w hSw; (try dsimp only at hSw); obtain ⟨q0, q1, q2⟩ := hSw; go_simp; with_reducible rfl)
      try simp only [Act.put, List.setIfInBounds_toArray, List.set_cons_zero, List.set_cons_succ]
      refine takeD (i := 5) (v := ?v6) (some 16) rfl (by kernel_rfl) (by kernel_rfl) (by kernel_rfl) (fun _ _ _ h => h) (Or.inl ⟨by rfl, ?hy6⟩) (by assumption) (by rfl) ?rest6
      case hy6 => first | (intro w hSw; (try dsimp only at hSw); obtain ⟨q0, q1, q2⟩ := hSw; go_simp; done) | (intro w hSw; (try dsimp only at hSw); obtain ⟨q0, q1, q2⟩ := hSw; go_simp; with_reducible rfl)
      try simp only [Act.put, List.setIfInBounds_toArray, List.set_cons_zero, List.set_cons_succ]
      refine takeD (i := 6) (v := ?v7) (some 17) rfl (by kernel_rfl) (by kernel_rfl) (by kernel_rfl) (fun _ _ _ h => h) (Or.inl ⟨by rfl, ?hy7⟩) (by assumption) (by rfl) ?rest7
      case hy7 => first | (intro w hSw; (try dsimp only at hSw); obtain ⟨q0, q1, q2⟩ := hSw; go_simp; done) | (intro w hSw; (try dsimp only at hSw); obtain ⟨q0, q1, q2⟩ := hSw; go_simp; with_reducible rfl)
      try simp only [Act.put, List.setIfInBounds_toArray, List.set_cons_zero, List.set_cons_succ]
      refine takeD (i := 7) (v := ?v8) (some 18) rfl (by kernel_rfl) (by kernel_rfl) (by kernel_rfl) (fun _ _ _ h => h) (Or.inl ⟨by rfl, ?hy8⟩) (by assumption) (by rfl) ?rest8
      case hy8 => first | (intro w hSw; (try dsimp only at hSw); obtain ⟨q0, q1, q2⟩ := hSw; go_simp; done) | (intro w hSw; (try dsimp only at hSw); obtain ⟨q0, q1, q2⟩ := hSw; go_simp; with_reducible rfl)
      try simp only [Act.put, List.setIfInBounds_toArray, List.set_cons_zero, List.set_cons_succ]
      refine takeD (i := 8) (v := ?v9) (some 19) rfl (by kernel_rfl) (by kernel_rfl) (by kernel_rfl) (fun _ _ _ h => h) (Or.inl ⟨by rfl, ?hy9⟩) (by assumption) (by rfl) ?rest9
      case hy9 => first | (intro w hSw; (try dsimp only at hSw); obtain ⟨q0, q1, q2⟩ := hSw; go_simp; done) | (intro w hSw; (try dsimp only at hSw); obtain ⟨q0, q1, q2⟩ := hSw; go_simp; with_reducible rfl)
      try simp only [Act.put, List.setIfInBounds_toArray, List.set_cons_zero, List.set_cons_succ]
      refine takeD (i := 9) (v := ?v10) (some 20) rfl (by kernel_rfl) (by kernel_rfl) (by kernel_rfl) (fun _ _ _ h => h) (Or.inl ⟨by rfl, ?hy10⟩) (by assumption) (by rfl) ?rest10
      case hy10 => first | (intro w hSw; (try dsimp only at hSw); obtain ⟨q0, q1, q2⟩ := hSw; go_simp; done) | (intro w hSw; (try dsimp only at hSw); obtain ⟨q0, q1, q2⟩ := hSw; go_simp; with_reducible rfl)
      try simp only [Act.put, List.setIfInBounds_toArray, List.set_cons_zero, List.set_cons_succ]
      refine takeD (i := 10) (v := ?v11) (some 21) rfl (by kernel_rfl) (by kernel_rfl) (by kernel_rfl) (fun _ _ _ h => h) (Or.inl ⟨by rfl, ?hy11⟩) (by assumption) (by rfl) ?rest11
      case hy11 => first | (intro w hSw; (try dsimp only at hSw); obtain ⟨q0, q1, q2⟩ := hSw; go_simp; done) | (intro w hSw; (try dsimp only at hSw); obtain ⟨q0, q1, q2⟩ := hSw; go_simp; with_reducible rfl)
      try simp only [Act.put, List.setIfInBounds_toArray, List.set_cons_zero, List.set_cons_succ]
      refine takeD (i := 11) (v := ?v12) (some 22) rfl (by kernel_rfl) (by kernel_rfl) (by kernel_rfl) (fun _ _ _ h => h) (Or.inl ⟨by rfl, ?hy12⟩) (by assumption) (by rfl) ?rest12
      case hy12 => first | (intro w hSw; (try dsimp only at hSw); obtain ⟨q0, q1, q2⟩ := hSw; go_simp; done) | (intro w hSw; (try dsimp only at hSw); obtain ⟨q0, q1, q2⟩ := hSw; go_simp; with_reducible rfl)
      try simp only [Act.put, List.setIfInBounds_toArray, List.set_cons_zero, List.set_cons_succ]
      refine takeD (i := 12) (v := ?v13) (some 23) rfl (by kernel_rfl) (by kernel_rfl) (by kernel_rfl) (fun _ _ _ h => h) (Or.inl ⟨by rfl, ?hy13⟩) (by assumption) (by rfl) ?rest13
      case hy13 => first | (intro w hSw; (try dsimp only at hSw); obtain ⟨q0, q1, q2⟩ := hSw; go_simp; done) | (intro w hSw; (try dsimp only at hSw); obtain ⟨q0, q1, q2⟩ := hSw; go_simp; with_reducible rfl)
      try simp only [Act.put, List.setIfInBounds_toArray, List.set_cons_zero, List.set_cons_succ]
      refine takeD (i := 13) (v := ?v14) (some 24) rfl (by kernel_rfl) (by kernel_rfl) (by kernel_rfl) (fun _ _ _ h => h) (Or.inl ⟨by rfl, ?hy14⟩) (by assumption) (by rfl) ?rest14
      case hy14 => first | (intro w hSw; (try dsimp only at hSw); obtain ⟨q0, q1, q2⟩ := hSw; go_simp; done) | (intro w hSw; (try dsimp only at hSw); obtain ⟨q0, q1, q2⟩ := hSw; go_simp; with_reducible rfl)
      try simp only [Act.put, List.setIfInBounds_toArray, List.set_cons_zero, List.set_cons_succ]
      refine takeD (i := 14) (v := ?v15) (some 25) rfl (by kernel_rfl) (by kernel_rfl) (by kernel_rfl) (fun _ _ _ h => h) (Or.inl ⟨by rfl, ?hy15⟩) (by assumption) (by rfl) ?rest15
      case hy15 => first | (intro w hSw; (try dsimp only at hSw); obtain ⟨q0, q1, q2⟩ := hSw; go_simp; done) | (intro w hSw; (try dsimp only at hSw); obtain ⟨q0, q1, q2⟩ := hSw; go_simp; with_reducible rfl)
      try simp only [Act.put, List.setIfInBounds_toArray, List.set_cons_zero, List.set_cons_succ]
      refine takeD (i := 15) (v := ?v16) (some 26) rfl (by kernel_rfl) (by kernel_rfl) (by kernel_rfl) (fun _ _ _ h => h) (Or.inl ⟨by rfl, ?hy16⟩) (by assumption) (by rfl) ?rest16
      case hy16 => first | (intro w hSw; (try dsimp only at hSw); obtain ⟨q0, q1, q2⟩ := hSw; go_simp; done) | (intro w hSw; (try dsimp only at hSw); obtain ⟨q0, q1, q2⟩ := hSw; go_simp; with_reducible rfl)
      try simp only [Act.put, List.setIfInBounds_toArray, List.set_cons_zero, List.set_cons_succ]
      refine takeD (i := 16) (v := ?v17) (some 27) rfl (by kernel_rfl) (by kernel_rfl) (by kernel_rfl) (fun _ _ _ h => h) (Or.inl ⟨by rfl, ?hy17⟩) (by assumption) (by rfl) ?rest17
      case hy17 => first | (intro w hSw; (try dsimp only at hSw); obtain ⟨q0, q1, q2⟩ := hSw; go_simp; done) | (intro w hSw; (try dsimp only at hSw); obtain ⟨q0, q1, q2⟩ := hSw; go_simp; with_reducible rfl)
      try simp only [Act.put, List.setIfInBounds_toArray, List.set_cons_zero, List.set_cons_succ]
      refine wpAnyH_ready (rs := [17]) (by kernel_rfl) (by simp) ?_
      refine AllReadyH.cons rfl (fun K hK => ?_) AllReadyH.nil
      go_simp
      refine hK.out _ _ (HSS.out _ (HB.out.drew.alloc (by simpa using HB.out.size) _)) (fun _ => ?_)
      clear hK K
      try simp only [Act.put, List.setIfInBounds_toArray, List.set_cons_zero, List.set_cons_succ]
      refine wpAnyH_ready (rs := [18]) (by kernel_rfl) (by simp) ?_
      refine AllReadyH.cons rfl (fun K hK => ?_) AllReadyH.nil
      refine wp_append_own _ (.tmp 11) (.tmp 28) 31 rfl w.heap.size 84 i0 (.agg #[.int .i64 0, .int .i64 0, .int .i64 0]) 3 24 Tryd.underlying31 hi hz0 hz1 hz2 rfl (by decide) _ k (ecells (L.take k)) rfl HO.out ⟨wr.heap.size, 0, none⟩ 1 1 [.int .i64 a, .int .i64 b, .int .i64 z] rfl rfl (by exact World.news_of_block (World.alloc_heap_new _ _)) HONE.out (by unfold maxLen; omega) (by omega) HSZ.out ?_
      intro v' w1 hown' hgrow hnil
      have hb1 : Below w.heap.size w w1 := HFIN.out w1 hgrow
      obtain ⟨so, sn, sc, rfl⟩ : ∃ so sn sc, v' = Value.slice so sn sc := by
        rcases hown'.2 with ⟨e, _⟩ | ⟨g, cp, cur, e, _⟩
        · exact ⟨_, _, _, e⟩
        · exact ⟨_, _, _, e⟩
      refine hK.out _ _ (HSS.out _ hb1) (fun _ => ?_)
      clear hK K hnil
      try simp only [Act.put, List.setIfInBounds_toArray, List.set_cons_zero, List.set_cons_succ]
      refine wpAnyH_ready (rs := [19]) (by kernel_rfl) (by simp) ?_
      refine AllReadyH.cons rfl (fun K hK => ?_) AllReadyH.nil
      go_simp
      refine hK.out _ _ (HSS.out _ hb1) (fun _ => ?_)
      clear hK K
      try simp only [Act.put, List.setIfInBounds_toArray, List.set_cons_zero, List.set_cons_succ]
      refine wpAnyH_done (by kernel_rfl) ?_ _
      have HB1 := hide hb1
      have HOWN1 : Hid (w1.ownsRow w.heap.size 84 3 (.slice so sn sc) (k + 1) (ecells (L.take (k + 1)))) := by
        show World.ownsRow _ _ _ _ _ _ _
        rw [HTK.out]
        exact hown'
      clear hb1 hown' hgrow HO HSZ HFIN hHeld c0' c1' c2'
      go_wp2
      go_roundw
      case rel => exact ⟨k + 1, by omega, by go_num, HOWN1.out, HB1.out⟩
      case measure => simp [RowKit.intOf]; omega
    · have ek : k = Ln := by omega
      subst ek
      clear hown hb
      have HT : Hid (L.take k = L) := List.take_of_length_le (Nat.le_of_eq HLN.out)
      go_wp2
      go_ret
      refine ⟨_, rfl, ?_, HB.out⟩
      have hw := HOWN.out
      rw [HT.out, ← HLN.out] at hw
      exact edsIn_of hw

end Go.Proofs.YthhpfdjcggfhaaaDoor
