/- Parts in their one form: tidy. -/
import Derived.Test.YtbjolmgobeagoaaGreatDoorLnTidy
namespace Go.Proofs.YtbjolmgobeagoaaGreatDoor
set_option linter.unusedVariables false
set_option linter.unusedSimpArgs false
set_option maxRecDepth 100000
open Go Go.RowKit Go.Shelf Go.Lib

def Rise (l : Ps) : Prop := l.Pairwise (fun a b => a.1 < b.1)
theorem rise_mem {l : Ps} (h : Rise l) {p : Int × Int} (hp : p ∈ l) : cf p.1 l = p.2 := by
  induction l with
  | nil => cases hp
  | cons q r ih =>
    have hq := List.pairwise_cons.1 h
    rcases List.mem_cons.1 hp with rfl | hp
    · rw [cf_cons, if_pos rfl, cf_none (fun x hx => by have := hq.1 x hx; omega)]; omega
    · rw [cf_cons, if_neg (by have := hq.1 p hp; omega), ih hq.2 hp]; omega
theorem ps_append (A B : List Pt) : ps (A ++ B) = ps A ++ ps B := by simp [ps]
theorem ps_length (M : List Pt) : (ps M).length = M.length := by simp [ps]
theorem ps_perm {A B : List Pt} (h : A.Perm B) : (ps A).Perm (ps B) := h.map pt

/-- What was gathered of the first so many parts. -/
structure Run (M X : List Pt) (k : Nat) : Prop where
  rise : Rise (ps X)
  cf : ∀ u, cf u (ps X) = cf u (ps (M.take k))
  last : ∀ j m, k = j + 1 → M[j]? = some m → ∃ Y x, X = Y ++ [x] ∧ x.1 = m.1
  none : k = 0 → X = []
  len : X.length ≤ k
theorem run_zero (M : List Pt) : Run M [] 0 := ⟨List.Pairwise.nil, fun u => by simp [ps], fun j m e => by omega, fun _ => rfl, Nat.le_refl _⟩
theorem Run.new {M X : List Pt} {k : Nat} {m : Pt} (h : Run M X k) (hs : M.Pairwise (fun a b => a.1 ≤ b.1)) (hm : M[k]? = some m) (hne : ∀ Y x, X = Y ++ [x] → x.1 ≠ m.1) (nb : Bool) (mv : Value) : Run M (X ++ [(m.1, nb, mv, m.2.2.2)]) (k + 1) := by
  have hk : k < M.length := (List.getElem?_eq_some_iff.1 hm).1
  refine ⟨?_, fun u => ?_, fun j m' e hj => ?_, fun e => by omega, by rw [List.length_append]; have := h.len; simp; omega⟩
  · rw [ps_append]
    refine List.pairwise_append.2 ⟨h.rise, by simp [ps], fun a ha b hb => ?_⟩
    simp only [ps, List.map_cons, List.map_nil, List.mem_singleton] at hb
    subst hb
    show a.1 < m.1
    cases k with
    | zero => rw [h.none rfl] at ha; simp [ps] at ha
    | succ k =>
      obtain ⟨Y, x, rfl, hx⟩ := h.last k M[k] rfl (List.getElem?_eq_getElem (by omega))
      have h1 : x.1 ≤ m.1 := by
        rw [hx]
        have e1 := List.pairwise_iff_getElem.1 hs k (k + 1) (by omega) hk (by omega)
        have e2 : m = M[k + 1] := by
          have := (List.getElem?_eq_some_iff.1 hm).2
          exact this.symm
        rw [e2]
        exact e1
      have h2 := hne Y x rfl
      rw [ps_append] at ha
      rcases List.mem_append.1 ha with h3 | h3
      · have hr := h.rise
        rw [ps_append] at hr
        have := (List.pairwise_append.1 hr).2.2 a h3 (pt x) (by simp [ps])
        have e3 : (pt x).1 = x.1 := rfl
        omega
      · simp only [ps, List.map_cons, List.map_nil, List.mem_singleton] at h3
        subst h3
        show x.1 < m.1
        omega
  · rw [ps_append, cf_append, h.cf u, List.take_add_one, hm]
    rw [ps_append, cf_append]
    rfl
  · obtain rfl : j = k := by omega
    rw [hm] at hj
    cases hj
    exact ⟨X, _, rfl, rfl⟩
theorem Run.more {M Y : List Pt} {k : Nat} {m x : Pt} (h : Run M (Y ++ [x]) k) (hm : M[k]? = some m) (he : x.1 = m.1) (nb : Bool) (mv : Value) : Run M (Y ++ [(x.1, nb, mv, x.2.2.2 + m.2.2.2)]) (k + 1) := by
  have hk : k < M.length := (List.getElem?_eq_some_iff.1 hm).1
  refine ⟨?_, fun u => ?_, fun j m' e hj => ?_, fun e => by omega, by have := h.len; simp at this ⊢; omega⟩
  · have hr := h.rise
    rw [ps_append] at hr ⊢
    have := List.pairwise_append.1 hr
    refine List.pairwise_append.2 ⟨this.1, by simp [ps], fun a ha b hb => ?_⟩
    simp only [ps, List.map_cons, List.map_nil, List.mem_singleton] at hb
    subst hb
    exact this.2.2 a ha (pt x) (by simp [ps])
  · have h1 := h.cf u
    rw [ps_append, cf_append] at h1 ⊢
    rw [List.take_add_one, hm, ps_append, cf_append, ← h1]
    simp only [ps, List.map_cons, List.map_nil, Option.toList_some, cf_cons, cf_nil, pt]
    rw [he]
    split <;> omega
  · obtain rfl : j = k := by omega
    rw [hm] at hj
    cases hj
    exact ⟨Y, _, rfl, he⟩

theorem pcells_set2 : ∀ (M : List Pt) (i : Nat) (x m : Pt), M[i]? = some x → m.1 = x.1 → pcells (M.set i m) = ((pcells M).set (i * 3 + 1) (.bool m.2.1)).set (i * 3 + 2) m.2.2.1 := by
  intro M
  induction M with
  | nil => intro i x m h; simp at h
  | cons a l ih =>
    intro i x m h e
    cases i with
    | zero =>
      simp at h
      subst h
      simp [pcells_cons, ptCells, e]
    | succ i =>
      rw [List.set_cons_succ, pcells_cons, ih i x m (by simpa using h) e, pcells_cons, show (i + 1) * 3 = i * 3 + 3 by omega]
      simp [ptCells]
/-- A part's number in one's own row is put anew. -/
theorem OwnP.put2 {n₀ : Nat} {W : World} {g cap : Nat} {M : List Pt} (h : OwnP n₀ W (.slice (some ⟨g, 0, none⟩) M.length cap) M) (hs : Sl M) {i : Nat} {x : Pt} (hx : M[i]? = some x) (m : Pt) (hv : m.1 = x.1) :
    OwnP n₀ ((W.setCell ⟨g, i * 3 + 1, none⟩ (.bool m.2.1)).setCell ⟨g, i * 3 + 2, none⟩ m.2.2.1) (.slice (some ⟨g, 0, none⟩) M.length cap) (M.set i m) ∧
    Fr32 n₀ W ((W.setCell ⟨g, i * 3 + 1, none⟩ (.bool m.2.1)).setCell ⟨g, i * 3 + 2, none⟩ m.2.2.1) := by
  have hi : i < M.length := (List.getElem?_eq_some_iff.1 hx).1
  have hlt := h.lt (j := g) rfl
  rcases h.1.2 with ⟨hv, hn⟩ | ⟨g', cp, cur, hv', h1, h2, h3, h4, h5, h6⟩
  · cases hv
  · cases hv'
    have g2 := heap_setCell_same W g (i * 3 + 1) _ _ (.bool m.2.1) h2
    have g3 := heap_setCell_same _ g (i * 3 + 2) _ _ m.2.2.1 g2
    have hcl : ∀ r, r < 3 → ∃ u, W.cell? ⟨g, i * 3 + r, none⟩ = some u ∧ ∀ x, u ≠ .int .u32 x := by
      intro r hr
      have hM : M[i]? = some M[i] := List.getElem?_eq_getElem hi
      have hc := (h.1.cellAt (j := i * 3 + r) (by rw [zPart_size]; omega)).trans (pcells_get M i M[i] hM r hr)
      have hl : r < (ptCells M[i]).length := hr
      refine ⟨(ptCells M[i])[r], hc.trans (List.getElem?_eq_getElem hl), fun x => not32 (hs _ (List.getElem_mem hi)) (List.getElem?_eq_getElem hl) x⟩
    have hk : K32 W ((W.setCell ⟨g, i * 3 + 1, none⟩ (.bool m.2.1)).setCell ⟨g, i * 3 + 2, none⟩ m.2.2.1) := by
      intro a x hx
      have hne : ∀ r, r < 3 → (⟨g, i * 3 + r, none⟩ : Addr) ≠ a := by
        rintro r hr rfl
        obtain ⟨u, hu, hn⟩ := hcl r hr
        rw [hu] at hx
        cases hx
        exact hn x rfl
      rw [World.cell?_setCell_other _ _ _ _ (hne 2 (by omega)), World.cell?_setCell_other _ _ _ _ (hne 1 (by omega))]
      exact hx
    have hb : Below n₀ W ((W.setCell ⟨g, i * 3 + 1, none⟩ (.bool m.2.1)).setCell ⟨g, i * 3 + 2, none⟩ m.2.2.1) :=
      ((Below.refl n₀ W).setCell (p := ⟨g, i * 3 + 1, none⟩) h1 _).setCell (p := ⟨g, i * 3 + 2, none⟩) h1 _
    refine ⟨⟨⟨?_, .inr ⟨g, cap, _, by rw [List.length_set], h1, g3, by rw [List.length_set]; exact h3, h4, ?_, ?_⟩⟩, ?_⟩, hb, hk⟩
    · rw [pcells_length]; rfl
    · simp only [Array.size_setIfInBounds]
      exact h5
    · rw [List.length_set]
      simp only [Array.toList_setIfInBounds]
      rw [List.take_set, List.take_set, h6, pcells_set2 M i x m hx hv]
    · intro g' j u hg hj hc
      simp only [Value.ownBlock, Option.some.injEq] at hg
      subst hg
      rw [List.length_set, zPart_size] at hj
      rw [World.cell?_setCell_other _ _ _ _ (by intro e; simp only [Addr.mk.injEq] at e; omega), World.cell?_setCell_other _ _ _ _ (by intro e; simp only [Addr.mk.injEq] at e; omega)] at hc
      exact h.2 g j u rfl (by rw [zPart_size]; exact hj) hc

theorem GoodR.arg {W : World} {M : List Pt} {k : Nat} (h : GoodR W M) (hb : Bnd k (ps M)) (hk : k ≤ 1048576) : GoodA W M := fun m hm => ⟨(h m hm).1, (h m hm).2.arg (hb (pt m) (List.mem_map.2 ⟨m, hm, rfl⟩)) hk⟩
theorem run_bnd {M X : List Pt} {k k0 : Nat} (h : Run M X k) (hb : Bnd k0 (ps M)) : Bnd (k0 + M.length) (ps X) := by
  intro p hp
  rw [← rise_mem h.rise hp, h.cf]
  have h1 : Bnd k0 (ps (M.take k)) := fun q hq => hb q (by
    unfold ps at hq ⊢
    rw [List.map_take] at hq
    exact List.mem_of_mem_take hq)
  refine lt_up (cf_bound h1 p.1) ?_
  rw [ps_length, List.length_take]
  omega

def TidyE (w : World) (M : List Pt) (e : Ending) (w' : World) : Prop :=
  ∃ v' M', e = .returned v' ∧ RowP w' v' M' ∧ GoodR w' M' ∧ NF (ps M') ∧ (∀ u, cf u (ps M') = cf u (ps M)) ∧ Below w.heap.size w w'

/-- The cells of a part of one's own row, which may be written. -/
theorem OwnP.cells {n₀ : Nat} {W : World} {g cap n : Nat} {M : List Pt} (hn : M.length = n) (h : OwnP n₀ W (.slice (some ⟨g, 0, none⟩) n cap) M) {i : Nat} {x : Pt} (hx : M[i]? = some x) :
    W.cell? ⟨g, i * 3, none⟩ = some (.int .i64 x.1) ∧ W.cell? ⟨g, i * 3 + 1, none⟩ = some (.bool x.2.1) ∧ W.cell? ⟨g, i * 3 + 2, none⟩ = some x.2.2.1 ∧ ∀ j, W.frozen? ⟨g, j, none⟩ = false := by
  subst hn
  rcases h.1.2 with ⟨hv, _⟩ | ⟨g', cp, cur, hv, h1, h2, h3⟩
  · cases hv
  · cases hv
    obtain ⟨ao, cp, e, _, _, hc⟩ := h.row
    cases e
    obtain ⟨b, o, e2, c⟩ := hc i x hx
    obtain ⟨rfl, rfl⟩ : g = b ∧ 0 = o := by simpa using e2
    obtain ⟨c0, c1, c2⟩ := c
    simp only [Nat.zero_add] at c0 c1 c2
    exact ⟨c0, c1, c2, fun j => frozen_of_row W g j _ _ h2⟩

theorem snoc_or (X : List Pt) : X = [] ∨ ∃ Y x, X = Y ++ [x] := by
  rcases List.eq_nil_or_concat X with h | ⟨Y, x, h⟩
  · exact .inl h
  · exact .inr ⟨Y, x, by first | exact h | simpa using h⟩
theorem own_addr {n₀ : Nat} {W : World} {oa : Option Addr} {n cap : Nat} {M : List Pt} (h : OwnP n₀ W (.slice oa n cap) M) (hM : M ≠ []) : ∃ g, oa = some ⟨g, 0, none⟩ := by
  rcases h.1.2 with ⟨_, hn⟩ | ⟨g', cp', cur, hv, _⟩
  · exact absurd (List.eq_nil_of_length_eq_zero hn) hM
  · cases hv
    exact ⟨_, rfl⟩
theorem own_last {n₀ : Nat} {W : World} {g cap n yl : Nat} {Y : List Pt} {x : Pt} (hy : Y.length = yl) (hn : (Y ++ [x]).length = n) (h : OwnP n₀ W (.slice (some ⟨g, 0, none⟩) n cap) (Y ++ [x])) (hs : Sl (Y ++ [x])) (nb : Bool) (mv : Value) (z : Int) :
    OwnP n₀ ((W.setCell ⟨g, yl * 3 + 1, none⟩ (.bool nb)).setCell ⟨g, yl * 3 + 2, none⟩ mv) (.slice (some ⟨g, 0, none⟩) (Y ++ [(x.1, nb, mv, z)]).length cap) (Y ++ [(x.1, nb, mv, z)]) ∧
    Fr32 n₀ W ((W.setCell ⟨g, yl * 3 + 1, none⟩ (.bool nb)).setCell ⟨g, yl * 3 + 2, none⟩ mv) := by
  subst hn
  subst hy
  have h1 := OwnP.put2 h hs (i := Y.length) (x := x) (by simp) (x.1, nb, mv, z) rfl
  have e : (Y ++ [x]).set Y.length (x.1, nb, mv, z) = Y ++ [(x.1, nb, mv, z)] := by simp
  rw [e] at h1
  have e2 : (Y ++ [x]).length = (Y ++ [((x.1, nb, mv, z) : Pt)]).length := by simp
  rw [e2] at h1
  exact h1

set_option maxHeartbeats 8000000 in
theorem tidy_calls {w : World} {v : Value} {M : List Pt} {k0 : Nat} (hr : RowP w v M) (hg : GoodA w M) (hb : Bnd k0 (ps M)) (hk0 : k0 ≤ 500000) (h12 : M.length ≤ 12 ∨ One w M M.length) (hlm : M.length ≤ 1000) :
    Calls Tryz.prog 54 #[v] w fun e w' => TidyE w M e w' := by
  have hiso := iso_calls hr hg (by omega)
  have HR := hide hr
  have HG := hide hg
  have HBD := hide hb
  obtain ⟨ao, cap, rfl, _, _, _⟩ := hr
  clear hg hb
  go_enter Tryz.func54, Tryz.ntmps54
  go_wp2_with fail
  refine hiso.mono ?_
  rintro e w1 ⟨b, rfl, hib, hb1⟩
  have HB1 := hide hb1
  clear hiso hb1
  cases b with
  | true =>
    have HI := hide (hib.1 rfl)
    clear hib
    go_wp2
    go_ret
    have ht : M.take M.length = M := List.take_length
    have h1 := HI.out
    unfold One at h1
    rw [ht] at h1
    exact ⟨_, M, rfl, HR.out.below HB1.out, h1.2.below HB1.out, h1.1, fun u => rfl, HB1.out⟩
  | false =>
    have hno : ¬ One w M M.length := fun h => by have := hib.2 h; cases this
    have h12' : M.length ≤ 12 := h12.resolve_right hno
    have hM0 : M ≠ [] := by
      rintro rfl
      exact hno (one_zero w [])
    clear hib hno h12
    have hcl := clone_calls (HR.out.below HB1.out) HG.out.sl (by omega)
    go_wp2_with fail
    refine hcl.mono ?_
    rintro e w2 ⟨v1, rfl, ho2, hb2⟩
    obtain ⟨g1, cp1, rfl⟩ : ∃ g1 cp1, v1 = .slice (some ⟨g1, 0, none⟩) M.length cp1 := by
      rcases ho2.1.2 with ⟨_, hn⟩ | ⟨g', cp', cur, hv, _⟩
      · exact absurd (List.eq_nil_of_length_eq_zero hn) hM0
      · exact ⟨_, _, hv⟩
    have hso := sort_calls ho2 HG.out.sl h12'
    have HB2 := hide (bafter HB1.out hb2 (Nat.le_refl _))
    have HSZ := hide hb2.size
    clear hcl ho2 hb2
    generalize hLn : M.length = Ln at *
    have HLN := hide hLn
    clear hLn
    go_wp2_with fail
    refine hso.mono ?_
    rintro e w3 ⟨Ms, rfl, hperm, hsort, ho3, hf3⟩
    have HP := hide hperm
    have HSO := hide hsort
    have HO3 : Hid (OwnP w1.heap.size w3 (.slice (some ⟨g1, 0, none⟩) Ln cp1) Ms) := by
      show OwnP _ _ _ _
      rw [← HLN.out]
      exact ho3
    have HB3 := hide (HB2.out.trans (hf3.1.mono HB1.out.size))
    have HML : Hid (Ms.length = Ln) := by
      show _ = _
      rw [hperm.length_eq]
      exact HLN.out
    clear hso hperm hsort ho3 hf3
    have m1 : (0 : Int) ≤ (Ln : Int) := by omega
    have HMADE := hide (own_made (n := w3.heap.size) w3 Ln (Nat.le_refl _) (by unfold maxLen; omega))
    have HBM := hide (bel w3 (.cells (Builtin.zeroCells zPart.cells Ln) 89))
    have hmk := make_parts w3 Ln (by omega)
    generalize hwm : w3.alloc (.cells (Builtin.zeroCells zPart.cells Ln) 89) = wm at *
    have HBMS := hide HBM.out.size
    clear hwm
    go_wp2
    clear hmk
    go_loopw [4, 20] (fun ov iv wr => ∃ (k : Nat) (X : List Pt) (oa : Option Addr) (oc : Nat), k ≤ Ln ∧ iv = .int .i64 (k : Int) ∧ ov = .slice oa X.length oc ∧ Run Ms X k ∧ OwnP w3.heap.size wr (.slice oa X.length oc) X ∧ GoodR wr X ∧ Below w3.heap.size w3 wr) (fun _ iv _ => Ln - (RowKit.intOf iv).toNat)
    case atStart => exact ⟨0, [], _, _, Nat.zero_le _, rfl, rfl, run_zero Ms, HMADE.out, fun m hm => (by cases hm), HBM.out⟩
    case round =>
      obtain ⟨k, X, oa, oc, hk, rfl, rfl, hrun, ho, hgr, hbw⟩ := hrel
      have HRUN := hide hrun
      have HO := hide ho
      have HGR := hide hgr
      have HBW := hide hbw
      have HXL := hide hrun.len
      clear hrun ho hgr hbw
      by_cases hlt : k < Ln
      · obtain ⟨⟨vr, neg, mv, z⟩, hm⟩ : ∃ m, Ms[k]? = some m := ⟨_, List.getElem?_eq_getElem (by rw [HML.out]; exact hlt)⟩
        obtain ⟨c0, c1, c2, _⟩ := HO3.out.cells HML.out hm
        dsimp only at c0 c1 c2
        have hg3 := (HO3.out.lt (j := g1) rfl).2
        have hmem : (vr, neg, mv, z) ∈ M := HP.out.mem_iff.1 (List.mem_of_getElem? hm)
        obtain ⟨ma, mL, mc, e⟩ := HG.out.sl _ hmem
        simp only at e
        subst e
        have hga := (HG.out _ hmem).2
        have hrg := (HG.out _ hmem).1
        dsimp only at hga hrg
        have c0' : wr.cell? ⟨g1, k * 3, none⟩ = some (.int .i64 vr) := (HBW.out.cell (p := ⟨g1, k * 3, none⟩) hg3).trans c0
        have c1' : wr.cell? ⟨g1, k * 3 + 1, none⟩ = some (.bool neg) := (HBW.out.cell (p := ⟨g1, k * 3 + 1, none⟩) hg3).trans c1
        have c2' : wr.cell? ⟨g1, k * 3 + 2, none⟩ = some (.slice ma mL mc) := (HBW.out.cell (p := ⟨g1, k * 3 + 2, none⟩) hg3).trans c2
        have HM := hide hm
        have HRG := hide hrg
        clear c0 c1 c2 hmem hm hrg
        have d1 : (k : Int) < (Ln : Int) := by omega
        have d0 : (0 : Int) ≤ (k : Int) := by omega
        -- the part's box
        have hbx := bel wr (.cells #[.int .i64 vr, .bool neg, .slice ma mL mc] 89)
        have HBA := hide (((HB3.out.trans (HBW.out.mono HB3.out.size)).trans (hbx.mono (Nat.le_trans HB3.out.size HBW.out.size))))
        have x0 := World.cell?_alloc_mark wr #[.int .i64 vr, .bool neg, .slice ma mL mc] 89 (0, 0) 0
        have x1 := World.cell?_alloc_mark wr #[.int .i64 vr, .bool neg, .slice ma mL mc] 89 (0, 0) 1
        have x2 := World.cell?_alloc_mark wr #[.int .i64 vr, .bool neg, .slice ma mL mc] 89 (0, 0) 2
        have HOB := hide (HO.out.below hbx)
        have HGB := hide (HGR.out.below hbx)
        have HW3 := hide (HBW.out.trans (hbx.mono HBW.out.size))
        have hsz : (wr.alloc (.cells #[.int .i64 vr, .bool neg, .slice ma mL mc] 89)).heap.size = wr.heap.size + 1 := by simp
        have hsn : w3.heap.size ≤ wr.heap.size := HBW.out.size
        have hgb := hga.below HBA.out
        generalize hwb : wr.alloc (.cells #[.int .i64 vr, .bool neg, .slice ma mL mc] 89) = wb at *
        have HWB := hide hwb
        have HBX := hide hbx
        have hlw : wr.heap.size < wb.heap.size := by omega
        have HS12 : Hid (∀ W, Below wb.heap.size wb W → W.cell? ⟨wr.heap.size, 0, none⟩ = some (.int .i64 vr) ∧ W.cell? ⟨wr.heap.size, 1, none⟩ = some (.bool neg) ∧ W.cell? ⟨wr.heap.size, 2, none⟩ = some (.slice ma mL mc)) := fun W h =>
          ⟨(h.cell (p := ⟨wr.heap.size, 0, none⟩) hlw).trans x0, (h.cell (p := ⟨wr.heap.size, 1, none⟩) hlw).trans x1, (h.cell (p := ⟨wr.heap.size, 2, none⟩) hlw).trans x2⟩
        have HNRM := hide (fun (W : World) (h : Below wb.heap.size wb W) => bnorm_calls (hgb.below h))
        have HGBA := hide hgb
        have HSZB := hide hsz
        have HSN := hide hsn
        simp only [List.getElem?_toArray, List.getElem?_cons_zero, List.getElem?_cons_succ] at x0 x1 x2
        clear hwb hga hbx hgb
        rcases snoc_or X with rfl | ⟨Y, ⟨xv, xn, xm, xz⟩, rfl⟩
        · have HNE : Hid (∀ Y x, ([] : List Pt) = Y ++ [x] → x.1 ≠ vr) := fun Y x e => (by simp at e)
          simp only [List.length_nil] at HO HOB ⊢
          go_upto_region 10 with fail
          rw [HWB.out]
          go_quiet (fail)
          go_upto_region 12 with fail
          refine wp_region_held_drew (S := fun X : World => X.cell? ⟨wr.heap.size, 0, none⟩ = some (.int .i64 vr) ∧ X.cell? ⟨wr.heap.size, 1, none⟩ = some (.bool neg) ∧ X.cell? ⟨wr.heap.size, 2, none⟩ = some (.slice ma mL mc)) (by kernel_rfl) ?_ (fun hHeld => ?_)
          · exact HS12.out _ (by (first | exact (bdrewN (Below.refl _ _) _).drew | exact ((Below.refl _ _).drew).drew | exact (Below.refl _ _).drew | exact bdrewN (Below.refl _ _) _ | exact Below.refl _ _))
          refine takeD (i := 0) (v := ?v1) (some 51) rfl (by kernel_rfl) (by kernel_rfl) (by kernel_rfl) (fun _ _ _ h => h) (Or.inl ⟨by rfl, ?hy1⟩) (by assumption) (by rfl) ?rest1
          case hy1 => first | (intro w hSw; (try dsimp only at hSw); obtain ⟨q0, q1, q2⟩ := hSw; go_simp; done) | (intro w hSw; (try dsimp only at hSw); obtain ⟨q0, q1, q2⟩ := hSw; go_simp; with_reducible rfl)
          try simp only [Act.put, List.setIfInBounds_toArray, List.set_cons_zero, List.set_cons_succ]
          refine takeD (i := 1) (v := ?v2) (some 52) rfl (by kernel_rfl) (by kernel_rfl) (by kernel_rfl) (fun _ _ _ h => h) (Or.inl ⟨by rfl, ?hy2⟩) (by assumption) (by rfl) ?rest2
          case hy2 => first | (intro w hSw; (try dsimp only at hSw); obtain ⟨q0, q1, q2⟩ := hSw; go_simp; done) | (intro w hSw; (try dsimp only at hSw); obtain ⟨q0, q1, q2⟩ := hSw; go_simp; with_reducible rfl)
          try simp only [Act.put, List.setIfInBounds_toArray, List.set_cons_zero, List.set_cons_succ]
          refine takeD (i := 2) (v := ?v3) (some 53) rfl (by kernel_rfl) (by kernel_rfl) (by kernel_rfl) (fun _ _ _ h => h) (Or.inl ⟨by rfl, ?hy3⟩) (by assumption) (by rfl) ?rest3
          case hy3 => first | (intro w hSw; (try dsimp only at hSw); obtain ⟨q0, q1, q2⟩ := hSw; go_simp; done) | (intro w hSw; (try dsimp only at hSw); obtain ⟨q0, q1, q2⟩ := hSw; go_simp; with_reducible rfl)
          try simp only [Act.put, List.setIfInBounds_toArray, List.set_cons_zero, List.set_cons_succ]
          refine takeD (i := 3) (v := ?v4) (some 54) rfl (by kernel_rfl) (by kernel_rfl) (by kernel_rfl) (fun _ _ _ h => h) (Or.inl ⟨by rfl, ?hy4⟩) (by assumption) (by rfl) ?rest4
          case hy4 => first | (intro w hSw; (try dsimp only at hSw); obtain ⟨q0, q1, q2⟩ := hSw; go_simp; done) | (intro w hSw; (try dsimp only at hSw); obtain ⟨q0, q1, q2⟩ := hSw; go_simp; with_reducible rfl)
          try simp only [Act.put, List.setIfInBounds_toArray, List.set_cons_zero, List.set_cons_succ]
          refine takeD (i := 4) (v := ?v5) (some 55) rfl (by kernel_rfl) (by kernel_rfl) (by kernel_rfl) (fun _ _ _ h => h) (Or.inl ⟨by rfl, ?hy5⟩) (by assumption) (by rfl) ?rest5
          case hy5 => first | (intro w hSw; (try dsimp only at hSw); obtain ⟨q0, q1, q2⟩ := hSw; go_simp; done) | (intro w hSw; (try dsimp only at hSw); obtain ⟨q0, q1, q2⟩ := hSw; go_simp; with_reducible rfl)
          try simp only [Act.put, List.setIfInBounds_toArray, List.set_cons_zero, List.set_cons_succ]
          refine wpAnyH_ready (rs := [5]) (by kernel_rfl) (by simp) ?_
          refine AllReadyH.cons rfl (fun K hK => ?_) AllReadyH.nil
          go_simp
          refine (HNRM.out _ (by (first | exact (bdrewN (Below.refl _ _) _).drew | exact ((Below.refl _ _).drew).drew | exact (Below.refl _ _).drew | exact bdrewN (Below.refl _ _) _ | exact Below.refl _ _))).mono ?_
          rintro e w4 ⟨v4, rfl, hr4, hb4⟩
          obtain ⟨nb, na, nL, nc, rfl⟩ := hr4.form
          have HB4 : Hid (Below wb.heap.size wb w4) := bafter (by (first | exact (bdrewN (Below.refl _ _) _).drew | exact ((Below.refl _ _).drew).drew | exact (Below.refl _ _).drew | exact bdrewN (Below.refl _ _) _ | exact Below.refl _ _)) hb4 (Nat.le_refl _)
          have HR4 := hide hr4
          clear hr4 hb4 hHeld
          go_wp2_with fail
          refine hK.out _ _ (HS12.out _ HB4.out) (fun hHeld => ?_)
          clear hK K
          try simp only [Act.put, List.setIfInBounds_toArray, List.set_cons_zero, List.set_cons_succ]
          refine takeD (i := 6) (v := ?v6) (some 57) rfl (by kernel_rfl) (by kernel_rfl) (by kernel_rfl) (fun _ _ _ h => h) (Or.inl ⟨by rfl, ?hy6⟩) (by assumption) (by rfl) ?rest6
          case hy6 => first | (intro w hSw; (try dsimp only at hSw); obtain ⟨q0, q1, q2⟩ := hSw; go_simp; done) | (intro w hSw; (try dsimp only at hSw); obtain ⟨q0, q1, q2⟩ := hSw; go_simp; with_reducible rfl)
          try simp only [Act.put, List.setIfInBounds_toArray, List.set_cons_zero, List.set_cons_succ]
          refine wpAnyH_ready (rs := [7]) (by kernel_rfl) (by simp) ?_
          refine AllReadyH.cons rfl (fun K hK => ?_) AllReadyH.nil
          go_simp
          have hbl := bel w4 (.cells #[.int .i64 vr, .bool nb, .slice na nL nc] 89)
          have HB5 := hide (bafter HB4.out hbl (Nat.le_refl _))
          have HBL := hide hbl
          have HRL := hide (row_lit w4 vr nb (.slice na nL nc) z)
          clear hbl
          generalize hw5 : w4.alloc (.cells #[.int .i64 vr, .bool nb, .slice na nL nc] 89) = w5 at *
          refine hK.out _ _ (HS12.out _ HB5.out) (fun hHeld => ?_)
          clear hK K hHeld
          try simp only [Act.put, List.setIfInBounds_toArray, List.set_cons_zero, List.set_cons_succ]
          obtain ⟨v6, w6, hrun6, ho6, hg6, ha6, hk6⟩ := run_appP w5 w3.heap.size 25 _ ([] : List Pt) (HOB.out.below HB5.out) _ [(vr, nb, .slice na nL nc, z)] HRL.out (fun m hm => by simp at hm; subst hm; rfl) (by have h9 := HXL.out; (try have h8 := HN.out); simp only [List.length_append, List.length_cons, List.length_nil] at *; omega) (Nat.le_trans HSN.out (Nat.le_trans (by have := HSZB.out; omega) HB5.out.size))
          have HG6 : Hid (GoodR w6 (([] : List Pt) ++ [(vr, nb, .slice na nL nc, z)])) := by
            intro m hm
            rcases List.mem_append.1 hm with h | h
            · exact ((HGB.out.below HB5.out).k32 hk6) m h
            · simp at h
              subst h
              exact ⟨HRG.out, (HR4.out.below HBL.out).k32 hk6⟩
          have HBW6 : Hid (Below w3.heap.size w3 w6) := (HW3.out.trans (HB5.out.mono HW3.out.size)).grown hg6 (Nat.le_trans HW3.out.size HB5.out.size) (fun j hj => (HOB.out.lt hj).1)
          have HS6 : Hid (w6.cell? ⟨wr.heap.size, 0, none⟩ = some (.int .i64 vr) ∧ w6.cell? ⟨wr.heap.size, 1, none⟩ = some (.bool neg) ∧ w6.cell? ⟨wr.heap.size, 2, none⟩ = some (.slice ma mL mc)) := by
            have hne : ∀ q, some wr.heap.size ≠ q ∨ (∀ j, q = some j → j < wr.heap.size) → True := fun _ _ => trivial
            have hk : w6.heap[wr.heap.size]? = w5.heap[wr.heap.size]? := hg6.block _ (by have := HB5.out.size; have := HSZB.out; omega) (fun e => by have := (HO.out.lt e.symm).2; omega)
            obtain ⟨y0, y1, y2⟩ := HS12.out _ HB5.out
            exact ⟨(World.cell?_of_block (a := ⟨wr.heap.size, 0, none⟩) hk).trans y0, (World.cell?_of_block (a := ⟨wr.heap.size, 1, none⟩) hk).trans y1, (World.cell?_of_block (a := ⟨wr.heap.size, 2, none⟩) hk).trans y2⟩
          obtain ⟨oa6, oc6, rfl, _, _⟩ := ho6.len
          have HO6 := hide ho6
          clear ho6 hg6 ha6 hk6
          refine wpAnyH_ready (rs := [8]) (by kernel_rfl) (by simp) ?_
          refine AllReadyH.cons rfl (fun K hK => ?_) AllReadyH.nil
          refine Lib.wp_append_run _ _ _ _ _ rfl _ _ rfl rfl _ _ hrun6 ?_
          clear hrun6
          refine hK.out _ _ (HS6.out) (fun hHeld => ?_)
          clear hK K hHeld
          try simp only [Act.put, List.setIfInBounds_toArray, List.set_cons_zero, List.set_cons_succ]
          refine wpAnyH_ready (rs := [9]) (by kernel_rfl) (by simp) ?_
          refine AllReadyH.cons rfl (fun K hK => ?_) AllReadyH.nil
          go_simp
          refine hK.out _ _ (HS6.out) (fun hHeld => ?_)
          clear hK K hHeld
          try simp only [Act.put, List.setIfInBounds_toArray, List.set_cons_zero, List.set_cons_succ]
          refine wpAnyH_done (by kernel_rfl) ?_ _
          go_wp2
          go_roundw
          case rel => exact ⟨k + 1, ([] : List Pt) ++ [(vr, nb, .slice na nL nc, z)], _, _, by omega, by go_num, (by first | rfl | simp), HRUN.out.new HSO.out HM.out HNE.out nb _, HO6.out, HG6.out, HBW6.out⟩
          case measure => simp [RowKit.intOf]; omega
        · obtain ⟨xa, xL, xc, e⟩ := HGR.out.sl (xv, xn, xm, xz) (by simp)
          simp only at e
          subst e
          obtain ⟨g, rfl⟩ := own_addr HO.out (by simp)
          have hyl0 : (Y ++ [((xv, xn, .slice xa xL xc, xz) : Pt)]).length = Y.length + 1 := by simp
          have HXA : Hid (BArg wb (.agg #[.bool xn, .slice xa xL xc]) xz) := by
            have h1 := HGR.out.arg (run_bnd HRUN.out (fun p hp => HBD.out p ((ps_perm HP.out).mem_iff.1 hp))) (by rw [HML.out]; omega) (xv, xn, .slice xa xL xc, xz) (by simp)
            exact h1.2.below HBX.out
          generalize hn : (Y ++ [((xv, xn, .slice xa xL xc, xz) : Pt)]).length = n at *
          generalize hyl : Y.length = yl at *
          have HYL := hide hyl
          have HN := hide hn
          have HSLX := hide HGR.out.sl
          have hW : IntKind.i64.wrap ((n : Int) - 1) = (yl : Int) := by
            rw [wrapN (by omega) (by have := HXL.out; omega)]
            omega
          have b0 : (0 : Int) ≤ (yl : Int) := by omega
          have b1 : (yl : Int) < (n : Int) := by omega
          have HROW : Hid (∀ W, Below wb.heap.size wb W → W.cell? ⟨g, yl * 3, none⟩ = some (.int .i64 xv) ∧ W.cell? ⟨g, yl * 3 + 1, none⟩ = some (.bool xn) ∧ W.cell? ⟨g, yl * 3 + 2, none⟩ = some (.slice xa xL xc) ∧ ∀ j, W.frozen? ⟨g, j, none⟩ = false) := fun W h =>
            (HOB.out.below h).cells HN.out (i := yl) (x := (xv, xn, .slice xa xL xc, xz)) (by have := HYL.out; subst this; simp)
          obtain ⟨y0, y1, y2, _⟩ := HROW.out wb (Below.refl _ _)
          have HGW : Hid (g < wr.heap.size) := (HO.out.lt (j := g) rfl).2
          clear hn hyl hyl0
          by_cases hev : xv = vr
          · subst hev
            have HADD := hide (fun (W : World) (h : Below wb.heap.size wb W) => badd_calls (HXA.out.below h) (HGBA.out.below h))
            go_upto_region 10 with fail
            rw [HWB.out]
            go_quiet (fail)
            have HS11 : Hid (∀ W, Below wb.heap.size wb W → W.cell? ⟨wr.heap.size, 1, none⟩ = some (.bool neg) ∧ W.cell? ⟨wr.heap.size, 2, none⟩ = some (.slice ma mL mc)) := fun W h => (HS12.out W h).2
            go_upto_region 11 with fail
            refine wp_region_held_drew (S := fun X : World => X.cell? ⟨wr.heap.size, 1, none⟩ = some (.bool neg) ∧ X.cell? ⟨wr.heap.size, 2, none⟩ = some (.slice ma mL mc)) (by kernel_rfl) ?_ (fun hHeld => ?_)
            · exact HS11.out _ (by (first | exact (bdrewN (Below.refl _ _) _).drew | exact ((Below.refl _ _).drew).drew | exact (Below.refl _ _).drew | exact bdrewN (Below.refl _ _) _ | exact Below.refl _ _))
            refine takeD (i := 0) (v := ?v7) (some 39) rfl (by kernel_rfl) (by kernel_rfl) (by kernel_rfl) (fun _ _ _ h => h) (Or.inl ⟨by rfl, ?hy7⟩) (by assumption) (by rfl) ?rest7
            case hy7 => first | (intro w hSw; (try dsimp only at hSw); obtain ⟨q1, q2⟩ := hSw; go_simp; done) | (intro w hSw; (try dsimp only at hSw); obtain ⟨q1, q2⟩ := hSw; go_simp; with_reducible rfl)
            try simp only [Act.put, List.setIfInBounds_toArray, List.set_cons_zero, List.set_cons_succ]
            refine takeD (i := 1) (v := ?v8) (some 40) rfl (by kernel_rfl) (by kernel_rfl) (by kernel_rfl) (fun _ _ _ h => h) (Or.inl ⟨by rfl, ?hy8⟩) (by assumption) (by rfl) ?rest8
            case hy8 => first | (intro w hSw; (try dsimp only at hSw); obtain ⟨q1, q2⟩ := hSw; go_simp; done) | (intro w hSw; (try dsimp only at hSw); obtain ⟨q1, q2⟩ := hSw; go_simp; with_reducible rfl)
            try simp only [Act.put, List.setIfInBounds_toArray, List.set_cons_zero, List.set_cons_succ]
            refine takeD (i := 2) (v := ?v9) (some 41) rfl (by kernel_rfl) (by kernel_rfl) (by kernel_rfl) (fun _ _ _ h => h) (Or.inl ⟨by rfl, ?hy9⟩) (by assumption) (by rfl) ?rest9
            case hy9 => first | (intro w hSw; (try dsimp only at hSw); obtain ⟨q1, q2⟩ := hSw; go_simp; done) | (intro w hSw; (try dsimp only at hSw); obtain ⟨q1, q2⟩ := hSw; go_simp; with_reducible rfl)
            try simp only [Act.put, List.setIfInBounds_toArray, List.set_cons_zero, List.set_cons_succ]
            refine takeD (i := 3) (v := ?v10) (some 42) rfl (by kernel_rfl) (by kernel_rfl) (by kernel_rfl) (fun _ _ _ h => h) (Or.inl ⟨by rfl, ?hy10⟩) (by assumption) (by rfl) ?rest10
            case hy10 => first | (intro w hSw; (try dsimp only at hSw); obtain ⟨q1, q2⟩ := hSw; go_simp; done) | (intro w hSw; (try dsimp only at hSw); obtain ⟨q1, q2⟩ := hSw; go_simp; with_reducible rfl)
            try simp only [Act.put, List.setIfInBounds_toArray, List.set_cons_zero, List.set_cons_succ]
            refine takeD (i := 4) (v := ?v11) (some 43) rfl (by kernel_rfl) (by kernel_rfl) (by kernel_rfl) (fun _ _ _ h => h) (Or.inl ⟨by rfl, ?hy11⟩) (by assumption) (by rfl) ?rest11
            case hy11 => first | (intro w hSw; (try dsimp only at hSw); obtain ⟨q1, q2⟩ := hSw; go_simp; done) | (intro w hSw; (try dsimp only at hSw); obtain ⟨q1, q2⟩ := hSw; go_simp; with_reducible rfl)
            try simp only [Act.put, List.setIfInBounds_toArray, List.set_cons_zero, List.set_cons_succ]
            refine takeD (i := 5) (v := ?v12) (some 44) rfl (by kernel_rfl) (by kernel_rfl) (by kernel_rfl) (fun _ _ _ h => h) (Or.inl ⟨by rfl, ?hy12⟩) (by assumption) (by rfl) ?rest12
            case hy12 => first | (intro w hSw; (try dsimp only at hSw); obtain ⟨q1, q2⟩ := hSw; go_simp; done) | (intro w hSw; (try dsimp only at hSw); obtain ⟨q1, q2⟩ := hSw; go_simp; with_reducible rfl)
            try simp only [Act.put, List.setIfInBounds_toArray, List.set_cons_zero, List.set_cons_succ]
            refine takeD (i := 7) (v := ?v13) (some 46) rfl (by kernel_rfl) (by kernel_rfl) (by kernel_rfl) (fun _ _ _ h => h) (Or.inl ⟨by rfl, ?hy13⟩) (by assumption) (by rfl) ?rest13
            case hy13 => first | (intro w hSw; (try dsimp only at hSw); obtain ⟨q1, q2⟩ := hSw; go_simp; done) | (intro w hSw; (try dsimp only at hSw); obtain ⟨q1, q2⟩ := hSw; go_simp; with_reducible rfl)
            try simp only [Act.put, List.setIfInBounds_toArray, List.set_cons_zero, List.set_cons_succ]
            refine takeD (i := 8) (v := ?v14) (some 47) rfl (by kernel_rfl) (by kernel_rfl) (by kernel_rfl) (fun _ _ _ h => h) (Or.inl ⟨by rfl, ?hy14⟩) (by assumption) (by rfl) ?rest14
            case hy14 => first | (intro w hSw; (try dsimp only at hSw); obtain ⟨q1, q2⟩ := hSw; go_simp; done) | (intro w hSw; (try dsimp only at hSw); obtain ⟨q1, q2⟩ := hSw; go_simp; with_reducible rfl)
            try simp only [Act.put, List.setIfInBounds_toArray, List.set_cons_zero, List.set_cons_succ]
            refine wpAnyH_ready (rs := [6]) (by kernel_rfl) (by simp) ?_
            refine AllReadyH.cons rfl (fun K hK => ?_) AllReadyH.nil
            go_simp
            refine hK.out _ _ (HS11.out _ (by (first | exact (bdrewN (Below.refl _ _) _).drew | exact ((Below.refl _ _).drew).drew | exact (Below.refl _ _).drew | exact bdrewN (Below.refl _ _) _ | exact Below.refl _ _))) (fun hHeld => ?_)
            clear hK K
            try simp only [Act.put, List.setIfInBounds_toArray, List.set_cons_zero, List.set_cons_succ]
            refine wpAnyH_ready (rs := [9]) (by kernel_rfl) (by simp) ?_
            refine AllReadyH.cons rfl (fun K hK => ?_) AllReadyH.nil
            go_simp
            refine (HADD.out _ (by (first | exact (bdrewN (Below.refl _ _) _).drew | exact ((Below.refl _ _).drew).drew | exact (Below.refl _ _).drew | exact bdrewN (Below.refl _ _) _ | exact Below.refl _ _))).mono ?_
            rintro e w4 ⟨v4, rfl, hr4, hb4⟩
            obtain ⟨nb, na, nL, nc, rfl⟩ := hr4.form
            have HB4 : Hid (Below wb.heap.size wb w4) := bafter (by (first | exact (bdrewN (Below.refl _ _) _).drew | exact ((Below.refl _ _).drew).drew | exact (Below.refl _ _).drew | exact bdrewN (Below.refl _ _) _ | exact Below.refl _ _)) hb4 (Nat.le_refl _)
            have HR4 := hide hr4
            clear hr4 hb4 hHeld
            go_wp2_with fail
            refine hK.out _ _ (HS11.out _ HB4.out) (fun hHeld => ?_)
            clear hK K
            try simp only [Act.put, List.setIfInBounds_toArray, List.set_cons_zero, List.set_cons_succ]
            refine takeD (i := 10) (v := ?v15) (some 49) rfl (by kernel_rfl) (by kernel_rfl) (by kernel_rfl) (fun _ _ _ h => h) (Or.inl ⟨by rfl, ?hy15⟩) (by assumption) (by rfl) ?rest15
            case hy15 => first | (intro w hSw; (try dsimp only at hSw); obtain ⟨q1, q2⟩ := hSw; go_simp; done) | (intro w hSw; (try dsimp only at hSw); obtain ⟨q1, q2⟩ := hSw; go_simp; with_reducible rfl)
            try simp only [Act.put, List.setIfInBounds_toArray, List.set_cons_zero, List.set_cons_succ]
            refine takeD (i := 11) (v := ?v16) (some 50) rfl (by kernel_rfl) (by kernel_rfl) (by kernel_rfl) (fun _ _ _ h => h) (Or.inl ⟨by rfl, ?hy16⟩) (by assumption) (by rfl) ?rest16
            case hy16 => first | (intro w hSw; (try dsimp only at hSw); obtain ⟨q1, q2⟩ := hSw; go_simp; done) | (intro w hSw; (try dsimp only at hSw); obtain ⟨q1, q2⟩ := hSw; go_simp; with_reducible rfl)
            try simp only [Act.put, List.setIfInBounds_toArray, List.set_cons_zero, List.set_cons_succ]
            obtain ⟨_, z1, z2, zf⟩ := HROW.out w4 HB4.out
            have zf1 := zf (yl * 3 + 1)
            have zf2 := zf (yl * 3 + 2)
            clear zf
            obtain ⟨ho6, hf6⟩ := own_last HYL.out HN.out (HOB.out.below HB4.out) HSLX.out nb (.slice na nL nc) (xz + z)
            simp only at ho6 hf6
            have HO6 := hide ho6
            have HF6 := hide hf6
            clear ho6 hf6
            have HS6 : Hid (((w4.setCell ⟨g, yl * 3 + 1, none⟩ (.bool nb)).setCell ⟨g, yl * 3 + 2, none⟩ (.slice na nL nc)).cell? ⟨wr.heap.size, 1, none⟩ = some (.bool neg) ∧ ((w4.setCell ⟨g, yl * 3 + 1, none⟩ (.bool nb)).setCell ⟨g, yl * 3 + 2, none⟩ (.slice na nL nc)).cell? ⟨wr.heap.size, 2, none⟩ = some (.slice ma mL mc)) := by
              have hg := HGW.out
              obtain ⟨y1, y2⟩ := HS11.out _ HB4.out
              have hne : ∀ i j, (⟨g, i, none⟩ : Addr) ≠ ⟨wr.heap.size, j, none⟩ := fun i j e => by simp only [Addr.mk.injEq] at e; omega
              rw [World.cell?_setCell_other _ _ _ _ (hne _ _), World.cell?_setCell_other _ _ _ _ (hne _ _), World.cell?_setCell_other _ _ _ _ (hne _ _), World.cell?_setCell_other _ _ _ _ (hne _ _)]
              exact ⟨y1, y2⟩
            have HG6 : Hid (GoodR ((w4.setCell ⟨g, yl * 3 + 1, none⟩ (.bool nb)).setCell ⟨g, yl * 3 + 2, none⟩ (.slice na nL nc)) (Y ++ [(xv, nb, .slice na nL nc, xz + z)])) := by
              intro m hm
              rcases List.mem_append.1 hm with h | h
              · exact ((HGB.out.below HB4.out).k32 HF6.out.2) m (List.mem_append.2 (.inl h))
              · simp at h
                subst h
                exact ⟨HRG.out, HR4.out.k32 HF6.out.2⟩
            have HBW6 : Hid (Below w3.heap.size w3 ((w4.setCell ⟨g, yl * 3 + 1, none⟩ (.bool nb)).setCell ⟨g, yl * 3 + 2, none⟩ (.slice na nL nc))) := (HW3.out.trans (HB4.out.mono HW3.out.size)).trans HF6.out.1
            refine wpAnyH_ready (rs := [12]) (by kernel_rfl) (by simp) ?_
            refine AllReadyH.cons rfl (fun K hK => ?_) AllReadyH.nil
            go_simp
            generalize (w4.setCell ⟨g, yl * 3 + 1, none⟩ (.bool nb)).setCell ⟨g, yl * 3 + 2, none⟩ (.slice na nL nc) = w6 at *
            refine hK.out _ _ (HS6.out) (fun hHeld => ?_)
            clear hK K hHeld
            try simp only [Act.put, List.setIfInBounds_toArray, List.set_cons_zero, List.set_cons_succ]
            refine wpAnyH_done (by kernel_rfl) ?_ _
            clear z1 z2 zf1 zf2
            go_wp2
            go_roundw
            case rel =>
              refine ⟨k + 1, Y ++ [(xv, nb, .slice na nL nc, xz + z)], _, _, by omega, by go_num, ?_, HRUN.out.more HM.out rfl nb _, HO6.out, HG6.out, HBW6.out⟩
              rw [← HN.out]
              simp
            case measure => simp [RowKit.intOf]; omega
          · have HNE : Hid (∀ Y' x', Y ++ [((xv, xn, .slice xa xL xc, xz) : Pt)] = Y' ++ [x'] → x'.1 ≠ vr) := fun Y' x' e => by
              have h1 := (List.append_inj' e rfl).2
              simp only [List.cons.injEq, and_true] at h1
              subst h1
              exact hev
            have qe : (xv == vr) = false := beq_eq_false_iff_ne.2 hev
            have HEV := hide hev
            clear hev
            go_upto_region 10 with fail
            rw [HWB.out]
            go_quiet (fail)
            go_upto_region 12 with fail
            refine wp_region_held_drew (S := fun X : World => X.cell? ⟨wr.heap.size, 0, none⟩ = some (.int .i64 vr) ∧ X.cell? ⟨wr.heap.size, 1, none⟩ = some (.bool neg) ∧ X.cell? ⟨wr.heap.size, 2, none⟩ = some (.slice ma mL mc)) (by kernel_rfl) ?_ (fun hHeld => ?_)
            · exact HS12.out _ (by (first | exact (bdrewN (Below.refl _ _) _).drew | exact ((Below.refl _ _).drew).drew | exact (Below.refl _ _).drew | exact bdrewN (Below.refl _ _) _ | exact Below.refl _ _))
            refine takeD (i := 0) (v := ?v17) (some 51) rfl (by kernel_rfl) (by kernel_rfl) (by kernel_rfl) (fun _ _ _ h => h) (Or.inl ⟨by rfl, ?hy17⟩) (by assumption) (by rfl) ?rest17
            case hy17 => first | (intro w hSw; (try dsimp only at hSw); obtain ⟨q0, q1, q2⟩ := hSw; go_simp; done) | (intro w hSw; (try dsimp only at hSw); obtain ⟨q0, q1, q2⟩ := hSw; go_simp; with_reducible rfl)
            try simp only [Act.put, List.setIfInBounds_toArray, List.set_cons_zero, List.set_cons_succ]
            refine takeD (i := 1) (v := ?v18) (some 52) rfl (by kernel_rfl) (by kernel_rfl) (by kernel_rfl) (fun _ _ _ h => h) (Or.inl ⟨by rfl, ?hy18⟩) (by assumption) (by rfl) ?rest18
            case hy18 => first | (intro w hSw; (try dsimp only at hSw); obtain ⟨q0, q1, q2⟩ := hSw; go_simp; done) | (intro w hSw; (try dsimp only at hSw); obtain ⟨q0, q1, q2⟩ := hSw; go_simp; with_reducible rfl)
            try simp only [Act.put, List.setIfInBounds_toArray, List.set_cons_zero, List.set_cons_succ]
            refine takeD (i := 2) (v := ?v19) (some 53) rfl (by kernel_rfl) (by kernel_rfl) (by kernel_rfl) (fun _ _ _ h => h) (Or.inl ⟨by rfl, ?hy19⟩) (by assumption) (by rfl) ?rest19
            case hy19 => first | (intro w hSw; (try dsimp only at hSw); obtain ⟨q0, q1, q2⟩ := hSw; go_simp; done) | (intro w hSw; (try dsimp only at hSw); obtain ⟨q0, q1, q2⟩ := hSw; go_simp; with_reducible rfl)
            try simp only [Act.put, List.setIfInBounds_toArray, List.set_cons_zero, List.set_cons_succ]
            refine takeD (i := 3) (v := ?v20) (some 54) rfl (by kernel_rfl) (by kernel_rfl) (by kernel_rfl) (fun _ _ _ h => h) (Or.inl ⟨by rfl, ?hy20⟩) (by assumption) (by rfl) ?rest20
            case hy20 => first | (intro w hSw; (try dsimp only at hSw); obtain ⟨q0, q1, q2⟩ := hSw; go_simp; done) | (intro w hSw; (try dsimp only at hSw); obtain ⟨q0, q1, q2⟩ := hSw; go_simp; with_reducible rfl)
            try simp only [Act.put, List.setIfInBounds_toArray, List.set_cons_zero, List.set_cons_succ]
            refine takeD (i := 4) (v := ?v21) (some 55) rfl (by kernel_rfl) (by kernel_rfl) (by kernel_rfl) (fun _ _ _ h => h) (Or.inl ⟨by rfl, ?hy21⟩) (by assumption) (by rfl) ?rest21
            case hy21 => first | (intro w hSw; (try dsimp only at hSw); obtain ⟨q0, q1, q2⟩ := hSw; go_simp; done) | (intro w hSw; (try dsimp only at hSw); obtain ⟨q0, q1, q2⟩ := hSw; go_simp; with_reducible rfl)
            try simp only [Act.put, List.setIfInBounds_toArray, List.set_cons_zero, List.set_cons_succ]
            refine wpAnyH_ready (rs := [5]) (by kernel_rfl) (by simp) ?_
            refine AllReadyH.cons rfl (fun K hK => ?_) AllReadyH.nil
            go_simp
            refine (HNRM.out _ (by (first | exact (bdrewN (Below.refl _ _) _).drew | exact ((Below.refl _ _).drew).drew | exact (Below.refl _ _).drew | exact bdrewN (Below.refl _ _) _ | exact Below.refl _ _))).mono ?_
            rintro e w4 ⟨v4, rfl, hr4, hb4⟩
            obtain ⟨nb, na, nL, nc, rfl⟩ := hr4.form
            have HB4 : Hid (Below wb.heap.size wb w4) := bafter (by (first | exact (bdrewN (Below.refl _ _) _).drew | exact ((Below.refl _ _).drew).drew | exact (Below.refl _ _).drew | exact bdrewN (Below.refl _ _) _ | exact Below.refl _ _)) hb4 (Nat.le_refl _)
            have HR4 := hide hr4
            clear hr4 hb4 hHeld
            go_wp2_with fail
            refine hK.out _ _ (HS12.out _ HB4.out) (fun hHeld => ?_)
            clear hK K
            try simp only [Act.put, List.setIfInBounds_toArray, List.set_cons_zero, List.set_cons_succ]
            refine takeD (i := 6) (v := ?v22) (some 57) rfl (by kernel_rfl) (by kernel_rfl) (by kernel_rfl) (fun _ _ _ h => h) (Or.inl ⟨by rfl, ?hy22⟩) (by assumption) (by rfl) ?rest22
            case hy22 => first | (intro w hSw; (try dsimp only at hSw); obtain ⟨q0, q1, q2⟩ := hSw; go_simp; done) | (intro w hSw; (try dsimp only at hSw); obtain ⟨q0, q1, q2⟩ := hSw; go_simp; with_reducible rfl)
            try simp only [Act.put, List.setIfInBounds_toArray, List.set_cons_zero, List.set_cons_succ]
            refine wpAnyH_ready (rs := [7]) (by kernel_rfl) (by simp) ?_
            refine AllReadyH.cons rfl (fun K hK => ?_) AllReadyH.nil
            go_simp
            have hbl := bel w4 (.cells #[.int .i64 vr, .bool nb, .slice na nL nc] 89)
            have HB5 := hide (bafter HB4.out hbl (Nat.le_refl _))
            have HBL := hide hbl
            have HRL := hide (row_lit w4 vr nb (.slice na nL nc) z)
            clear hbl
            generalize hw5 : w4.alloc (.cells #[.int .i64 vr, .bool nb, .slice na nL nc] 89) = w5 at *
            refine hK.out _ _ (HS12.out _ HB5.out) (fun hHeld => ?_)
            clear hK K hHeld
            try simp only [Act.put, List.setIfInBounds_toArray, List.set_cons_zero, List.set_cons_succ]
            obtain ⟨v6, w6, hrun6, ho6, hg6, ha6, hk6⟩ := run_appP w5 w3.heap.size 25 _ (Y ++ [((xv, xn, .slice xa xL xc, xz) : Pt)]) (HOB.out.below HB5.out) _ [(vr, nb, .slice na nL nc, z)] HRL.out (fun m hm => by simp at hm; subst hm; rfl) (by have h9 := HXL.out; (try have h8 := HN.out); simp only [List.length_append, List.length_cons, List.length_nil] at *; omega) (Nat.le_trans HSN.out (Nat.le_trans (by have := HSZB.out; omega) HB5.out.size))
            have HG6 : Hid (GoodR w6 ((Y ++ [((xv, xn, .slice xa xL xc, xz) : Pt)]) ++ [(vr, nb, .slice na nL nc, z)])) := by
              intro m hm
              rcases List.mem_append.1 hm with h | h
              · exact ((HGB.out.below HB5.out).k32 hk6) m h
              · simp at h
                subst h
                exact ⟨HRG.out, (HR4.out.below HBL.out).k32 hk6⟩
            have HBW6 : Hid (Below w3.heap.size w3 w6) := (HW3.out.trans (HB5.out.mono HW3.out.size)).grown hg6 (Nat.le_trans HW3.out.size HB5.out.size) (fun j hj => (HOB.out.lt hj).1)
            have HS6 : Hid (w6.cell? ⟨wr.heap.size, 0, none⟩ = some (.int .i64 vr) ∧ w6.cell? ⟨wr.heap.size, 1, none⟩ = some (.bool neg) ∧ w6.cell? ⟨wr.heap.size, 2, none⟩ = some (.slice ma mL mc)) := by
              have hne : ∀ q, some wr.heap.size ≠ q ∨ (∀ j, q = some j → j < wr.heap.size) → True := fun _ _ => trivial
              have hk : w6.heap[wr.heap.size]? = w5.heap[wr.heap.size]? := hg6.block _ (by have := HB5.out.size; have := HSZB.out; omega) (fun e => by have := (HO.out.lt e.symm).2; omega)
              obtain ⟨y0, y1, y2⟩ := HS12.out _ HB5.out
              exact ⟨(World.cell?_of_block (a := ⟨wr.heap.size, 0, none⟩) hk).trans y0, (World.cell?_of_block (a := ⟨wr.heap.size, 1, none⟩) hk).trans y1, (World.cell?_of_block (a := ⟨wr.heap.size, 2, none⟩) hk).trans y2⟩
            obtain ⟨oa6, oc6, rfl, _, _⟩ := ho6.len
            have HO6 := hide ho6
            clear ho6 hg6 ha6 hk6
            refine wpAnyH_ready (rs := [8]) (by kernel_rfl) (by simp) ?_
            refine AllReadyH.cons rfl (fun K hK => ?_) AllReadyH.nil
            refine Lib.wp_append_run _ _ _ _ _ rfl _ _ rfl rfl _ _ hrun6 ?_
            clear hrun6
            refine hK.out _ _ (HS6.out) (fun hHeld => ?_)
            clear hK K hHeld
            try simp only [Act.put, List.setIfInBounds_toArray, List.set_cons_zero, List.set_cons_succ]
            refine wpAnyH_ready (rs := [9]) (by kernel_rfl) (by simp) ?_
            refine AllReadyH.cons rfl (fun K hK => ?_) AllReadyH.nil
            go_simp
            refine hK.out _ _ (HS6.out) (fun hHeld => ?_)
            clear hK K hHeld
            try simp only [Act.put, List.setIfInBounds_toArray, List.set_cons_zero, List.set_cons_succ]
            refine wpAnyH_done (by kernel_rfl) ?_ _
            go_wp2
            go_roundw
            case rel => exact ⟨k + 1, (Y ++ [((xv, xn, .slice xa xL xc, xz) : Pt)]) ++ [(vr, nb, .slice na nL nc, z)], _, _, by omega, by go_num, (by first | rfl | simp), HRUN.out.new HSO.out HM.out HNE.out nb _, HO6.out, HG6.out, HBW6.out⟩
            case measure => simp [RowKit.intOf]; omega
      · obtain rfl : k = Ln := by omega
        have d1 : ¬ (k : Int) < (k : Int) := by omega
        have HGA := hide (HGR.out.arg (run_bnd HRUN.out (fun p hp => HBD.out p ((ps_perm HP.out).mem_iff.1 hp))) (by rw [HML.out]; omega))
        have hwz := wz_calls HO.out HGA.out (by have := HXL.out; omega) (HBW.out.size)
        generalize hXn : X.length = Xn at *
        go_wp2_with fail
        refine hwz.mono ?_
        rintro e w5 ⟨v5, rfl, ho5, hf5⟩
        obtain ⟨ao5, cap5, rfl, _, _⟩ := ho5.len
        have HO5 := hide ho5
        have HF5 := hide hf5
        clear ho5 hf5 hwz
        go_wp2
        go_ret
        have hr := HRUN.out
        refine ⟨_, _, rfl, HO5.out.row, ?_, ?_, ?_, ?_⟩
        · exact fun m hm => (HGR.out.k32 HF5.out.2) m (List.mem_filter.1 hm).1
        · refine ⟨?_, fun p hp => ?_⟩
          · exact hr.rise.sublist ((List.filter_sublist (l := X)).map pt)
          · obtain ⟨m, hm, rfl⟩ := List.mem_map.1 hp
            have := (List.mem_filter.1 hm).2
            simpa [pt] using this
        · intro u
          have e1 : ps (X.filter fun m => !decide (m.2.2.2 = 0)) = (ps X).filter fun p => decide (p.2 ≠ 0) := by
            unfold ps
            rw [List.filter_map]
            congr 1
            apply List.filter_congr
            intro m hm
            by_cases h0 : m.2.2.2 = 0 <;> simp [pt, h0]
          rw [e1, cf_nonzero, hr.cf u, List.take_of_length_le (by rw [HML.out]; omega), cf_perm (ps_perm HP.out)]
        · exact (HB3.out.trans (HBW.out.mono HB3.out.size)).trans (HF5.out.1.mono HB3.out.size)

end Go.Proofs.YtbjolmgobeagoaaGreatDoor
