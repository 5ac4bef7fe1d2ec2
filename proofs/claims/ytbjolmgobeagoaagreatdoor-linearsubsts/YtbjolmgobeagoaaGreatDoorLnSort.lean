/- Parts in a row of one's own are sorted by their variables. -/
import Derived.Test.YtbjolmgobeagoaaGreatDoorLnDel
import Derived.Test.YtbjolmgobeagoaaGreatDoorLnShelf
namespace Go.Proofs.YtbjolmgobeagoaaGreatDoor
set_option linter.unusedVariables false
set_option linter.unusedSimpArgs false
set_option maxRecDepth 100000
open Go Go.RowKit Go.Shelf Go.Lib Go.Sort

/-- A part whose limbs are a slice. -/
abbrev Pq := Int × Bool × Option Addr × Nat × Nat × Int
def toPt (x : Pq) : Pt := (x.1, x.2.1, .slice x.2.2.1 x.2.2.2.1 x.2.2.2.2.1, x.2.2.2.2.2)
def encP (x : Pq) : List Value := ptCells (toPt x)
theorem sl_list : ∀ {M : List Pt}, Sl M → ∃ D : List Pq, D.map toPt = M
  | [], _ => ⟨[], rfl⟩
  | m :: M, h => by
    obtain ⟨D, hD⟩ := sl_list (M := M) (fun x hx => h x (by simp [hx]))
    obtain ⟨a, L, c, e⟩ := h m (by simp)
    refine ⟨(m.1, m.2.1, a, L, c, m.2.2.2) :: D, ?_⟩
    rw [List.map_cons, hD]
    congr 1
    unfold toPt
    simp only
    rw [← e]
theorem sl_map (D : List Pq) : Sl (D.map toPt) := fun m hm => by
  obtain ⟨x, _, rfl⟩ := List.mem_map.1 hm
  exact ⟨_, _, _, rfl⟩

set_option maxHeartbeats 1000000 in
theorem order_calls (x y : Pq) (W : World) : Calls Tryz.prog 91 #[.agg (encP x).toArray, .agg (encP y).toArray] W fun e w' => e = .returned (.int .i64 (Lib.compareInt x.1 y.1)) ∧ ∃ q os', w' = grow (W.drewN q) os' := by
  have hcon := fun W' => AnyG.cmp_Compare_int Tryz.cmpInt x.1 y.1 W'
  change ∀ W', Calls Tryz.prog 81 _ _ _ at hcon
  generalize Lib.compareInt x.1 y.1 = r at hcon ⊢
  obtain ⟨x1, x2, x3, x4, x5, x6⟩ := x
  obtain ⟨y1, y2, y3, y4, y5, y6⟩ := y
  simp only [encP, toPt, ptCells] at hcon ⊢
  go_enter Tryz.func91, Tryz.ntmps91
  go_wp2_with (go_at_call 81; refine (hcon _).mono ?_; rintro e w' ⟨rfl, rfl⟩)
  go_ret
  exact ⟨rfl, 0, _, by rw [alloc_eq_grow, alloc_eq_grow, grow_grow]; rfl⟩

theorem hlen12 (n : Nat) (W : World) (h : n ≤ 12) : Calls Tryz.prog 120 #[.int .u64 n] W fun e w' => (∃ l : Int, e = .returned (.int .i64 l)) ∧ w' = W :=
  (Tryz.bits_Len n W (by omega) (by omega)).mono fun _ _ ⟨he, hw⟩ => ⟨⟨_, he⟩, hw⟩

theorem compare_lt {x y : Int} : (Lib.compareInt x y < 0) ↔ x < y := by
  unfold Lib.compareInt
  split
  · simp [*]
  · split <;> simp <;> omega
theorem swoP : SWO (Go.Proofs.ltOf fun x y : Pq => Lib.compareInt x.1 y.1) := by
  refine ⟨fun x => ?_, fun x y z h1 h2 => ?_, fun x y z h1 h2 => ?_⟩
  · exact decide_eq_false (by rw [compare_lt]; omega)
  · have a := of_decide_eq_true h1
    have b := of_decide_eq_true h2
    rw [compare_lt] at a b
    exact decide_eq_true (by rw [compare_lt]; omega)
  · have a := of_decide_eq_false h1
    have b := of_decide_eq_false h2
    rw [compare_lt] at a b
    exact decide_eq_false (by rw [compare_lt]; omega)

theorem flat_get (D : List Pq) {j : Nat} (h : j < D.length * 3) : (flatK encP 3 D.toArray)[j]? = (pcells (D.map toPt))[j]? := by
  have hs : (flatK encP 3 D.toArray).size = D.length * 3 := by simp
  have h1 : (flatK encP 3 D.toArray)[j]? = some (flatK encP 3 D.toArray)[j]! := by
    rw [Array.getElem?_eq_getElem (by rw [hs]; exact h), getElem!_pos _ _ (by rw [hs]; exact h)]
  have hq : j / 3 < D.length := by omega
  rw [h1, get_flatK _ _ _ _ (by simpa using h)]
  have h2 := pcells_get (D.map toPt) (j / 3) (toPt D[j / 3]) (by rw [List.getElem?_map, List.getElem?_eq_getElem hq]; rfl) (j % 3) (Nat.mod_lt _ (by decide))
  rw [show j / 3 * 3 + j % 3 = j by omega] at h2
  rw [h2]
  have e : D.toArray[j / 3]! = D[j / 3] := by rw [getElem!_pos _ _ (by simpa using hq)]; simp
  rw [e]
  have hl : j % 3 < (ptCells (toPt D[j / 3])).length := Nat.mod_lt _ (by decide)
  show some (ptCells (toPt D[j / 3]))[j % 3]! = _
  rw [List.getElem?_eq_getElem hl, getElem!_pos (ptCells (toPt D[j / 3])) _ hl]

theorem size_putCells (F c : Array Value) : (putCells id 0 F c).size = c.size := by simp [putCells]
theorem get_putCells (F c : Array Value) (j : Nat) (h : j < F.size) (hc : j < c.size) : (putCells id 0 F c)[j]? = F[j]? := by
  rw [Array.getElem?_eq_getElem h]
  simp [putCells, hc, h]
theorem get_putCells_out (F c : Array Value) (j : Nat) (h : F.size ≤ j) : (putCells id 0 F c)[j]? = c[j]? := by
  have : ¬ j < F.size := by omega
  simp [putCells, this]
theorem sort_block (w : World) (g : Nat) (cur : Array Value) (d : Array Pq) (n : Nat) (os : Array Obj) (h : w.heap[g]? = some (.cells cur 89 (0, 0))) (hg : g < w.heap.size) :
    (sortWorldK encP 3 w g 0 n d os).heap[g]? = some (.cells (putCells id 0 (flatK encP 3 d) cur) 89 (0, 0)) := by
  unfold sortWorldK
  rw [Go.Sort.heap_grow_old _ _ (by rw [size_putRowK]; exact hg)]
  show (mapBlock (Sort.ahead w n) g _).heap[g]? = _
  simp only [mapBlock, Array.getElem?_modify, if_true]
  show Option.map _ w.heap[g]? = _
  rw [h]
  rfl
theorem other_block (w : World) (g k : Nat) (hk : k ≠ g) (n : Nat) (d : Array Pq) : (putRowK encP 3 (Sort.ahead w n) g 0 d).heap[k]? = w.heap[k]? := by
  show (mapBlock (Sort.ahead w n) g _).heap[k]? = _
  simp only [mapBlock, Array.getElem?_modify]
  rw [if_neg (fun e => hk e.symm)]
  rfl

def SortE (n₀ g cap : Nat) (w : World) (M : List Pt) (e : Ending) (w' : World) : Prop :=
  ∃ M', e = .returned (.tuple #[]) ∧ M'.Perm M ∧ M'.Pairwise (fun a b => a.1 ≤ b.1) ∧ OwnP n₀ w' (.slice (some ⟨g, 0, none⟩) M.length cap) M' ∧ Fr32 n₀ w w'

theorem sort_calls {n₀ g cap : Nat} {w : World} {M : List Pt} (hown : OwnP n₀ w (.slice (some ⟨g, 0, none⟩) M.length cap) M) (hsl : Sl M) (h12 : M.length ≤ 12) :
    Calls Tryz.prog 90 #[.slice (some ⟨g, 0, none⟩) M.length cap, .func (.func 91) #[] #[]] w fun e w' => SortE n₀ g cap w M e w' := by
  obtain ⟨D, rfl⟩ := sl_list hsl
  have eg : ∀ args w, (callFunc 91 args).run Tryz.prog w = .ok (.enter 91 args) w := enters_of Tryz.func91 (by kernel_rfl) rfl
  have hlt := hown.lt (j := g) rfl
  have hlen : (D.map toPt).length = D.toArray.size := by simp
  rcases hown.1.2 with ⟨hv, hn⟩ | ⟨g', cp, cur, hv, h1, h2, h3, h4, h5, h6⟩
  · cases hv
  cases hv
  have hold : ∀ j, w.cell? ⟨g, j, none⟩ = cur.toList[j]? := by
    intro j
    unfold World.cell?
    simp only [h2]
    simp
  have hcur : cur.toList.take (D.length * 3) = pcells (D.map toPt) := by
    have := h6
    rw [List.length_map] at this
    exact this
  have hH : HoldsK encP 3 w g 0 D.toArray := by
    intro j hj
    have hj3 : j < D.length * 3 := by simpa using hj
    refine ⟨?_, frozen_of_row w g _ _ _ h2⟩
    have e1 := flat_get D hj3
    rw [Array.getElem?_eq_getElem hj] at e1
    show w.cell? ⟨g, 0 + j, none⟩ = some (flatK encP 3 D.toArray)[j]!
    rw [Nat.zero_add, hold, getElem!_pos (flatK encP 3 D.toArray) _ hj, e1, ← hcur, List.getElem?_take, if_pos hj3]
  have hcon := AnyQ.slices_SortFunc_small_sorted Tryz.sortP 3 Tryz.isAgg89 Tryz.sizeOf89 encP (fun _ => rfl) (fun x v hv => by
    simp only [encP, ptCells, toPt, List.mem_cons, List.mem_nil_iff, or_false] at hv
    rcases hv with rfl | rfl | rfl <;> rfl) (fun x y => Lib.compareInt x.1 y.1) 91 #[] swoP g 0 cap D.toArray w eg (fun _ _ _ _ x y => order_calls x y _) hH hlt.2 (by rw [← hlen]; exact h12) hlen12
  rw [hlen]
  refine Calls.mono (P := Tryz.prog) hcon ?_
  rintro e w' ⟨rfl, d', n, os, hperm, hsort, rfl⟩
  have hds : d'.size = D.length := by have := hperm.1; simpa using this
  have hp2 : d'.toList.Perm D := by
    have := hperm.2.2
    rw [Array.extract_size, show d'.extract 0 D.toArray.size = d' by rw [← hperm.1]; exact Array.extract_size] at this
    simpa using this
  have hdl : d'.toList.length = D.length := by rw [Array.length_toList]; exact hds
  refine ⟨d'.toList.map toPt, rfl, hp2.map _, ?_, ?_, ?_⟩
  · refine List.pairwise_map.2 (List.pairwise_iff_getElem.2 fun i j hi hj hij => ?_)
    have hj2 : j < d'.size := by simpa using hj
    have hi2 : i < d'.size := by simpa using hi
    have h8 := hsort i j (Nat.zero_le _) hij (by rw [hds] at hj2; simpa using hj2)
    have h9 := of_decide_eq_false h8
    rw [compare_lt, getElem!_pos d' _ hj2, getElem!_pos d' _ hi2] at h9
    simp only [Array.getElem_toList]
    show d'[i].1 ≤ d'[j].1
    omega
  · have hb := sort_block w g cur d' n os h2 hlt.2
    have hcs : cur.size = cap * 3 := h5
    have hml : (d'.toList.map toPt).length = D.length := by rw [List.length_map]; exact hdl
    refine ⟨⟨by rw [pcells_length]; rfl, .inr ⟨g, cap, _, by rw [hml]; simp, h1, hb, by rw [hml]; simpa using h3, h4, by rw [size_putCells]; exact h5, ?_⟩⟩, ?_⟩
    · rw [hml]
      show List.take (D.length * 3) _ = _
      apply List.ext_getElem?
      intro j
      rw [List.getElem?_take]
      by_cases hj : j < D.length * 3
      · have hj2 : j < cur.size := by
          have : D.length ≤ cap := by simpa using h3
          rw [hcs]
          omega
        have e3 := flat_get d'.toList (j := j) (by rw [hdl]; exact hj)
        rw [if_pos hj, Array.getElem?_toList, get_putCells _ _ _ (by rw [size_flatK, hds]; exact hj) hj2, ← e3]
      · rw [if_neg hj, List.getElem?_eq_none (by rw [pcells_length, hml]; omega)]
    · intro g2 j u hg hj hc
      simp only [Value.ownBlock, Option.some.injEq] at hg
      subst hg
      rw [hml, zPart_size] at hj
      have hc2 : (putCells id 0 (flatK encP 3 d') cur)[j]? = some u := by
        unfold World.cell? at hc
        simp only [hb] at hc
        simpa using hc
      rw [get_putCells_out _ _ _ (by rw [size_flatK, hds]; exact hj)] at hc2
      refine hown.2 g j u rfl (by rw [List.length_map, zPart_size]; exact hj) ?_
      rw [hold, Array.getElem?_toList]
      exact hc2
  · refine ⟨⟨rfl, rfl, rfl, ?_, fun k hk => ?_⟩, ?_⟩
    · have := size_sortWorldK_c encP 3 w g 0 n d' os
      exact this
    · unfold sortWorldK
      rw [Go.Sort.heap_grow_old _ _ (by rw [size_putRowK]; show k < w.heap.size; omega)]
      exact other_block w g k (by omega) n d'
    · intro a x hx
      have hal : a.block < w.heap.size := block_lt_of_cell hx
      unfold sortWorldK
      rw [cell?_grow _ _ _ (by rw [size_putRowK]; exact hal)]
      have hne : a.block ≠ g ∨ a.off < 0 ∨ 0 + (flatK encP 3 d').size ≤ a.off := by
        by_cases hb : a.block = g
        · refine .inr (.inr ?_)
          rw [size_flatK, hds]
          rcases Nat.lt_or_ge a.off (D.length * 3) with h | h
          · exfalso
            obtain ⟨ab, ao, asp⟩ := a
            have hs2 : asp = none := World.cell?_spot hx
            subst hs2
            simp only at hb h
            subst hb
            have hq : ao / 3 < D.length := by omega
            have h7 := pcells_get (D.map toPt) (ao / 3) (toPt D[ao / 3]) (by rw [List.getElem?_map, List.getElem?_eq_getElem hq]; rfl) (ao % 3) (Nat.mod_lt _ (by decide))
            rw [show ao / 3 * 3 + ao % 3 = ao by omega, ← hcur, List.getElem?_take, if_pos h, ← hold, hx] at h7
            exact not32 (m := toPt D[ao / 3]) ⟨_, _, _, rfl⟩ h7.symm x rfl
          · omega
        · exact .inl hb
      exact (cell?_putRow_other id (Sort.ahead w n) g 0 (flatK encP 3 d') a hne).trans hx

end Go.Proofs.YtbjolmgobeagoaaGreatDoor
