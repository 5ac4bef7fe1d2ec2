/- Json: slices.Clone of rows of strings and of values; what a copy of a tree is. -/
import Derived.Test.YtcedcbonphgecaaDoorJRefl
import Derived.Lib.SliceRun
namespace Go.Proofs.YtcedcbonphgecaaDoor
set_option linter.unusedVariables false
set_option linter.unusedSimpArgs false
set_option maxRecDepth 100000
open Go Go.RowKit Go.Shelf Go.Lib

theorem own_noneS (w : World) : (w.alloc (.cells #[] 9)).ownsRow w.heap.size 9 1 (.slice (some ⟨w.heap.size, 0, none⟩) 0 0) 0 [] :=
  World.ownsRow_lit w #[] 0 (Nat.le_refl _) (by unfold maxLen; omega) rfl
theorem own_noneV (w : World) : (w.alloc (.cells #[] 27)).ownsRow w.heap.size 27 4 (.slice (some ⟨w.heap.size, 0, none⟩) 0 0) 0 [] :=
  World.ownsRow_lit w #[] 0 (Nat.le_refl _) (by unfold maxLen; omega) rfl
theorem nilS_eq (w : World) (a : Option Addr) (n c : Nat) : (binOp .eql 24 (.slice a n c) (.slice none 0 0)).run Tryd.prog w = .ok (.bool a.isNone) w := Lib.run_eql_slice_nil w 24 9 a n c 0 0 Tryd.underlying24
theorem nilV_eq (w : World) (a : Option Addr) (n c : Nat) : (binOp .eql 25 (.slice a n c) (.slice none 0 0)).run Tryd.prog w = .ok (.bool a.isNone) w := Lib.run_eql_slice_nil w 25 27 a n c 0 0 Tryd.underlying25

def CloS (w : World) (K : List ByteArray) (e : Ending) (w' : World) : Prop := ∃ a c, e = .returned (.slice a K.length c) ∧ Below w.heap.size w w' ∧ StrsS w' (fun b => w.heap.size ≤ b) (.slice a K.length c) K
set_option maxHeartbeats 4000000 in
theorem cloneS_any {S : Nat → Prop} {v : Value} {K : List ByteArray} (w : World) (h : StrsS w S v K) (hl : K.length ≤ 1000) : Calls Tryd.prog 76 #[v] w (CloS w K) := by
  obtain ⟨ao, cap, rfl, hc⟩ := h
  cases ao with
  | none =>
    obtain rfl : K = [] := by
      rcases K with _ | ⟨x, K⟩
      · rfl
      · obtain ⟨b, off, e, _⟩ := hc 0 (by simp)
        cases e
    have heq := nilS_eq w none 0 cap
    simp only [Option.isNone_none] at heq
    rw [List.length_nil]
    go_enter Tryd.func76, Tryd.ntmps76
    go_wp2
    go_ret
    exact ⟨none, 0, rfl, Below.refl _ _, ⟨none, 0, rfl, fun j hj => by simp at hj⟩⟩
  | some a =>
    obtain ⟨i0, hi, hz0, hz1, hz2⟩ := info_parts infoStr
    have heq : ∀ (W : World) (n c : Nat), (binOp .eql 24 (.slice (some a) n c) (.slice none 0 0)).run Tryd.prog W = .ok (.bool false) W := fun W n c => nilS_eq W (some a) n c
    have hb0 := bel w (.cells #[] 9)
    have hcell : ∀ j u, (K.map Value.string)[j]? = some u → (w.alloc (.cells #[] 9)).cell? (a.add j) = some u := fun j u hj => by
      rw [List.getElem?_map] at hj
      obtain ⟨s, hs, rfl⟩ := Option.map_eq_some_iff.1 hj
      have hjl := (List.getElem?_eq_some_iff.1 hs).1
      obtain ⟨b, off, e, _, hx⟩ := hc j hjl
      cases e
      rw [addr_plus]
      rw [(hb0.cell (p := ⟨b, off + j, none⟩) (block_lt hx)).trans hx]
      simp [nthS, hs]
    have hone : ∀ u ∈ K.map Value.string, u.oneCell' = true := fun u hu => by
      obtain ⟨s, _, rfl⟩ := List.mem_map.1 hu
      rfl
    obtain ⟨kn, hkn⟩ : ∃ kn, K.length = kn := ⟨_, rfl⟩
    have hlen : (K.map Value.string).length = kn * 1 := by simp [hkn]
    obtain ⟨cs, hcs⟩ : ∃ cs, K.map Value.string = cs := ⟨_, rfl⟩
    rw [hcs] at hcell hone hlen
    rw [hkn] at hl
    have HB := hide hb0
    have HO := hide (own_noneS w)
    have HC := hide hcell
    have H1 := hide hone
    have HL := hide hlen
    have HLL := hide hl
    have HCS := hide hcs
    have HKN := hide hkn
    rw [hkn]
    clear hb0 hcell hone hlen hl hcs hkn hc
    go_enter Tryd.func76, Tryd.ntmps76
    go_wp2_with (at_builtin; go_must (refine wpList_append_own _ rfl (.tmp 5) (.tmp 6) 24 rfl w.heap.size 9 i0 (.string ⟨#[]⟩) 1 16 Tryd.underlying24 hi hz0 hz1 hz2 rfl (by decide) _ 0 [] rfl HO.out a kn cap cs rfl HL.out HC.out H1.out (by have := HLL.out; unfold maxLen; omega) (by have := HLL.out; omega) (by simp) ?_; intro v' w2 hown' hgrow hnil))
    have hb2 : Below w.heap.size w w2 := HB.out.grown hgrow (by simp) (fun j hj => by have := (World.ownsRow.lt HO.out j hj).1; omega)
    have hown2 : OwnS w.heap.size w2 v' K := by
      unfold OwnS
      rw [HCS.out, HKN.out, ← Nat.zero_add kn, ← List.nil_append cs]
      exact hown'
    obtain ⟨ya, yc, rfl, _⟩ := hown2.len
    have HB2 := hide hb2
    have HO2 := hide hown2
    clear hb2 hown' hgrow hnil hown2
    go_wp2
    go_ret
    refine ⟨ya, yc, rfl, HB2.out, ⟨ya, yc, rfl, fun j hj => ?_⟩⟩
    obtain ⟨g, rfl, hx⟩ := HO2.out.cell (List.getElem?_eq_getElem hj)
    refine ⟨g, 0, rfl, (HO2.out.lt g rfl).1, ?_⟩
    rw [Nat.zero_add, hx]
    simp [nthS, hj]

theorem vcells_get : ∀ (M : List JC) (i : Nat) (x : JC) (r : Nat), M[i]? = some x → r < 4 → (vcells M)[i * 4 + r]? = (vcell x)[r]? := by
  intro M
  induction M with
  | nil => intro i x r h; simp at h
  | cons a l ih =>
    intro i x r h hr
    have e : vcells (a :: l) = vcell a ++ vcells l := rfl
    have hl : (vcell a).length = 4 := rfl
    cases i with
    | zero =>
      simp at h
      subst h
      rw [e, Nat.zero_mul, Nat.zero_add, List.getElem?_append_left (by omega)]
    | succ i =>
      rw [e, List.getElem?_append_right (by omega), hl, show (i + 1) * 4 + r - 4 = i * 4 + r by omega]
      exact ih i x r (by simpa using h) hr

/-- A row of values in a block: so many, one after the other. -/
def RowV (W : World) (g n : Nat) (ys : Nat → JC) : Prop := ∃ cur, BoxC W g 27 cur ∧ ∀ i, i < n → ∀ r, r < 4 → cur[i * 4 + r]? = (vcell (ys i))[r]?
theorem RowV.cell {W : World} {g n : Nat} {ys : Nat → JC} (h : RowV W g n ys) {i r : Nat} (hi : i < n) (hr : r < 4) : W.cell? ⟨g, i * 4 + r, none⟩ = (vcell (ys i))[r]? := by
  obtain ⟨cur, hb, hc⟩ := h
  rw [hb.cell]
  exact hc i hi r hr
theorem RowV.frozen {W : World} {g n : Nat} {ys : Nat → JC} (h : RowV W g n ys) (i : Nat) : W.frozen? ⟨g, i, none⟩ = false := by
  obtain ⟨cur, hb, _⟩ := h
  exact hb.frozen i
theorem RowV.lt {W : World} {g n : Nat} {ys : Nat → JC} (h : RowV W g n ys) : g < W.heap.size := by
  obtain ⟨cur, hb, _⟩ := h
  exact hb.lt
theorem RowV.below {W W' : World} {g n : Nat} {ys : Nat → JC} (h : RowV W g n ys) (hb : Below W.heap.size W W') : RowV W' g n ys := by
  obtain ⟨cur, hx, hc⟩ := h
  exact ⟨cur, hx.below hb, hc⟩
theorem RowV.other {W : World} {g n B i : Nat} {ys : Nat → JC} {x : Value} (h : RowV W g n ys) (hne : g ≠ B) : RowV (W.setCell ⟨B, i, none⟩ x) g n ys := by
  obtain ⟨cur, hx, hc⟩ := h
  exact ⟨cur, hx.other hne i x, hc⟩
theorem set_get {cs : Array Value} {j k : Nat} {x : Value} (hj : j < cs.size) : (cs.set! j x)[k]? = if k = j then some x else cs[k]? := by
  rw [Array.set!_eq_setIfInBounds, Array.getElem?_setIfInBounds]
  by_cases e : j = k
  · subst e
    simp [hj]
  · simp [e, Ne.symm e]
theorem RowV.put {W : World} {g n i : Nat} {ys : Nat → JC} (h : RowV W g n ys) (hi : i < n) (y : JC) :
    RowV ((((W.setCell ⟨g, i * 4, none⟩ (.int .i64 y.1)).setCell ⟨g, i * 4 + 1, none⟩ (.string y.2.1)).setCell ⟨g, i * 4 + 2, none⟩ y.2.2.1).setCell ⟨g, i * 4 + 3, none⟩ y.2.2.2) g n (fun j => if j = i then y else ys j) := by
  obtain ⟨cur, hb, hc⟩ := h
  refine ⟨_, (((hb.set (i * 4) _).set (i * 4 + 1) _).set (i * 4 + 2) _).set (i * 4 + 3) _, fun j hj r hr => ?_⟩
  have hsz : i * 4 + 3 < cur.size := by
    have h3 := hc i hi 3 (by omega)
    simp only [vcell, List.getElem?_cons_succ, List.getElem?_cons_zero] at h3
    exact (Array.getElem?_eq_some_iff.1 h3).1
  rw [set_get (by simp; omega), set_get (by simp; omega), set_get (by simp; omega), set_get (by omega)]
  have hcj := hc j hj r hr
  show _ = (vcell (if j = i then y else ys j))[r]?
  by_cases e : j = i
  · subst e
    rw [if_pos (rfl : j = j)]
    match r, hr with
    | 0, _ => rw [if_neg (by omega), if_neg (by omega), if_neg (by omega), if_pos (by omega)]; rfl
    | 1, _ => rw [if_neg (by omega), if_neg (by omega), if_pos (by omega)]; rfl
    | 2, _ => rw [if_neg (by omega), if_pos (by omega)]; rfl
    | 3, _ => rw [if_pos (by omega)]; rfl
  · rw [if_neg (by omega), if_neg (by omega), if_neg (by omega), if_neg (by omega), if_neg e]
    exact hcj

def CloV (w : World) (n : Nat) (xs : Nat → JC) (e : Ending) (w' : World) : Prop := ∃ a c, e = .returned (.slice a n c) ∧ Below w.heap.size w w' ∧ (0 < n → ∃ g, w.heap.size ≤ g ∧ a = some ⟨g, 0, none⟩ ∧ RowV w' g n xs)
set_option maxHeartbeats 4000000 in
theorem cloneV_any (w : World) (ao : Option Addr) (n cap : Nat) (xs : Nat → JC) (hc : ∀ i, i < n → ∃ b off, ao = some ⟨b, off, none⟩ ∧ ∀ r, r < 4 → w.cell? ⟨b, off + (i * 4 + r), none⟩ = (vcell (xs i))[r]?) (hsl : ∀ i, i < n → IsSl (xs i).2.2.1 ∧ IsSl (xs i).2.2.2) (hl : n ≤ 1000) :
    Calls Tryd.prog 77 #[.slice ao n cap] w (CloV w n xs) := by
  cases ao with
  | none =>
    obtain rfl : n = 0 := by
      rcases n with _ | n
      · rfl
      · obtain ⟨b, off, e, _⟩ := hc 0 (by omega)
        cases e
    have heq := nilV_eq w none 0 cap
    simp only [Option.isNone_none] at heq
    clear hc hsl hl
    go_enter Tryd.func77, Tryd.ntmps77
    go_wp2
    go_ret
    exact ⟨none, 0, rfl, Below.refl _ _, fun h => by omega⟩
  | some a =>
    obtain ⟨i0, hi, hz0, hz1, hz2⟩ := info_parts infoJV
    have heq : ∀ (W : World) (n c : Nat), (binOp .eql 25 (.slice (some a) n c) (.slice none 0 0)).run Tryd.prog W = .ok (.bool false) W := fun W n c => nilV_eq W (some a) n c
    have hb0 := bel w (.cells #[] 27)
    obtain ⟨M, hM⟩ : ∃ M, (List.range n).map xs = M := ⟨_, rfl⟩
    have hMl : M.length = n := by rw [← hM]; simp
    have hMi : ∀ i, i < n → M[i]? = some (xs i) := fun i hi => by rw [← hM]; simp [hi]
    have hcell : ∀ j u, (vcells M)[j]? = some u → (w.alloc (.cells #[] 27)).cell? (a.add j) = some u := fun j u hj => by
      have hjl := (List.getElem?_eq_some_iff.1 hj).1
      rw [vcells_length, hMl] at hjl
      obtain ⟨b, off, e, hx⟩ := hc (j / 4) (by omega)
      cases e
      have h0 := hx (j % 4) (by omega)
      rw [← vcells_get M (j / 4) _ (j % 4) (hMi _ (by omega)) (by omega), show j / 4 * 4 + j % 4 = j by omega, hj] at h0
      rw [addr_plus]
      exact (hb0.cell (p := ⟨b, off + j, none⟩) (block_lt h0)).trans h0
    have hone : ∀ u ∈ vcells M, u.oneCell' = true := fun u hu => by
      unfold vcells at hu
      obtain ⟨x, hx, hu⟩ := List.mem_flatMap.1 hu
      rw [← hM] at hx
      obtain ⟨i, hi, rfl⟩ := List.mem_map.1 hx
      obtain ⟨⟨_, _, _, e2⟩, ⟨_, _, _, e3⟩⟩ := hsl i (List.mem_range.1 hi)
      simp only [vcell, List.mem_cons, List.not_mem_nil, or_false] at hu
      rcases hu with rfl | rfl | rfl | rfl
      · rfl
      · rfl
      · rw [e2]; rfl
      · rw [e3]; rfl
    have hlen : (vcells M).length = n * 4 := by rw [vcells_length, hMl]
    obtain ⟨cs, hcs⟩ : ∃ cs, vcells M = cs := ⟨_, rfl⟩
    have hget : ∀ i, i < n → ∀ r, r < 4 → cs[i * 4 + r]? = (vcell (xs i))[r]? := fun i hi r hr => by
      rw [← hcs]
      exact vcells_get M i _ r (hMi i hi) hr
    rw [hcs] at hcell hone hlen
    have HB := hide hb0
    have HO := hide (own_noneV w)
    have HC := hide hcell
    have H1 := hide hone
    have HL := hide hlen
    have HLL := hide hl
    have HG := hide hget
    clear hb0 hcell hone hlen hl hcs hc hsl hM hMl hMi hget
    go_enter Tryd.func77, Tryd.ntmps77
    go_wp2_with (at_builtin; go_must (refine wpList_append_own _ rfl (.tmp 5) (.tmp 6) 25 rfl w.heap.size 27 i0 (.agg #[.int .i64 0, .string ⟨#[]⟩, .slice none 0 0, .slice none 0 0]) 4 72 Tryd.underlying25 hi hz0 hz1 hz2 rfl (by decide) _ 0 [] rfl HO.out a n cap cs rfl HL.out HC.out H1.out (by have := HLL.out; unfold maxLen; omega) (by have := HLL.out; omega) (by simp) ?_; intro v' w2 hown' hgrow hnil))
    have hb2 : Below w.heap.size w w2 := HB.out.grown hgrow (by simp) (fun j hj => by have := (World.ownsRow.lt HO.out j hj).1; omega)
    rw [Nat.zero_add, List.nil_append] at hown'
    obtain ⟨ya, yc, rfl, hrow⟩ : ∃ ya yc, v' = .slice ya n yc ∧ (0 < n → ∃ g, w.heap.size ≤ g ∧ ya = some ⟨g, 0, none⟩ ∧ RowV w2 g n xs) := by
      rcases hown'.2 with ⟨rfl, h0⟩ | ⟨g, c2, cur, rfl, hg, hh, hn, hm, hsz, ht⟩
      · exact ⟨none, 0, by rw [h0], fun h => by omega⟩
      · refine ⟨_, _, rfl, fun _ => ⟨g, hg, rfl, cur, hh, fun i hi r hr => ?_⟩⟩
        have h1 : cs[i * 4 + r]? = cur[i * 4 + r]? := by
          rw [← ht, List.getElem?_take, if_pos (by omega)]
          simp
        rw [← h1]
        exact HG.out i hi r hr
    have HB2 := hide hb2
    have HR2 := hide hrow
    clear hb2 hown' hgrow hnil hrow
    go_wp2
    go_ret
    exact ⟨ya, yc, rfl, HB2.out, HR2.out⟩

mutual
/-- What a copy leaves of a tree. -/
def clJ : JT → JT
  | .mk k s K L => .mk k (sP k s) (kP k K) (if k = 5 ∨ k = 6 then clJs L else [])
def clJs : List JT → List JT
  | [] => []
  | a :: l => clJ a :: clJs l
end
theorem clJs_length : ∀ L : List JT, (clJs L).length = L.length
  | [] => by rw [clJs]
  | a :: l => by rw [clJs, List.length_cons, List.length_cons, clJs_length l]
theorem clJs_get : ∀ (L : List JT) (i : Nat), (clJs L)[i]? = (L[i]?).map clJ
  | [], i => by rw [clJs]; simp
  | a :: l, 0 => by rw [clJs]; simp
  | a :: l, i + 1 => by rw [clJs, List.getElem?_cons_succ, List.getElem?_cons_succ, clJs_get l i]
theorem clJ_eq (k : Int) (s : ByteArray) (K : List ByteArray) (L : List JT) : clJ (.mk k s K L) = .mk k (sP k s) (kP k K) (clJs (lP k L)) := by
  rw [clJ]
  unfold lP
  split
  · rfl
  · rw [clJs]
theorem parts_idem (k : Int) (s : ByteArray) (K : List ByteArray) (L : List JT) : sP k (sP k s) = sP k s ∧ kP k (kP k K) = kP k K ∧ lP k (lP k L) = lP k L := by
  unfold sP kP lP
  refine ⟨?_, ?_, ?_⟩ <;> split <;> simp_all
mutual
theorem eqJ_clone : ∀ T : JT, eqJ (clJ T) T = true
  | .mk k s K L => by
    rw [clJ_eq, eqJ_by]
    obtain ⟨h1, h2, _⟩ := parts_idem k s K L
    refine ⟨rfl, h1, h2, ?_⟩
    unfold lP
    split
    · exact eqJs_clone L
    · rfl
theorem eqJs_clone : ∀ L : List JT, eqJs (clJs L) L = true
  | [] => by rw [clJs]; rfl
  | a :: l => by rw [clJs, eqJs, eqJ_clone a, eqJs_clone l]; rfl
end
theorem LtT.clone {T : JT} (h : LtT T) : LtT (clJ T) := by
  induction h with
  | mk k s K L hK hL hs ht ih =>
    rw [clJ_eq]
    refine .mk k _ _ _ ?_ ?_ ?_ fun i hi => ?_
    · unfold kP; split
      · exact hK
      · simp
    · rw [clJs_length]; unfold lP; split
      · exact hL
      · simp
    · unfold sP; split
      · exact hs
      · exact Nat.zero_le _
    · rw [clJs_length] at hi
      have hiL : i < L.length ∧ lP k L = L := by
        unfold lP at hi ⊢
        split at hi
        · rename_i h; rw [if_pos h]; exact ⟨hi, rfl⟩
        · simp at hi
      have hg : (clJs (lP k L))[i]? = (L[i]?).map clJ := by rw [clJs_get, hiL.2]
      rw [List.getElem?_eq_getElem (by rw [clJs_length]; exact hi), List.getElem?_eq_getElem hiL.1, Option.map_some, Option.some.injEq] at hg
      rw [hg]
      exact ih i hiL.1

end Go.Proofs.YtcedcbonphgecaaDoor
