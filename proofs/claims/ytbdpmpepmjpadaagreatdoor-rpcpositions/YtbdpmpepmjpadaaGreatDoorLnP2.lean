/- Texts of json and rpc, part 2: JClo0, JClo, JInts, JGets, JMadT, JQuo, JKey, JObj, JTre, RPos, RPosR. -/
import Derived.Test.YtbdpmpepmjpadaaGreatDoorLnP1
import Derived.Lib.SliceRun
import Derived.Test.YtbdpmpepmjpadaaGreatDoorJNum
import Derived.Test.YtbdpmpepmjpadaaGreatDoorFStr
import Derived.Lib.AtoiAllCases
import Derived.Lib.ItoaNum
import Derived.Test.YtbdpmpepmjpadaaGreatDoorShelf
import Derived.Lib.AppendIntMem
import Derived.Maps.Keyed
namespace Go.Proofs.YtbdpmpepmjpadaaGreatDoor
set_option linter.unusedVariables false
set_option linter.unusedSimpArgs false
set_option maxRecDepth 100000
open Go Go.RowKit Go.Shelf Go.Lib

theorem own_noneS (w : World) : (w.alloc (.cells #[] 9)).ownsRow w.heap.size 9 1 (.slice (some ⟨w.heap.size, 0, none⟩) 0 0) 0 [] :=
  World.ownsRow_lit w #[] 0 (Nat.le_refl _) (by unfold maxLen; omega) rfl
theorem own_noneV (w : World) : (w.alloc (.cells #[] 27)).ownsRow w.heap.size 27 4 (.slice (some ⟨w.heap.size, 0, none⟩) 0 0) 0 [] :=
  World.ownsRow_lit w #[] 0 (Nat.le_refl _) (by unfold maxLen; omega) rfl
theorem nilS_eq (w : World) (a : Option Addr) (n c : Nat) : (binOp .eql 24 (.slice a n c) (.slice none 0 0)).run Tryz.prog w = .ok (.bool a.isNone) w := Lib.run_eql_slice_nil w 24 9 a n c 0 0 Tryz.underlying24
theorem nilV_eq (w : World) (a : Option Addr) (n c : Nat) : (binOp .eql 25 (.slice a n c) (.slice none 0 0)).run Tryz.prog w = .ok (.bool a.isNone) w := Lib.run_eql_slice_nil w 25 27 a n c 0 0 Tryz.underlying25

def CloS (w : World) (K : List ByteArray) (e : Ending) (w' : World) : Prop := ∃ a c, e = .returned (.slice a K.length c) ∧ Below w.heap.size w w' ∧ StrsS w' (fun b => w.heap.size ≤ b) (.slice a K.length c) K
set_option maxHeartbeats 4000000 in
theorem cloneS_any {S : Nat → Prop} {v : Value} {K : List ByteArray} (w : World) (h : StrsS w S v K) (hl : K.length ≤ 1000000) : Calls Tryz.prog 73 #[v] w (CloS w K) := by
  obtain ⟨ao, cap, rfl, hc⟩ := h
  cases ao with
  | none =>
    obtain rfl : K = [] := by
      rcases K with _ | ⟨x, K⟩
      · rfl
      · obtain ⟨b, off, e, _⟩ := hc 0 (by simp)
        cases e
    have heq := nilS_eq w none 0 cap
    simp only [Option.isNone_none] at heq
    rw [List.length_nil]
    go_enter Tryz.func73, Tryz.ntmps73
    go_wp2
    go_ret
    exact ⟨none, 0, rfl, Below.refl _ _, ⟨none, 0, rfl, fun j hj => by simp at hj⟩⟩
  | some a =>
    obtain ⟨i0, hi, hz0, hz1, hz2⟩ := info_parts infoStr
    have heq : ∀ (W : World) (n c : Nat), (binOp .eql 24 (.slice (some a) n c) (.slice none 0 0)).run Tryz.prog W = .ok (.bool false) W := fun W n c => nilS_eq W (some a) n c
    have hb0 := bel w (.cells #[] 9)
    have hcell : ∀ j u, (K.map Value.string)[j]? = some u → (w.alloc (.cells #[] 9)).cell? (a.add j) = some u := fun j u hj => by
      rw [List.getElem?_map] at hj
      obtain ⟨s, hs, rfl⟩ := Option.map_eq_some_iff.1 hj
      have hjl := (List.getElem?_eq_some_iff.1 hs).1
      obtain ⟨b, off, e, _, hx⟩ := hc j hjl
      cases e
      rw [addr_plus]
      rw [(hb0.cell (p := ⟨b, off + j, none⟩) (block_lt hx)).trans hx]
      simp [nthS, hs]
    have hone : ∀ u ∈ K.map Value.string, u.oneCell' = true := fun u hu => by
      obtain ⟨s, _, rfl⟩ := List.mem_map.1 hu
      rfl
    obtain ⟨kn, hkn⟩ : ∃ kn, K.length = kn := ⟨_, rfl⟩
    have hlen : (K.map Value.string).length = kn * 1 := by simp [hkn]
    obtain ⟨cs, hcs⟩ : ∃ cs, K.map Value.string = cs := ⟨_, rfl⟩
    rw [hcs] at hcell hone hlen
    rw [hkn] at hl
    have HB := hide hb0
    have HO := hide (own_noneS w)
    have HC := hide hcell
    have H1 := hide hone
    have HL := hide hlen
    have HLL := hide hl
    have HCS := hide hcs
    have HKN := hide hkn
    rw [hkn]
    clear hb0 hcell hone hlen hl hcs hkn hc
    go_enter Tryz.func73, Tryz.ntmps73
    go_wp2_with (at_builtin; go_must (refine wpList_append_own _ rfl (.tmp 5) (.tmp 6) 24 rfl w.heap.size 9 i0 (.string ⟨#[]⟩) 1 16 Tryz.underlying24 hi hz0 hz1 hz2 rfl (by decide) _ 0 [] rfl HO.out a kn cap cs rfl HL.out HC.out H1.out (by have := HLL.out; unfold maxLen; omega) (by have := HLL.out; omega) (by simp) ?_; intro v' w2 hown' hgrow hnil))
    have hb2 : Below w.heap.size w w2 := HB.out.grown hgrow (by simp) (fun j hj => by have := (World.ownsRow.lt HO.out j hj).1; omega)
    have hown2 : OwnS w.heap.size w2 v' K := by
      unfold OwnS
      rw [HCS.out, HKN.out, ← Nat.zero_add kn, ← List.nil_append cs]
      exact hown'
    obtain ⟨ya, yc, rfl, _⟩ := hown2.len
    have HB2 := hide hb2
    have HO2 := hide hown2
    clear hb2 hown' hgrow hnil hown2
    go_wp2
    go_ret
    refine ⟨ya, yc, rfl, HB2.out, ⟨ya, yc, rfl, fun j hj => ?_⟩⟩
    obtain ⟨g, rfl, hx⟩ := HO2.out.cell (List.getElem?_eq_getElem hj)
    refine ⟨g, 0, rfl, (HO2.out.lt g rfl).1, ?_⟩
    rw [Nat.zero_add, hx]
    simp [nthS, hj]

theorem vcells_get : ∀ (M : List JC) (i : Nat) (x : JC) (r : Nat), M[i]? = some x → r < 4 → (vcells M)[i * 4 + r]? = (vcell x)[r]? := by
  intro M
  induction M with
  | nil => intro i x r h; simp at h
  | cons a l ih =>
    intro i x r h hr
    have e : vcells (a :: l) = vcell a ++ vcells l := rfl
    have hl : (vcell a).length = 4 := rfl
    cases i with
    | zero =>
      simp at h
      subst h
      rw [e, Nat.zero_mul, Nat.zero_add, List.getElem?_append_left (by omega)]
    | succ i =>
      rw [e, List.getElem?_append_right (by omega), hl, show (i + 1) * 4 + r - 4 = i * 4 + r by omega]
      exact ih i x r (by simpa using h) hr

/-- A row of values in a block: so many, one after the other. -/
def RowV (W : World) (g n : Nat) (ys : Nat → JC) : Prop := ∃ cur, BoxC W g 27 cur ∧ ∀ i, i < n → ∀ r, r < 4 → cur[i * 4 + r]? = (vcell (ys i))[r]?
theorem RowV.cell {W : World} {g n : Nat} {ys : Nat → JC} (h : RowV W g n ys) {i r : Nat} (hi : i < n) (hr : r < 4) : W.cell? ⟨g, i * 4 + r, none⟩ = (vcell (ys i))[r]? := by
  obtain ⟨cur, hb, hc⟩ := h
  rw [hb.cell]
  exact hc i hi r hr
theorem RowV.frozen {W : World} {g n : Nat} {ys : Nat → JC} (h : RowV W g n ys) (i : Nat) : W.frozen? ⟨g, i, none⟩ = false := by
  obtain ⟨cur, hb, _⟩ := h
  exact hb.frozen i
theorem RowV.lt {W : World} {g n : Nat} {ys : Nat → JC} (h : RowV W g n ys) : g < W.heap.size := by
  obtain ⟨cur, hb, _⟩ := h
  exact hb.lt
theorem RowV.below {W W' : World} {g n : Nat} {ys : Nat → JC} (h : RowV W g n ys) (hb : Below W.heap.size W W') : RowV W' g n ys := by
  obtain ⟨cur, hx, hc⟩ := h
  exact ⟨cur, hx.below hb, hc⟩
theorem RowV.other {W : World} {g n B i : Nat} {ys : Nat → JC} {x : Value} (h : RowV W g n ys) (hne : g ≠ B) : RowV (W.setCell ⟨B, i, none⟩ x) g n ys := by
  obtain ⟨cur, hx, hc⟩ := h
  exact ⟨cur, hx.other hne i x, hc⟩
theorem set_get {cs : Array Value} {j k : Nat} {x : Value} (hj : j < cs.size) : (cs.set! j x)[k]? = if k = j then some x else cs[k]? := by
  rw [Array.set!_eq_setIfInBounds, Array.getElem?_setIfInBounds]
  by_cases e : j = k
  · subst e
    simp [hj]
  · simp [e, Ne.symm e]
theorem RowV.put {W : World} {g n i : Nat} {ys : Nat → JC} (h : RowV W g n ys) (hi : i < n) (y : JC) :
    RowV ((((W.setCell ⟨g, i * 4, none⟩ (.int .i64 y.1)).setCell ⟨g, i * 4 + 1, none⟩ (.string y.2.1)).setCell ⟨g, i * 4 + 2, none⟩ y.2.2.1).setCell ⟨g, i * 4 + 3, none⟩ y.2.2.2) g n (fun j => if j = i then y else ys j) := by
  obtain ⟨cur, hb, hc⟩ := h
  refine ⟨_, (((hb.set (i * 4) _).set (i * 4 + 1) _).set (i * 4 + 2) _).set (i * 4 + 3) _, fun j hj r hr => ?_⟩
  have hsz : i * 4 + 3 < cur.size := by
    have h3 := hc i hi 3 (by omega)
    simp only [vcell, List.getElem?_cons_succ, List.getElem?_cons_zero] at h3
    exact (Array.getElem?_eq_some_iff.1 h3).1
  rw [set_get (by simp; omega), set_get (by simp; omega), set_get (by simp; omega), set_get (by omega)]
  have hcj := hc j hj r hr
  show _ = (vcell (if j = i then y else ys j))[r]?
  by_cases e : j = i
  · subst e
    rw [if_pos (rfl : j = j)]
    match r, hr with
    | 0, _ => rw [if_neg (by omega), if_neg (by omega), if_neg (by omega), if_pos (by omega)]; rfl
    | 1, _ => rw [if_neg (by omega), if_neg (by omega), if_pos (by omega)]; rfl
    | 2, _ => rw [if_neg (by omega), if_pos (by omega)]; rfl
    | 3, _ => rw [if_pos (by omega)]; rfl
  · rw [if_neg (by omega), if_neg (by omega), if_neg (by omega), if_neg (by omega), if_neg e]
    exact hcj

def CloV (w : World) (n : Nat) (xs : Nat → JC) (e : Ending) (w' : World) : Prop := ∃ a c, e = .returned (.slice a n c) ∧ Below w.heap.size w w' ∧ (0 < n → ∃ g, w.heap.size ≤ g ∧ a = some ⟨g, 0, none⟩ ∧ RowV w' g n xs)
set_option maxHeartbeats 4000000 in
theorem cloneV_any (w : World) (ao : Option Addr) (n cap : Nat) (xs : Nat → JC) (hc : ∀ i, i < n → ∃ b off, ao = some ⟨b, off, none⟩ ∧ ∀ r, r < 4 → w.cell? ⟨b, off + (i * 4 + r), none⟩ = (vcell (xs i))[r]?) (hsl : ∀ i, i < n → IsSl (xs i).2.2.1 ∧ IsSl (xs i).2.2.2) (hl : n ≤ 1000000) :
    Calls Tryz.prog 74 #[.slice ao n cap] w (CloV w n xs) := by
  cases ao with
  | none =>
    obtain rfl : n = 0 := by
      rcases n with _ | n
      · rfl
      · obtain ⟨b, off, e, _⟩ := hc 0 (by omega)
        cases e
    have heq := nilV_eq w none 0 cap
    simp only [Option.isNone_none] at heq
    clear hc hsl hl
    go_enter Tryz.func74, Tryz.ntmps74
    go_wp2
    go_ret
    exact ⟨none, 0, rfl, Below.refl _ _, fun h => by omega⟩
  | some a =>
    obtain ⟨i0, hi, hz0, hz1, hz2⟩ := info_parts infoJV
    have heq : ∀ (W : World) (n c : Nat), (binOp .eql 25 (.slice (some a) n c) (.slice none 0 0)).run Tryz.prog W = .ok (.bool false) W := fun W n c => nilV_eq W (some a) n c
    have hb0 := bel w (.cells #[] 27)
    obtain ⟨M, hM⟩ : ∃ M, (List.range n).map xs = M := ⟨_, rfl⟩
    have hMl : M.length = n := by rw [← hM]; simp
    have hMi : ∀ i, i < n → M[i]? = some (xs i) := fun i hi => by rw [← hM]; simp [hi]
    have hcell : ∀ j u, (vcells M)[j]? = some u → (w.alloc (.cells #[] 27)).cell? (a.add j) = some u := fun j u hj => by
      have hjl := (List.getElem?_eq_some_iff.1 hj).1
      rw [vcells_length, hMl] at hjl
      obtain ⟨b, off, e, hx⟩ := hc (j / 4) (by omega)
      cases e
      have h0 := hx (j % 4) (by omega)
      rw [← vcells_get M (j / 4) _ (j % 4) (hMi _ (by omega)) (by omega), show j / 4 * 4 + j % 4 = j by omega, hj] at h0
      rw [addr_plus]
      exact (hb0.cell (p := ⟨b, off + j, none⟩) (block_lt h0)).trans h0
    have hone : ∀ u ∈ vcells M, u.oneCell' = true := fun u hu => by
      unfold vcells at hu
      obtain ⟨x, hx, hu⟩ := List.mem_flatMap.1 hu
      rw [← hM] at hx
      obtain ⟨i, hi, rfl⟩ := List.mem_map.1 hx
      obtain ⟨⟨_, _, _, e2⟩, ⟨_, _, _, e3⟩⟩ := hsl i (List.mem_range.1 hi)
      simp only [vcell, List.mem_cons, List.not_mem_nil, or_false] at hu
      rcases hu with rfl | rfl | rfl | rfl
      · rfl
      · rfl
      · rw [e2]; rfl
      · rw [e3]; rfl
    have hlen : (vcells M).length = n * 4 := by rw [vcells_length, hMl]
    obtain ⟨cs, hcs⟩ : ∃ cs, vcells M = cs := ⟨_, rfl⟩
    have hget : ∀ i, i < n → ∀ r, r < 4 → cs[i * 4 + r]? = (vcell (xs i))[r]? := fun i hi r hr => by
      rw [← hcs]
      exact vcells_get M i _ r (hMi i hi) hr
    rw [hcs] at hcell hone hlen
    have HB := hide hb0
    have HO := hide (own_noneV w)
    have HC := hide hcell
    have H1 := hide hone
    have HL := hide hlen
    have HLL := hide hl
    have HG := hide hget
    clear hb0 hcell hone hlen hl hcs hc hsl hM hMl hMi hget
    go_enter Tryz.func74, Tryz.ntmps74
    go_wp2_with (at_builtin; go_must (refine wpList_append_own _ rfl (.tmp 5) (.tmp 6) 25 rfl w.heap.size 27 i0 (.agg #[.int .i64 0, .string ⟨#[]⟩, .slice none 0 0, .slice none 0 0]) 4 72 Tryz.underlying25 hi hz0 hz1 hz2 rfl (by decide) _ 0 [] rfl HO.out a n cap cs rfl HL.out HC.out H1.out (by have := HLL.out; unfold maxLen; omega) (by have := HLL.out; omega) (by simp) ?_; intro v' w2 hown' hgrow hnil))
    have hb2 : Below w.heap.size w w2 := HB.out.grown hgrow (by simp) (fun j hj => by have := (World.ownsRow.lt HO.out j hj).1; omega)
    rw [Nat.zero_add, List.nil_append] at hown'
    obtain ⟨ya, yc, rfl, hrow⟩ : ∃ ya yc, v' = .slice ya n yc ∧ (0 < n → ∃ g, w.heap.size ≤ g ∧ ya = some ⟨g, 0, none⟩ ∧ RowV w2 g n xs) := by
      rcases hown'.2 with ⟨rfl, h0⟩ | ⟨g, c2, cur, rfl, hg, hh, hn, hm, hsz, ht⟩
      · exact ⟨none, 0, by rw [h0], fun h => by omega⟩
      · refine ⟨_, _, rfl, fun _ => ⟨g, hg, rfl, cur, hh, fun i hi r hr => ?_⟩⟩
        have h1 : cs[i * 4 + r]? = cur[i * 4 + r]? := by
          rw [← ht, List.getElem?_take, if_pos (by omega)]
          simp
        rw [← h1]
        exact HG.out i hi r hr
    have HB2 := hide hb2
    have HR2 := hide hrow
    clear hb2 hown' hgrow hnil hrow
    go_wp2
    go_ret
    exact ⟨ya, yc, rfl, HB2.out, HR2.out⟩

mutual
/-- What a copy leaves of a tree. -/
def clJ : JT → JT
  | .mk k s K L => .mk k (sP k s) (kP k K) (if k = 5 ∨ k = 6 then clJs L else [])
def clJs : List JT → List JT
  | [] => []
  | a :: l => clJ a :: clJs l
end
theorem clJs_length : ∀ L : List JT, (clJs L).length = L.length
  | [] => by rw [clJs]
  | a :: l => by rw [clJs, List.length_cons, List.length_cons, clJs_length l]
theorem clJs_get : ∀ (L : List JT) (i : Nat), (clJs L)[i]? = (L[i]?).map clJ
  | [], i => by rw [clJs]; simp
  | a :: l, 0 => by rw [clJs]; simp
  | a :: l, i + 1 => by rw [clJs, List.getElem?_cons_succ, List.getElem?_cons_succ, clJs_get l i]
theorem clJ_eq (k : Int) (s : ByteArray) (K : List ByteArray) (L : List JT) : clJ (.mk k s K L) = .mk k (sP k s) (kP k K) (clJs (lP k L)) := by
  rw [clJ]
  unfold lP
  split
  · rfl
  · rw [clJs]
theorem parts_idem (k : Int) (s : ByteArray) (K : List ByteArray) (L : List JT) : sP k (sP k s) = sP k s ∧ kP k (kP k K) = kP k K ∧ lP k (lP k L) = lP k L := by
  unfold sP kP lP
  refine ⟨?_, ?_, ?_⟩ <;> split <;> simp_all
mutual
theorem eqJ_clone : ∀ T : JT, eqJ (clJ T) T = true
  | .mk k s K L => by
    rw [clJ_eq, eqJ_by]
    obtain ⟨h1, h2, _⟩ := parts_idem k s K L
    refine ⟨rfl, h1, h2, ?_⟩
    unfold lP
    split
    · exact eqJs_clone L
    · rfl
theorem eqJs_clone : ∀ L : List JT, eqJs (clJs L) L = true
  | [] => by rw [clJs]; rfl
  | a :: l => by rw [clJs, eqJs, eqJ_clone a, eqJs_clone l]; rfl
end
theorem LtT.clone {T : JT} (h : LtT T) : LtT (clJ T) := by
  induction h with
  | mk k s K L hK hL hs ht ih =>
    rw [clJ_eq]
    refine .mk k _ _ _ ?_ ?_ ?_ fun i hi => ?_
    · unfold kP; split
      · exact hK
      · simp
    · rw [clJs_length]; unfold lP; split
      · exact hL
      · simp
    · intro h3; have := hs h3; unfold sP; split
      · exact this
      · exact Nat.zero_le _
    · rw [clJs_length] at hi
      have hiL : i < L.length ∧ lP k L = L := by
        unfold lP at hi ⊢
        split at hi
        · rename_i h; rw [if_pos h]; exact ⟨hi, rfl⟩
        · simp at hi
      have hg : (clJs (lP k L))[i]? = (L[i]?).map clJ := by rw [clJs_get, hiL.2]
      rw [List.getElem?_eq_getElem (by rw [clJs_length]; exact hi), List.getElem?_eq_getElem hiL.1, Option.map_some, Option.some.injEq] at hg
      rw [hg]
      exact ih i hiL.1

end Go.Proofs.YtbdpmpepmjpadaaGreatDoor

namespace Go.Proofs.YtbdpmpepmjpadaaGreatDoor
set_option linter.unusedVariables false
set_option linter.unusedSimpArgs false
set_option maxRecDepth 100000
open Go Go.RowKit Go.Shelf Go.Lib

/-- A copy under way: so many parts are copied already. -/
structure CloJ (w W : World) (k : Int) (s : ByteArray) (kv : Value) (la : Option Addr) (lc g n i : Nat) (ys xs : Nat → JC) (K : List ByteArray) (L : List JT) : Prop where
  box : BoxC W w.heap.size 27 #[.int .i64 k, .string s, kv, .slice la n lc]
  res : BoxC W (w.heap.size + 1) 27 #[.int .i64 0, .string ⟨#[]⟩, .slice none 0 0, .slice none 0 0]
  low : Below w.heap.size w W
  keys : StrsS W (fun b => w.heap.size + 2 ≤ b ∧ b ≠ g) kv K
  row : 0 < n → la = some ⟨g, 0, none⟩ ∧ w.heap.size + 2 ≤ g ∧ RowV W g n ys
  old : ∀ j, i ≤ j → j < n → ys j = xs j
  new : ∀ (j : Nat) (T : JT), j < i → L[j]? = some T → TIn W (fun b => w.heap.size + 2 ≤ b ∧ b ≠ g) (ys j) (clJ T)
theorem CloJ.below {w W W' : World} {k : Int} {s : ByteArray} {kv : Value} {la : Option Addr} {lc g n i : Nat} {ys xs : Nat → JC} {K : List ByteArray} {L : List JT} (h : CloJ w W k s kv la lc g n i ys xs K L) (hb : Below W.heap.size W W') : CloJ w W' k s kv la lc g n i ys xs K L :=
  ⟨h.box.below hb, h.res.below hb, h.low.trans (hb.mono h.low.size), h.keys.keep (fun b hs hlt => ⟨hs, hb.block b hlt⟩), fun hn => ⟨(h.row hn).1, (h.row hn).2.1, (h.row hn).2.2.below hb⟩, h.old, fun j T hj hT => (h.new j T hj hT).bel hb⟩
theorem CloJ.put {w W W' : World} {k : Int} {s : ByteArray} {kv : Value} {la : Option Addr} {lc g n i : Nat} {ys xs : Nat → JC} {K : List ByteArray} {L : List JT} {y : JC} {T : JT} (h : CloJ w W k s kv la lc g n i ys xs K L) (hi : i < n) (hb : Below W.heap.size W W') (hT : L[i]? = some T) (hy : TIn W' (fun b => W.heap.size ≤ b) y (clJ T)) :
    CloJ w ((((W'.setCell ⟨g, i * 4, none⟩ (.int .i64 y.1)).setCell ⟨g, i * 4 + 1, none⟩ (.string y.2.1)).setCell ⟨g, i * 4 + 2, none⟩ y.2.2.1).setCell ⟨g, i * 4 + 3, none⟩ y.2.2.2) k s kv la lc g n (i + 1) (fun j => if j = i then y else ys j) xs K L := by
  have hlow := h.low.size
  obtain ⟨_, hg, hrow⟩ := h.row (by omega)
  have hgW := hrow.lt
  have hbox := h.box.lt
  have h' := h.below hb
  have hk : ∀ b, b ≠ g → ((((W'.setCell ⟨g, i * 4, none⟩ (.int .i64 y.1)).setCell ⟨g, i * 4 + 1, none⟩ (.string y.2.1)).setCell ⟨g, i * 4 + 2, none⟩ y.2.2.1).setCell ⟨g, i * 4 + 3, none⟩ y.2.2.2).heap[b]? = W'.heap[b]? := fun b hb => by
    rw [Below.heap_setCell _ ⟨g, i * 4 + 3, none⟩ _ b hb, Below.heap_setCell _ ⟨g, i * 4 + 2, none⟩ _ b hb, Below.heap_setCell _ ⟨g, i * 4 + 1, none⟩ _ b hb, Below.heap_setCell _ ⟨g, i * 4, none⟩ _ b hb]
  refine ⟨(((h'.box.other (by omega) _ _).other (by omega) _ _).other (by omega) _ _).other (by omega) _ _, (((h'.res.other (by omega) _ _).other (by omega) _ _).other (by omega) _ _).other (by omega) _ _,
    (((h'.low.setCell (p := ⟨g, i * 4, none⟩) (by show w.heap.size ≤ g; omega) _).setCell (p := ⟨g, i * 4 + 1, none⟩) (by show w.heap.size ≤ g; omega) _).setCell (p := ⟨g, i * 4 + 2, none⟩) (by show w.heap.size ≤ g; omega) _).setCell (p := ⟨g, i * 4 + 3, none⟩) (by show w.heap.size ≤ g; omega) _,
    h'.keys.keep (fun b hs _ => ⟨hs, hk b hs.2⟩), fun hn => ⟨(h'.row hn).1, hg, (h'.row hn).2.2.put hi y⟩, fun j h1 h2 => ?_, fun j T' hj hT' => ?_⟩
  · show (if j = i then y else ys j) = xs j
    rw [if_neg (by omega)]
    exact h.old j (by omega) h2
  · show TIn _ _ (if j = i then y else ys j) _
    by_cases e : j = i
    · subst e
      rw [if_pos rfl]
      rw [hT] at hT'
      cases hT'
      refine hy.keep fun b hs _ => ?_
      have hb2 : W.heap.size ≤ b := hs
      exact ⟨⟨by omega, by omega⟩, hk b (by omega)⟩
    · rw [if_neg e]
      exact (h'.new j T' (by omega) hT').keep fun b hs _ => ⟨hs, hk b hs.2⟩
theorem CloJ.tree {w W : World} {k : Int} {s : ByteArray} {kv : Value} {la : Option Addr} {lc g n : Nat} {ys xs : Nat → JC} {K : List ByteArray} {L : List JT} (h : CloJ w W k s kv la lc g n n ys xs K L) (hn : L.length = n) (x' y' z' u' : Value) :
    TIn ((((W.setCell ⟨w.heap.size + 1, 0, none⟩ x').setCell ⟨w.heap.size + 1, 1, none⟩ y').setCell ⟨w.heap.size + 1, 2, none⟩ z').setCell ⟨w.heap.size + 1, 3, none⟩ u') (fun b => w.heap.size ≤ b) (k, s, kv, .slice la n lc) (.mk k s K (clJs L)) := by
  have hk : ∀ b, b ≠ w.heap.size + 1 → ((((W.setCell ⟨w.heap.size + 1, 0, none⟩ x').setCell ⟨w.heap.size + 1, 1, none⟩ y').setCell ⟨w.heap.size + 1, 2, none⟩ z').setCell ⟨w.heap.size + 1, 3, none⟩ u').heap[b]? = W.heap[b]? := fun b hb => by
    rw [Below.heap_setCell _ ⟨w.heap.size + 1, 3, none⟩ u' b hb, Below.heap_setCell _ ⟨w.heap.size + 1, 2, none⟩ z' b hb, Below.heap_setCell _ ⟨w.heap.size + 1, 1, none⟩ y' b hb, Below.heap_setCell _ ⟨w.heap.size + 1, 0, none⟩ x' b hb]
  generalize ((((W.setCell ⟨w.heap.size + 1, 0, none⟩ x').setCell ⟨w.heap.size + 1, 1, none⟩ y').setCell ⟨w.heap.size + 1, 2, none⟩ z').setCell ⟨w.heap.size + 1, 3, none⟩ u') = W' at *
  have hcl : (clJs L).length = n := by rw [clJs_length, hn]
  have hget : ∀ i (h : i < (clJs L).length), (clJs L)[i] = clJ (L[i]'(by rw [clJs_length] at h; exact h)) := fun i h => by
    have e := clJs_get L i
    rw [List.getElem?_eq_getElem h, List.getElem?_eq_getElem (by rw [clJs_length] at h; exact h), Option.map_some, Option.some.injEq] at e
    exact e
  have hnew : ∀ i (h : i < (clJs L).length), TIn W (fun b => w.heap.size + 2 ≤ b ∧ b ≠ g) (ys i) ((clJs L)[i]) := fun i hi => by
    rw [hget i hi]
    exact h.new i _ (by omega) (List.getElem?_eq_getElem (by rw [clJs_length] at hi; exact hi))
  rw [← hcl]
  refine .mk k s kv la lc K (clJs L) ys (h.keys.keep fun b hs _ => ⟨by show w.heap.size ≤ b; have := hs.1; omega, hk b (by have := hs.1; omega)⟩) (fun i hi => ?_) (fun i hi => (hnew i hi).sl) (fun i hi => (hnew i hi).keep fun b hs _ => ⟨by show w.heap.size ≤ b; have := hs.1; omega, hk b (by have := hs.1; omega)⟩)
  obtain ⟨e, hg, hrow⟩ := h.row (by omega)
  refine ⟨g, 0, e, by show w.heap.size ≤ g; omega, fun r hr => ?_⟩
  rw [Nat.zero_add]
  exact (World.cell?_of_block (a := ⟨g, i * 4 + r, none⟩) (hk g (by omega))).trans (hrow.cell (by omega) hr)

/-- What clone answers. -/
def CloneR (w : World) (T : JT) (e : Ending) (w' : World) : Prop := ∃ y : JC, e = .returned (vagg y) ∧ Below w.heap.size w w' ∧ TIn w' (fun b => w.heap.size ≤ b) y T

set_option maxHeartbeats 16000000 in
theorem clone_any {W : World} {S : Nat → Prop} {x : JC} {T : JT} (h : TIn W S x T) (hl : LtT T) : ∀ (w : World), Below W.heap.size W w → Calls Tryz.prog 51 #[vagg x] w (CloneR w (clJ T)) := by
  induction h with
  | mk k s kv la lc K L xs hK hc hsl ht ih =>
    intro w hW
    obtain ⟨_, _, _, _, hKl, hLl, hsz, hll⟩ := hl
    obtain ⟨ka, kc, rfl, hKc⟩ := hK
    have hKS : StrsS W S (.slice ka K.length kc) K := ⟨ka, kc, rfl, hKc⟩
    obtain ⟨a1, c1, a2, c2, hpe, hPK, hPL⟩ := plain_parts (W := W) (S := S) k s (K := K) (L := L) (ka := ka) (la := la) (kc := kc) (lc := lc) hKS
    have HCP := hide (fun W' => plain_any W' k s ka la K.length kc L.length lc)
    unfold PlainR at HCP
    rw [hpe] at HCP
    have hkl : (kP k K).length ≤ 1000000 := by unfold kP; split; omega; simp
    have hnl : (lP k L).length ≤ 1000000 := by unfold lP; split; omega; simp
    have HCS := hide (fun W' (hb : Below W.heap.size W W') => cloneS_any W' (hPK.keep (W' := W') (S' := S) (fun b hs hlt => ⟨hs, hb.block b hlt⟩)) hkl)
    have HCV := hide (fun W' (hb : Below W.heap.size W W') => cloneV_any W' a2 (lP k L).length c2 xs (fun i hi => by
      obtain ⟨h1, h2, h3⟩ := hPL i hi
      obtain ⟨b, off, e, _, hx⟩ := hc i h1
      refine ⟨b, off, h3.trans e, fun r hr => ?_⟩
      have h0 := hx 0 (by omega)
      simp only [vcell, List.getElem?_cons_zero] at h0
      exact (hb.cell (p := ⟨b, off + (i * 4 + r), none⟩) (block_lt h0)).trans (hx r hr)) (fun i hi => hsl i (hPL i hi).1) hnl)
    have HIH := hide (fun i (hi : i < (lP k L).length) W' (hb : Below W.heap.size W W') (T : JT) (hT : (lP k L)[i]? = some T) => (by
      obtain ⟨h1, h2, h3⟩ := hPL i hi
      rw [h2, List.getElem?_eq_getElem h1] at hT
      cases hT
      exact ih i h1 (hll i h1) W' hb : Calls Tryz.prog 51 #[vagg (xs i)] W' (CloneR W' (clJ T))))
    have HSL := hide (fun i (hi : i < (lP k L).length) => hsl i (hPL i hi).1)
    have HCE := hide (clJ_eq k s K L)
    rw [HCE.out]
    have HNL := hide hnl
    generalize hs1 : sP k s = s1 at *
    generalize hk1 : kP k K = K1 at *
    generalize hl1 : lP k L = L1 at *
    obtain ⟨kn, hkn⟩ : ∃ kn, K1.length = kn := ⟨_, rfl⟩
    obtain ⟨n, hn⟩ : ∃ n, L1.length = n := ⟨_, rfl⟩
    rw [hn] at HCV HNL HIH HSL HCP
    rw [hkn] at HCP HCS
    have HKN := hide hkn
    have HN := hide hn
    have HW := hide hW
    clear hs1 hk1 hl1 hKS hPK hPL hpe hKc hc hsl ht ih hll hsz hKl hLl hkl hnl hkn hn HCE hW
    generalize K.length = k0 at *
    generalize L.length = l0 at *
    unfold vagg at HCP ⊢
    simp only at HCP ⊢
    have hb : Below w.heap.size w ((w.alloc (.cells #[.int .i64 k, .string s, .slice ka k0 kc, .slice la l0 lc] 27)).alloc (.cells #[.int .i64 0, .string ⟨#[]⟩, .slice none 0 0, .slice none 0 0] 27)) := (bel w _).alloc (by simp) _
    have hp := (BoxC.new w 27 #[.int .i64 k, .string s, .slice ka k0 kc, .slice la l0 lc]).alloc (.cells #[.int .i64 0, .string ⟨#[]⟩, .slice none 0 0, .slice none 0 0] 27)
    have hq := BoxC.new (w.alloc (.cells #[.int .i64 k, .string s, .slice ka k0 kc, .slice la l0 lc] 27)) 27 #[.int .i64 0, .string ⟨#[]⟩, .slice none 0 0, .slice none 0 0]
    rw [World.size_alloc] at hq
    generalize hw0 : (w.alloc (.cells #[.int .i64 k, .string s, .slice ka k0 kc, .slice la l0 lc] 27)).alloc (.cells #[.int .i64 0, .string ⟨#[]⟩, .slice none 0 0, .slice none 0 0] 27) = w0 at *
    have p0 : w0.cell? ⟨w.heap.size, 0, none⟩ = some (.int .i64 k) := hp.cell 0
    have p1 : w0.cell? ⟨w.heap.size, 1, none⟩ = some (.string s) := hp.cell 1
    have p2 : w0.cell? ⟨w.heap.size, 2, none⟩ = some (.slice ka k0 kc) := hp.cell 2
    have p3 : w0.cell? ⟨w.heap.size, 3, none⟩ = some (.slice la l0 lc) := hp.cell 3
    have lp := hp.lt
    have HW0 := hide hw0
    have HP := hide hp
    have HQ := hide hq
    have HB := hide hb
    clear hw0 hp hq hb
    go_enter Tryz.func51, Tryz.ntmps51
    go_upto_region 1 with fail
    rw [HW0.out]
    clear HW0
    go_wp2_with fail
    refine (HCP.out _).mono ?_
    rintro e w1 ⟨rfl, hB1⟩
    have HP1 := hide (resJ_v (HP.out.below hB1) (.int .i64 k) (.string s1) (.slice a1 kn c1) (.slice a2 n c2))
    have HQ1 := hide (box_off4 (HQ.out.below hB1) (show w.heap.size + 1 ≠ w.heap.size by omega) (.int .i64 k) (.string s1) (.slice a1 kn c1) (.slice a2 n c2))
    have HB1 := hide (below4 (HB.out.trans (hB1.mono HB.out.size)) (Nat.le_refl _) (.int .i64 k) (.string s1) (.slice a1 kn c1) (.slice a2 n c2))
    have hp1 := HP.out.below hB1
    have f0 := hp1.frozen 0
    have f1 := hp1.frozen 1
    have f2 := hp1.frozen 2
    have f3 := hp1.frozen 3
    have c0 : w1.cell? ⟨w.heap.size, 0, none⟩ = some (.int .i64 k) := hp1.cell 0
    have c1' : w1.cell? ⟨w.heap.size, 1, none⟩ = some (.string s) := hp1.cell 1
    have c2' : w1.cell? ⟨w.heap.size, 2, none⟩ = some (.slice ka k0 kc) := hp1.cell 2
    have c3 : w1.cell? ⟨w.heap.size, 3, none⟩ = some (.slice la l0 lc) := hp1.cell 3
    have lp1 := hp1.lt
    clear hB1 hp1 p0 p1 p2 p3 lp HCP
    go_upto_region 2 with fail
    generalize (((w1.setCell ⟨w.heap.size, 0, none⟩ (.int .i64 k)).setCell ⟨w.heap.size, 1, none⟩ (.string s1)).setCell ⟨w.heap.size, 2, none⟩ (.slice a1 kn c1)).setCell ⟨w.heap.size, 3, none⟩ (.slice a2 n c2) = w2 at *
    clear c0 c1' c2' c3 f0 f1 f2 f3 lp1
    have q2 : w2.cell? ⟨w.heap.size, 2, none⟩ = some (.slice a1 kn c1) := HP1.out.cell 2
    have HCS2 := hide (HCS.out w2 (HW.out.trans (HB1.out.mono HW.out.size)))
    clear HCS
    go_wp2_with fail
    refine HCS2.out.mono ?_
    rintro e w3 ⟨b1, d1, rfl, hB3, hK3⟩
    rw [HKN.out] at hK3 ⊢
    have HP2 : Hid (BoxC (w3.setCell ⟨w.heap.size, 2, none⟩ (.slice b1 kn d1)) w.heap.size 27 #[.int .i64 k, .string s1, .slice b1 kn d1, .slice a2 n c2]) := (HP1.out.below hB3).set 2 _
    have HQ2 := hide ((HQ1.out.below hB3).other (show w.heap.size + 1 ≠ w.heap.size by omega) 2 (.slice b1 kn d1))
    have HB2 := hide ((HB1.out.trans (hB3.mono HB1.out.size)).setCell (p := ⟨w.heap.size, 2, none⟩) (Nat.le_refl _) (.slice b1 kn d1))
    have hq1l := HQ1.out.lt
    have HK2 : Hid (StrsS (w3.setCell ⟨w.heap.size, 2, none⟩ (.slice b1 kn d1)) (fun b => w.heap.size + 2 ≤ b) (.slice b1 kn d1) K1) := hK3.keep fun b hs _ => by
      have hs' : w2.heap.size ≤ b := hs
      exact ⟨by show w.heap.size + 2 ≤ b; omega, Below.heap_setCell _ ⟨w.heap.size, 2, none⟩ _ b (by show b ≠ w.heap.size; omega)⟩
    have hp3 := HP1.out.below hB3
    have g2 := hp3.frozen 2
    have c2' : w3.cell? ⟨w.heap.size, 2, none⟩ = some (.slice a1 kn c1) := hp3.cell 2
    have l2 := hp3.lt
    clear hB3 hK3 hp3 q2 hq1l HCS2
    go_upto_region 3 with fail
    generalize w3.setCell ⟨w.heap.size, 2, none⟩ (.slice b1 kn d1) = w4 at *
    clear c2' g2 l2
    have q3 : w4.cell? ⟨w.heap.size, 3, none⟩ = some (.slice a2 n c2) := HP2.out.cell 3
    have HCV4 := hide (HCV.out w4 (HW.out.trans (HB2.out.mono HW.out.size)))
    clear HCV
    go_wp2_with fail
    refine HCV4.out.mono ?_
    rintro e w5 ⟨ra, cc, rfl, hB5, hrow⟩
    have hp5 := HP2.out.below hB5
    have g3 := hp5.frozen 3
    have c3 : w5.cell? ⟨w.heap.size, 3, none⟩ = some (.slice a2 n c2) := hp5.cell 3
    have l3 := hp5.lt
    obtain ⟨g, hg⟩ : ∃ g, CloJ w (w5.setCell ⟨w.heap.size, 3, none⟩ (.slice ra n cc)) k s1 (.slice b1 kn d1) ra cc g n 0 xs xs K1 L1 := by
      have hq4 := HQ2.out.lt
      obtain ⟨g, hge, hro⟩ : ∃ g, w4.heap.size ≤ g ∧ (0 < n → ra = some ⟨g, 0, none⟩ ∧ RowV w5 g n xs) := by
        rcases Nat.eq_zero_or_pos n with h0 | h0
        · exact ⟨w4.heap.size, Nat.le_refl _, fun h => by omega⟩
        · obtain ⟨g, h1, h2, h3⟩ := hrow h0
          exact ⟨g, h1, fun _ => ⟨h2, h3⟩⟩
      refine ⟨g, hp5.set 3 _, (HQ2.out.below hB5).other (by omega) 3 _, (HB2.out.trans (hB5.mono HB2.out.size)).setCell (p := ⟨w.heap.size, 3, none⟩) (Nat.le_refl _) _, HK2.out.keep fun b hs hlt => ⟨⟨hs, by omega⟩, ?_⟩, fun h => ⟨(hro h).1, by omega, (hro h).2.other (by omega)⟩, fun _ _ _ => rfl, fun j T hj _ => by omega⟩
      have hs' : w.heap.size + 2 ≤ b := hs
      rw [Below.heap_setCell _ ⟨w.heap.size, 3, none⟩ _ b (by show b ≠ w.heap.size; omega)]
      exact hB5.block b hlt
    have HG := hide hg
    clear hB5 hp5 q3 hrow hg HP2 HQ2 HB2 HK2 HP1 HQ1 HB1 HCV4
    go_upto_region 4 with fail
    generalize w5.setCell ⟨w.heap.size, 3, none⟩ (.slice ra n cc) = w6 at *
    clear c3 g3 l3
    have r3 : w6.cell? ⟨w.heap.size, 3, none⟩ = some (.slice ra n cc) := HG.out.box.cell 3
    go_wp2
    go_loopw [18] (fun iv wr => ∃ (i : Nat) (ys : Nat → JC), i ≤ n ∧ iv = .int .i64 (i : Int) ∧ CloJ w wr k s1 (.slice b1 kn d1) ra cc g n i ys xs K1 L1) (fun iv _ => n - (RowKit.intOf iv).toNat)
    case atStart => exact ⟨0, xs, Nat.zero_le _, rfl, HG.out⟩
    case round =>
      obtain ⟨i, ys, hi, rfl, hm⟩ := hrel
      clear HG r3
      by_cases hlt : i < n
      · have d2 : (i : Int) < (n : Int) := by omega
        have d0 : (0 : Int) ≤ (i : Int) := by omega
        obtain ⟨rfl, hge, hro⟩ := hm.row (by omega)
        have hyi := hm.old i (Nat.le_refl _) hlt
        obtain ⟨hs2, hs3⟩ := HSL.out i hlt
        obtain ⟨Ti, hTi⟩ : ∃ Ti, L1[i]? = some Ti := ⟨L1[i]'(by have := HN.out; omega), List.getElem?_eq_getElem _⟩
        have HCALL := hide (fun w2 (h2 : Below w.heap.size w w2) => HIH.out i hlt w2 (HW.out.trans (h2.mono HW.out.size)) Ti hTi)
        have hcl := fun r (hr : r < 4) => hro.cell hlt hr
        rw [hyi] at hcl
        have hsl2 := hm.low.size
        generalize xs i = y at *
        obtain ⟨yk, ys', yK, yL⟩ := y
        simp only [vcell] at hcl hs2 hs3
        obtain ⟨ka', kl', kc', rfl⟩ := hs2
        obtain ⟨la', ll', lc', rfl⟩ := hs3
        unfold vagg at HCALL
        simp only at HCALL
        have x0 := hcl 0 (by omega)
        have x1 := hcl 1 (by omega)
        have x2 := hcl 2 (by omega)
        have x3 := hcl 3 (by omega)
        simp only [List.getElem?_cons_zero, List.getElem?_cons_succ, Nat.add_zero] at x0 x1 x2 x3
        obtain ⟨i1, hi1⟩ : ∃ i1, i + 1 = i1 := ⟨_, rfl⟩
        have e1 : (i : Int) + 1 = (i1 : Int) := by omega
        have g1 : (i1 : Int) ≤ 1000000000 := by have := HNL.out; omega
        have hnb := bel wr (.cells #[.int .i64 yk, .string ys', .slice ka' kl' kc', .slice la' ll' lc'] 27)
        have hnx := BoxC.new wr 27 #[.int .i64 yk, .string ys', .slice ka' kl' kc', .slice la' ll' lc']
        have HI1 := hide hi1
        have HIL := hide hlt
        have HTI := hide hTi
        have HM := hide (hm.below hnb)
        have HGE := hide hge
        have hgp := hro.lt
        have HGP := hide hgp
        generalize hPB : wr.heap.size = PB at *
        clear hm hlt hi hi1 hTi hyi hcl hro hge hnb hgp
        go_upto_region 7 with fail
        generalize hwp : wr.alloc (.cells #[.int .i64 yk, .string ys', .slice ka' kl' kc', .slice la' ll' lc'] 27) = w7 at *
        have HNX := hide hnx
        clear hnx hwp x0 x1 x2 x3
        have HSX : Hid (∀ X0 : World, Below w7.heap.size w7 X0 → (X0.cell? ⟨w.heap.size, 3, none⟩ = some (.slice (some ⟨g, 0, none⟩) n cc) ∧ X0.cell? ⟨PB, 0, none⟩ = some (.int .i64 yk) ∧ X0.cell? ⟨PB, 1, none⟩ = some (.string ys') ∧ X0.cell? ⟨PB, 2, none⟩ = some (.slice ka' kl' kc') ∧ X0.cell? ⟨PB, 3, none⟩ = some (.slice la' ll' lc'))) := fun X0 h => ⟨(HM.out.box.below h).cell 3, (HNX.out.below h).cell 0, (HNX.out.below h).cell 1, (HNX.out.below h).cell 2, (HNX.out.below h).cell 3⟩
        refine wp_region_held_drew (S := fun X0 : World => X0.cell? ⟨w.heap.size, 3, none⟩ = some (.slice (some ⟨g, 0, none⟩) n cc) ∧ X0.cell? ⟨PB, 0, none⟩ = some (.int .i64 yk) ∧ X0.cell? ⟨PB, 1, none⟩ = some (.string ys') ∧ X0.cell? ⟨PB, 2, none⟩ = some (.slice ka' kl' kc') ∧ X0.cell? ⟨PB, 3, none⟩ = some (.slice la' ll' lc')) (by kernel_rfl) (HSX.out _ (Below.refl _ _).drew) (fun hHeld => ?_)
        have HD : Hid (Below w7.heap.size w7 w7.drew) := (Below.refl _ _).drew
        generalize w7.drew = w8 at *
        refine takeD (i := 0) (v := ?v1) (some 23) rfl (by kernel_rfl) (by kernel_rfl) (by kernel_rfl) (fun _ _ _ h => h) (Or.inl ⟨by rfl, ?hy1⟩) (HSX.out _ HD.out) (by rfl) ?rest1
        case hy1 => first | (intro w hSw; (try dsimp only at hSw); obtain ⟨s0, s1, s2, s3, s4⟩ := hSw; go_simp; done) | (intro w hSw; (try dsimp only at hSw); obtain ⟨s0, s1, s2, s3, s4⟩ := hSw; go_simp; with_reducible rfl)
        try simp only [Act.put, List.setIfInBounds_toArray, List.set_cons_zero, List.set_cons_succ, vagg]
        refine takeD (i := 1) (v := ?v2) (some 24) rfl (by kernel_rfl) (by kernel_rfl) (by kernel_rfl) (fun _ _ _ h => h) (Or.inl ⟨by rfl, ?hy2⟩) (HSX.out _ HD.out) (by rfl) ?rest2
        case hy2 => first | (intro w hSw; (try dsimp only at hSw); obtain ⟨s0, s1, s2, s3, s4⟩ := hSw; go_simp; done) | (intro w hSw; (try dsimp only at hSw); obtain ⟨s0, s1, s2, s3, s4⟩ := hSw; go_simp; with_reducible rfl)
        try simp only [Act.put, List.setIfInBounds_toArray, List.set_cons_zero, List.set_cons_succ, vagg]
        refine takeD (i := 2) (v := ?v3) (some 25) rfl (by kernel_rfl) (by kernel_rfl) (by kernel_rfl) (fun _ _ _ h => h) (Or.inl ⟨by rfl, ?hy3⟩) (HSX.out _ HD.out) (by rfl) ?rest3
        case hy3 => first | (intro w hSw; (try dsimp only at hSw); obtain ⟨s0, s1, s2, s3, s4⟩ := hSw; go_simp; done) | (intro w hSw; (try dsimp only at hSw); obtain ⟨s0, s1, s2, s3, s4⟩ := hSw; go_simp; with_reducible rfl)
        try simp only [Act.put, List.setIfInBounds_toArray, List.set_cons_zero, List.set_cons_succ, vagg]
        refine takeD (i := 3) (v := ?v4) (some 26) rfl (by kernel_rfl) (by kernel_rfl) (by kernel_rfl) (fun _ _ _ h => h) (Or.inl ⟨by rfl, ?hy4⟩) (HSX.out _ HD.out) (by rfl) ?rest4
        case hy4 => first | (intro w hSw; (try dsimp only at hSw); obtain ⟨s0, s1, s2, s3, s4⟩ := hSw; go_simp; done) | (intro w hSw; (try dsimp only at hSw); obtain ⟨s0, s1, s2, s3, s4⟩ := hSw; go_simp; with_reducible rfl)
        try simp only [Act.put, List.setIfInBounds_toArray, List.set_cons_zero, List.set_cons_succ, vagg]
        refine wpAnyH_ready (rs := [4]) (by kernel_rfl) (by simp) ?_
        refine AllReadyH.cons rfl (fun K hK => ?_) AllReadyH.nil
        go_simp
        refine (HCALL.out w8 (HM.out.low.trans (HD.out.mono HM.out.low.size))).mono ?_
        rintro e w9 ⟨y', rfl, hB9, hT9⟩
        obtain ⟨yk9, ys9, yK9, yL9⟩ := y'
        have HD9 := hide (HD.out.trans (hB9.mono HD.out.size))
        have hput := (HM.out.below HD.out).put HIL.out hB9 HTI.out hT9
        have hm9 := HM.out.below HD9.out
        have hro9 := (hm9.row (by have := HIL.out; omega)).2.2
        have z0 := hro9.cell HIL.out (r := 0) (by omega)
        have z1 := hro9.cell HIL.out (r := 1) (by omega)
        have z2 := hro9.cell HIL.out (r := 2) (by omega)
        have z3 := hro9.cell HIL.out (r := 3) (by omega)
        simp only [vcell, List.getElem?_cons_zero, List.getElem?_cons_succ, Nat.add_zero] at z0 z1 z2 z3
        have j0 := hro9.frozen (i * 4)
        have j1 := hro9.frozen (i * 4 + 1)
        have j2 := hro9.frozen (i * 4 + 2)
        have j3 := hro9.frozen (i * 4 + 3)
        obtain ⟨hs4, hs5⟩ := hT9.sl
        simp only at hs4 hs5
        obtain ⟨pa, pn, pc, rfl⟩ := hs4
        obtain ⟨qa, qn, qc, rfl⟩ := hs5
        have HPUT := hide hput
        refine hK.out _ _ (HSX.out _ HD9.out) (fun _ => ?_)
        clear hK K hB9 hT9 hput hm9
        try simp only [Act.put, List.setIfInBounds_toArray, List.set_cons_zero, List.set_cons_succ, vagg]
        refine takeD (i := 5) (v := ?v5) (some 28) rfl (by kernel_rfl) (by kernel_rfl) (by kernel_rfl) (fun _ _ _ h => h) (Or.inl ⟨by rfl, ?hy5⟩) (HSX.out _ HD9.out) (by rfl) ?rest5
        case hy5 => first | (intro w hSw; (try dsimp only at hSw); obtain ⟨s0, s1, s2, s3, s4⟩ := hSw; go_simp; done) | (intro w hSw; (try dsimp only at hSw); obtain ⟨s0, s1, s2, s3, s4⟩ := hSw; go_simp; with_reducible rfl)
        try simp only [Act.put, List.setIfInBounds_toArray, List.set_cons_zero, List.set_cons_succ, vagg]
        refine wpAnyH_ready (rs := [6]) (by kernel_rfl) (by simp) ?_
        refine AllReadyH.cons rfl (fun K hK => ?_) AllReadyH.nil
        go_simp
        have HB6 : Hid (BoxC ((((w9.setCell ⟨g, i * 4, none⟩ (.int .i64 yk9)).setCell ⟨g, i * 4 + 1, none⟩ (.string ys9)).setCell ⟨g, i * 4 + 2, none⟩ (.slice pa pn pc)).setCell ⟨g, i * 4 + 3, none⟩ (.slice qa qn qc)) PB 27 #[.int .i64 yk, .string ys', .slice ka' kl' kc', .slice la' ll' lc']) := by
          have hne : PB ≠ g := by have := HGP.out; omega
          exact ((((HNX.out.below HD9.out).other hne _ _).other hne _ _).other hne _ _).other hne _ _
        refine hK.out _ _ ⟨HPUT.out.box.cell 3, HB6.out.cell 0, HB6.out.cell 1, HB6.out.cell 2, HB6.out.cell 3⟩ (fun _ => ?_)
        clear hK K
        try simp only [Act.put, List.setIfInBounds_toArray, List.set_cons_zero, List.set_cons_succ, vagg]
        refine wpAnyH_done (by kernel_rfl) ?_ _
        go_wp2
        go_roundw
        case rel => exact ⟨i1, _, by have := HIL.out; have := HI1.out; omega, by first | rfl | go_num, by rw [← HI1.out]; exact HPUT.out⟩
        case measure => have := HIL.out; have := HI1.out; simp [RowKit.intOf]; omega
      · obtain rfl : i = n := by omega
        have d2 : ¬ (i : Int) < (i : Int) := by omega
        have z0 := hm.box.cell 0
        have z1 := hm.box.cell 1
        have z2 := hm.box.cell 2
        have z3 := hm.box.cell 3
        have x0 := hm.res.cell 0
        have x1 := hm.res.cell 1
        have x2 := hm.res.cell 2
        have x3 := hm.res.cell 3
        simp only [List.getElem?_toArray, List.getElem?_cons_zero, List.getElem?_cons_succ] at z0 z1 z2 z3 x0 x1 x2 x3
        have y0 := hm.res.frozen 0
        have y1 := hm.res.frozen 1
        have y2 := hm.res.frozen 2
        have y3 := hm.res.frozen 3
        have lX := hm.res.lt
        have lV := hm.box.lt
        have HM := hide hm
        clear hlt hi hm
        go_wp2
        refine bodyPost_ret (results_jv rfl rfl (resJ_v HM.out.res (.int .i64 k) (.string s1) (.slice b1 kn d1) (.slice ra i cc))) rfl ?_
        exact ⟨(k, s1, .slice b1 kn d1, .slice ra i cc), rfl, below4 HM.out.low (Nat.le_succ _) _ _ _ _, HM.out.tree HN.out _ _ _ _⟩

end Go.Proofs.YtbdpmpepmjpadaaGreatDoor

namespace Go.Proofs.YtbdpmpepmjpadaaGreatDoor
set_option linter.unusedVariables false
set_option linter.unusedSimpArgs false
set_option maxRecDepth 100000
open Go Go.RowKit Go.Shelf Go.Lib

theorem byt_dig : ∀ x : Fin 256, decide ((0 : Int) ≤ indexByte digS (UInt8.ofNat x.val)) = decide (48 ≤ x.val ∧ x.val ≤ 57) := by decide +kernel
theorem byt_minus : ∀ x : Fin 256, decide ((0 : Int) ≤ indexByte [45] (UInt8.ofNat x.val)) = decide (x.val = 45) := by decide +kernel
theorem byt_zero : ∀ x : Fin 256, decide ((0 : Int) ≤ indexByte [48] (UInt8.ofNat x.val)) = decide (x.val = 48) := by decide +kernel
theorem byt_point : ∀ x : Fin 256, decide ((0 : Int) ≤ indexByte [46] (UInt8.ofNat x.val)) = decide (x.val = 46) := by decide +kernel
theorem byt_e : ∀ x : Fin 256, decide ((0 : Int) ≤ indexByte [101, 69] (UInt8.ofNat x.val)) = decide (x.val = 101 ∨ x.val = 69) := by decide +kernel
theorem nth_byt {T : List Nat} (hT : ∀ x ∈ T, x < 256) (p : Nat) : nth T p < 256 := by
  unfold nth
  rcases Nat.lt_or_ge p T.length with h | h
  · simp only [List.getElem?_eq_getElem h, Option.getD_some]
    exact hT _ (List.getElem_mem h)
  · simp [List.getElem?_eq_none h]
theorem has_dig {T : List Nat} (hT : ∀ x ∈ T, x < 256) (p : Nat) : hasB T p digS = decide (p < T.length ∧ 48 ≤ nth T p ∧ nth T p ≤ 57) := by
  have := byt_dig ⟨nth T p, nth_byt hT p⟩
  simp only at this
  unfold hasB
  rw [this]
  simp
theorem has_minus {T : List Nat} (hT : ∀ x ∈ T, x < 256) (p : Nat) : hasB T p [45] = decide (p < T.length ∧ nth T p = 45) := by
  have := byt_minus ⟨nth T p, nth_byt hT p⟩
  simp only at this
  unfold hasB
  rw [this]
  simp
theorem has_zero {T : List Nat} (hT : ∀ x ∈ T, x < 256) (p : Nat) : hasB T p [48] = decide (p < T.length ∧ nth T p = 48) := by
  have := byt_zero ⟨nth T p, nth_byt hT p⟩
  simp only at this
  unfold hasB
  rw [this]
  simp
theorem has_point {T : List Nat} (hT : ∀ x ∈ T, x < 256) (p : Nat) : hasB T p [46] = decide (p < T.length ∧ nth T p = 46) := by
  have := byt_point ⟨nth T p, nth_byt hT p⟩
  simp only at this
  unfold hasB
  rw [this]
  simp
theorem has_e {T : List Nat} (hT : ∀ x ∈ T, x < 256) (p : Nat) : hasB T p [101, 69] = decide (p < T.length ∧ (nth T p = 101 ∨ nth T p = 69)) := by
  have := byt_e ⟨nth T p, nth_byt hT p⟩
  simp only at this
  unfold hasB
  rw [this]
  simp

/-- What digits spell, behind a number. -/
def valT (acc : Nat) : List Nat → Option Nat
  | [] => some acc
  | c :: r => if 48 ≤ c ∧ c ≤ 57 then valT (acc * 10 + (c - 48)) r else none
/-- Is there a minus ahead? -/
def minusT (T : List Nat) : Bool := decide (0 < T.length ∧ nth T 0 = 45)
/-- What stands behind it. -/
def restT (T : List Nat) : List Nat := if minusT T then T.drop 1 else T
/-- A small whole number's text. -/
def smallT (T : List Nat) : Prop := 1 ≤ (restT T).length ∧ (restT T).length ≤ 9 ∧ ¬ (nth (restT T) 0 = 48 ∧ (1 < (restT T).length ∨ minusT T = true))
instance (T : List Nat) : Decidable (smallT T) := by unfold smallT; infer_instance
def intT (T : List Nat) : Option Int := if smallT T then (valT 0 (restT T)).map (fun u : Nat => if minusT T then -(u : Int) else (u : Int)) else none

theorem valT_all : ∀ (t : List Nat) (acc : Nat), (valT acc t).isSome = true ↔ ∀ p, p < t.length → 48 ≤ nth t p ∧ nth t p ≤ 57
  | [], acc => by simp [valT]
  | c :: r, acc => by
    unfold valT
    constructor
    · intro h p hp
      split at h
      · rename_i hc
        cases p with
        | zero => simpa [nth] using hc
        | succ p =>
          have := (valT_all r _).1 h p (by simpa using hp)
          simpa [nth] using this
      · simp at h
    · intro h
      have h0 := h 0 (by simp)
      simp [nth] at h0
      rw [if_pos h0]
      refine (valT_all r _).2 fun p hp => ?_
      have := h (p + 1) (by simpa using hp)
      simpa [nth] using this

theorem parse_val : ∀ (t : List Nat) (acc : Nat), (∀ x ∈ t, x < 256) → (acc + 1) * 10 ^ t.length ≤ 1000000000 → parseUint10 acc (t.map UInt8.ofNat) = (match valT acc t with | some u => NumEnd.ok u | none => NumEnd.syntax) ∧ ∀ u, valT acc t = some u → u < 1000000000
  | [], acc, _, h => by simp [parseUint10, valT] at h ⊢; omega
  | c :: r, acc, hT, h => by
    have hc : (UInt8.ofNat c).toNat = c := by
      have := hT c (by simp)
      simp; omega
    rw [List.length_cons, Nat.pow_succ] at h
    have hp : 1 ≤ 10 ^ r.length := Nat.one_le_pow _ _ (by decide)
    have hsm : acc + 1 ≤ 100000000 := by
      have : (acc + 1) * 10 ≤ (acc + 1) * (10 ^ r.length * 10) := Nat.mul_le_mul_left _ (by omega)
      omega
    simp only [List.map_cons, parseUint10, valT, hc]
    by_cases hd : 48 ≤ c ∧ c ≤ 57
    · rw [if_pos hd, if_pos hd, if_neg (by omega), if_neg (by omega)]
      refine parse_val r _ (fun x hx => hT x (by simp [hx])) ?_
      have h1 : acc * 10 + (c - 48) + 1 ≤ (acc + 1) * 10 := by omega
      have h2 := Nat.mul_le_mul_right (10 ^ r.length) h1
      have h3 : (acc + 1) * 10 * 10 ^ r.length = (acc + 1) * (10 ^ r.length * 10) := by rw [Nat.mul_assoc, Nat.mul_comm 10]
      omega
    · rw [if_neg hd, if_neg hd]
      simp

theorem restT_length (T : List Nat) : (restT T).length = T.length - (if minusT T then 1 else 0) ∧ ∀ p, nth (restT T) p = nth T (p + (if minusT T then 1 else 0)) := by
  unfold restT
  split
  · refine ⟨by simp, fun p => ?_⟩
    unfold nth
    rw [List.getElem?_drop]
    congr 2
    omega
  · exact ⟨by simp, fun p => rfl⟩
theorem minus_num1 {T : List Nat} (hT : ∀ x ∈ T, x < 256) : num1 T 0 = (if minusT T then 1 else 0) := by
  unfold num1 minusT
  rw [has_minus hT]
theorem rest_lt {T : List Nat} (hT : ∀ x ∈ T, x < 256) : ∀ x ∈ restT T, x < 256 := by
  intro x hx
  unfold restT at hx
  split at hx
  · exact hT x (List.mem_of_mem_drop hx)
  · exact hT x hx

/-- A text of digits is a number, as layer 4 spells one, just if no nought stands ahead. -/
theorem num_of_digits {T : List Nat} (hT : ∀ x ∈ T, x < 256) (hd : ∀ p, p < (restT T).length → 48 ≤ nth (restT T) p ∧ nth (restT T) p ≤ 57) (h1 : 1 ≤ (restT T).length) :
    numEnd T 0 = if nth (restT T) 0 = 48 then ((if minusT T then 1 else 0) + 1, true) else (T.length, true) := by
  obtain ⟨hl, hn⟩ := restT_length T
  generalize hm : (if minusT T then 1 else 0) = m at *
  generalize restT T = t at *
  have hlen : t.length + m = T.length := by omega
  have hdd : ∀ q, m ≤ q → q < T.length → 48 ≤ nth T q ∧ nth T q ≤ 57 := fun q h2 h3 => by
    have := hd (q - m) (by omega)
    rw [hn, show q - m + m = q by omega] at this
    exact this
  unfold numEnd
  rw [minus_num1 hT, hm]
  have h0 := hn 0
  rw [Nat.zero_add] at h0
  have tail : ∀ q, m ≤ q → num4 T (num3 T (q, true)) = (q, true) := fun q hq => by
    have e3 : num3 T (q, true) = (q, true) := by
      unfold num3
      rw [has_point hT, decide_eq_false (fun h => by have := hdd q hq h.1; simp only at h; omega)]
      rfl
    rw [e3]
    unfold num4
    rw [has_e hT, decide_eq_false (fun h => by have := hdd q hq h.1; simp only at h; omega)]
    rfl
  by_cases hz : nth t 0 = 48
  · rw [if_pos hz]
    have e2 : num2 T m = (m + 1, true) := by
      unfold num2
      rw [has_zero hT, decide_eq_true ⟨by omega, by omega⟩]
      rfl
    rw [e2]
    exact tail _ (by omega)
  · rw [if_neg hz]
    have ed : digEnd T m = T.length := digEnd_is (by omega) (fun j h2 h3 => by
      rw [has_dig hT]
      have := hdd j h2 h3
      exact decide_eq_true ⟨h3, this⟩) (by
      rw [has_dig hT]
      exact decide_eq_false (fun h => by omega))
    have e2 : num2 T m = (T.length, true) := by
      unfold num2
      rw [has_zero hT, decide_eq_false (fun h => by omega), ed, decide_eq_true (show m < T.length by omega)]
      rfl
    rw [e2]
    exact tail _ (by omega)

/-- Of a number something stands behind the minus; a plus stands nowhere ahead. -/
theorem num_begins {T : List Nat} (hT : ∀ x ∈ T, x < 256) (h : numEnd T 0 = (T.length, true)) : 1 ≤ (restT T).length ∧ nth T 0 ≠ 43 := by
  obtain ⟨hl, hn⟩ := restT_length T
  generalize hm : (if minusT T then 1 else 0) = m at *
  have key : ∀ q, (num2 T m) = (q, false) → False := fun q e => by
    unfold numEnd at h
    rw [minus_num1 hT, hm, e] at h
    have e3 : num3 T (q, false) = (q, false) := by unfold num3; simp
    have e4 : num4 T (q, false) = (q, false) := by unfold num4; simp
    rw [e3, e4] at h
    simp at h
  have bad : ¬ (m < T.length ∧ 48 ≤ nth T m ∧ nth T m ≤ 57) → False := fun hb => by
    have ed : digEnd T m = m := digEnd_is (Nat.le_refl _) (fun j h2 h3 => by omega) (by rw [has_dig hT]; exact decide_eq_false hb)
    refine key m ?_
    unfold num2
    rw [has_zero hT, decide_eq_false (fun h => hb ⟨h.1, by omega⟩), ed]
    simp
  constructor
  · rcases Nat.lt_or_ge m T.length with h2 | h2
    · omega
    · exact absurd (fun hb : m < T.length ∧ _ => absurd hb.1 (by omega)) bad
  · intro h43
    have hm0 : m = 0 := by
      rw [← hm]
      unfold minusT
      rw [if_neg (by simp; omega)]
    refine bad fun hb => ?_
    rw [hm0] at hb
    omega

theorem map_nats (T : List Nat) (hT : ∀ x ∈ T, x < 256) {c : Nat} {r : List Nat} (h : T = c :: r) : (UInt8.ofNat c).toNat = c := by
  have := hT c (by simp [h])
  simp; omega

/-- strconv.Atoi of such a text. -/
theorem atoi_val {T : List Nat} (hT : ∀ x ∈ T, x < 256) (h1 : 1 ≤ (restT T).length) (h9 : (restT T).length ≤ 9) (h43 : nth T 0 ≠ 43) :
    atoiAll (T.map UInt8.ofNat) = (match valT 0 (restT T) with | some u => NumEnd.ok (if minusT T then -(u : Int) else (u : Int)) | none => NumEnd.syntax) := by
  have hpw : (0 + 1) * 10 ^ (restT T).length ≤ 1000000000 := by
    have := Nat.pow_le_pow_right (show 0 < 10 by omega) h9
    have e : (10 : Nat) ^ 9 = 1000000000 := by decide
    rw [e] at this
    rw [Nat.zero_add, Nat.one_mul]
    exact this
  obtain ⟨hp, hb⟩ := parse_val (restT T) 0 (rest_lt hT) hpw
  have hne : (restT T).map UInt8.ofNat ≠ [] := by
    intro e
    rw [List.map_eq_nil_iff] at e
    rw [e] at h1
    simp at h1
  have hmag : parseMag ((restT T).map UInt8.ofNat) = (match valT 0 (restT T) with | some u => NumEnd.ok u | none => NumEnd.syntax) := by
    unfold parseMag
    rw [if_neg hne]
    exact hp
  match T, hT with
  | [], _ => simp [restT] at h1
  | c :: r, hT =>
    have hc := map_nats _ hT rfl
    rw [List.map_cons]
    by_cases h45 : c = 45
    · subst h45
      have hm : minusT (45 :: r) = true := by simp [minusT, nth]
      have hr : restT (45 :: r) = r := by simp [restT, hm]
      rw [show UInt8.ofNat 45 = 45 from rfl, atoiAll_minus]
      rw [hr] at hmag hb ⊢
      rw [hmag, hm]
      cases hv : valT 0 r with
      | none => rfl
      | some u =>
        have := hb u hv
        simp only [signed]
        rw [if_neg (by omega)]
        simp
    · have hm : minusT (c :: r) = false := by simp [minusT, nth, h45]
      have hr : restT (c :: r) = c :: r := by simp [restT, hm]
      have h43' : c ≠ 43 := by simpa [nth] using h43
      rw [atoiAll_plain _ _ (by rw [hc]; exact h43') (by rw [hc]; exact h45)]
      rw [hr] at hmag hb ⊢
      rw [List.map_cons] at hmag
      rw [hmag, hm]
      cases hv : valT 0 (c :: r) with
      | none => rfl
      | some u =>
        have := hb u hv
        simp only [signless]
        rw [if_neg (by omega)]
        simp

/-- What Int's tests leave: a small whole number has passed them all, and is told. -/
theorem int_some {T : List Nat} (hT : ∀ x ∈ T, x < 256) {v : Int} (h : intT T = some v) : numEnd T 0 = (T.length, true) ∧ T ≠ [45, 48] ∧ (restT T).length ≤ 9 ∧ atoiAll (T.map UInt8.ofNat) = .ok v := by
  unfold intT at h
  split at h
  · rename_i hs
    obtain ⟨h1, h9, h0⟩ := hs
    obtain ⟨u, hu, hv⟩ := Option.map_eq_some_iff.1 h
    have hd := (valT_all (restT T) 0).1 (by rw [hu]; rfl)
    have hnum := num_of_digits hT hd h1
    have hne : T ≠ [45, 48] := by
      rintro rfl
      exact h0 (by decide)
    have hn : numEnd T 0 = (T.length, true) := by
      rw [hnum]
      split
      · rename_i hz
        have hl := (restT_length T).1
        have : (restT T).length = 1 := by
          rcases Nat.lt_or_ge 1 (restT T).length with h | h
          · exact absurd ⟨hz, .inl h⟩ h0
          · omega
        have : T.length = (if minusT T then 1 else 0) + 1 := by omega
        rw [this]
      · rfl
    refine ⟨hn, hne, h9, ?_⟩
    rw [atoi_val hT h1 h9 (num_begins hT hn).2, hu]
    simp only
    rw [hv]
  · cases h
/-- .. and what has passed them and is none is no text of digits. -/
theorem int_none {T : List Nat} (hT : ∀ x ∈ T, x < 256) (h : intT T = none) (hn : numEnd T 0 = (T.length, true)) (hne : T ≠ [45, 48]) (h9 : (restT T).length ≤ 9) : atoiAll (T.map UInt8.ofNat) = .syntax := by
  obtain ⟨h1, h43⟩ := num_begins hT hn
  rw [atoi_val hT h1 h9 h43]
  cases hv : valT 0 (restT T) with
  | none => rfl
  | some u =>
    exfalso
    have hd := (valT_all (restT T) 0).1 (by rw [hv]; rfl)
    have hnum := num_of_digits hT hd h1
    have hl := (restT_length T).1
    have hs : smallT T := by
      refine ⟨h1, h9, fun ⟨hz, hc⟩ => ?_⟩
      rw [if_pos hz, hn] at hnum
      have hTl : T.length = (if minusT T then 1 else 0) + 1 := congrArg Prod.fst hnum
      rcases hc with hc | hc
      · omega
      · rw [hc] at hTl
        simp at hTl
        match T, hTl with
        | [a, b], _ =>
          have ha : a = 45 := by simpa [minusT, nth] using hc
          subst ha
          have hb : b = 48 := by simpa [restT, hc, nth] using hz
          subst hb
          exact hne rfl
    unfold intT at h
    rw [if_pos hs, hv] at h
    simp at h

/-- The digits of a number, as nats. -/
theorem valT_append : ∀ (l : List Nat) (acc u d : Nat), valT acc l = some u → 48 ≤ d → d ≤ 57 → valT acc (l ++ [d]) = some (u * 10 + (d - 48))
  | [], acc, u, d, h, h1, h2 => by
    simp [valT] at h
    subst h
    simp [valT, h1, h2]
  | c :: r, acc, u, d, h, h1, h2 => by
    rw [valT] at h
    rw [List.cons_append, valT]
    split at h
    · rename_i hc
      rw [if_pos hc]
      exact valT_append r _ u d h h1 h2
    · cases h
def digsT (u : Nat) : List Nat := (decDigits u).map (·.toNat)
theorem digs_step {u : Nat} (h : ¬ u < 10) : digsT u = digsT (u / 10) ++ [48 + u % 10] := by
  unfold digsT
  rw [decDigits, dif_neg h, List.map_append]
  have : u % 10 < 10 := Nat.mod_lt _ (by omega)
  simp; omega
theorem digs_one {u : Nat} (h : u < 10) : digsT u = [48 + u] := by
  unfold digsT
  rw [decDigits_one h]
  simp; omega
theorem digs_val (u : Nat) : valT 0 (digsT u) = some u := by
  induction u using Nat.strongRecOn with
  | _ u ih =>
    by_cases h : u < 10
    · rw [digs_one h]
      have h1 : 48 ≤ 48 + u ∧ 48 + u ≤ 57 := by omega
      simp [valT, h1]
    · rw [digs_step h, valT_append _ _ _ _ (ih (u / 10) (by omega)) (by omega) (by omega)]
      simp only [Option.some.injEq]
      omega
theorem digs_head (u : Nat) : digsT u ≠ [] ∧ (nth (digsT u) 0 = 48 → u = 0) ∧ 48 ≤ nth (digsT u) 0 := by
  induction u using Nat.strongRecOn with
  | _ u ih =>
    by_cases h : u < 10
    · rw [digs_one h]
      simp [nth]
    · obtain ⟨h1, h2, h3⟩ := ih (u / 10) (by omega)
      rw [digs_step h]
      have e : nth (digsT (u / 10) ++ [48 + u % 10]) 0 = nth (digsT (u / 10)) 0 := by
        unfold nth
        rw [List.getElem?_append_left (List.length_pos_iff.2 h1)]
      rw [e]
      exact ⟨by simp, fun h4 => by have := h2 h4; omega, h3⟩
theorem digs_length : ∀ (k u : Nat), u < 10 ^ (k + 1) → (digsT u).length ≤ k + 1
  | 0, u, h => by rw [digs_one (by simpa using h)]; simp
  | k + 1, u, h => by
    by_cases h10 : u < 10
    · rw [digs_one h10]; simp
    · rw [digs_step h10, List.length_append]
      have := digs_length k (u / 10) (by rw [Nat.pow_succ] at h; omega)
      simp
      omega
/-- A number's text. -/
def itoaT (n : Int) : List Nat := (itoa n).map (·.toNat)
theorem itoaT_eq (n : Int) : itoaT n = if n < 0 then 45 :: digsT n.natAbs else digsT n.toNat := by
  unfold itoaT itoa digsT
  split <;> simp
theorem int_itoa {n : Int} (h1 : -999999999 ≤ n) (h2 : n ≤ 999999999) : intT (itoaT n) = some n := by
  rw [itoaT_eq]
  by_cases hn : n < 0
  · rw [if_pos hn]
    have hm : minusT (45 :: digsT n.natAbs) = true := by simp [minusT, nth]
    have hr : restT (45 :: digsT n.natAbs) = digsT n.natAbs := by simp [restT, hm]
    obtain ⟨g1, g2, _⟩ := digs_head n.natAbs
    have g3 := digs_length 8 n.natAbs (by have : (10 : Nat) ^ (8 + 1) = 1000000000 := by decide
                                          omega)
    have g4 := List.length_pos_iff.2 g1
    unfold intT
    rw [if_pos (by unfold smallT; rw [hr]; exact ⟨g4, by omega, fun h => by have := g2 h.1; omega⟩), hr, hm, digs_val]
    simp
    omega
  · rw [if_neg hn]
    obtain ⟨g1, g2, g5⟩ := digs_head n.toNat
    have g3 := digs_length 8 n.toNat (by have : (10 : Nat) ^ (8 + 1) = 1000000000 := by decide
                                         omega)
    have g4 := List.length_pos_iff.2 g1
    have hall := (valT_all (digsT n.toNat) 0).1 (by rw [digs_val]; rfl)
    have hm : minusT (digsT n.toNat) = false := by
      unfold minusT
      exact decide_eq_false (fun h => by omega)
    have hr : restT (digsT n.toNat) = digsT n.toNat := by simp [restT, hm]
    unfold intT
    rw [if_pos (by unfold smallT; rw [hr, hm]; refine ⟨g4, by omega, fun h => ?_⟩; have h0 := g2 h.1; rw [h0, digs_one (by omega)] at h; simp at h), hr, hm, digs_val]
    simp
    omega
theorem itoaT_lt {n : Int} : ∀ x ∈ itoaT n, x < 256 := by
  intro x hx
  unfold itoaT at hx
  obtain ⟨c, _, rfl⟩ := List.mem_map.1 hx
  exact c.toNat_lt
theorem itoa_str (n : Int) : (⟨(itoa n).toArray⟩ : ByteArray) = strOf (itoaT n) := by
  unfold strOf itoaT
  rw [List.map_map]
  congr 2
  have : (UInt8.ofNat ∘ fun x : UInt8 => x.toNat) = id := by
    funext x
    simp
  rw [this, List.map_id]

def isNumB (T : List Nat) : Bool := decide (numEnd T 0 = (T.length, true))
set_option maxHeartbeats 2000000 in
theorem isNumber_any (w : World) (S : List Nat) (hS : ∀ x ∈ S, x < 256) (hl : S.length ≤ 1000000) :
    Calls Tryz.prog 75 #[.string (strOf S)] w fun e w' => e = .returned (.bool (isNumB S)) ∧ Below w.heap.size w w' := by
  obtain ⟨cp, w1, hcv, hby, hcp, hb1, _⟩ := conv_str w S hS
  have HN := hide (numberEnd_calls w1 _ _ 0 S hby (Nat.zero_le _) (by omega))
  have hle := numEnd_le (T := S) (p := 0) (Nat.zero_le _)
  have HNB : Hid (isNumB S = decide (numEnd S 0 = (S.length, true))) := rfl
  generalize isNumB S = nb at *
  generalize numEnd S 0 = q at *
  obtain ⟨p, b⟩ := q
  simp only at HN hle
  have hsz := strOf_size S
  have HB := hide hb1
  clear hby hcp hb1 hS
  generalize strOf S = s at *
  generalize S.length = n at *
  cases b with
  | false =>
    have HR : Hid (nb = false) := by rw [HNB.out]; exact decide_eq_false (fun e => by cases e)
    clear HNB
    go_enter Tryz.func75, Tryz.ntmps75
    go_wp2_with fail
    refine HN.out.mono ?_
    rintro e w2 ⟨rfl, hw⟩
    rw [hw]
    clear hw
    go_wp2
    go_ret
    exact ⟨by rw [HR.out]; rfl, HB.out⟩
  | true =>
    by_cases hp : p = n
    · have HR : Hid (nb = true) := by rw [HNB.out, hp]; exact decide_eq_true rfl
      subst hp
      clear HNB hle
      have deq : ((p : Int) == (p : Int)) = true := by simp
      go_enter Tryz.func75, Tryz.ntmps75
      go_wp2_with fail
      refine HN.out.mono ?_
      rintro e w2 ⟨rfl, hw⟩
      rw [hw]
      clear hw
      go_wp2
      go_ret
      exact ⟨by rw [HR.out]; rfl, HB.out⟩
    · have HR : Hid (nb = false) := by rw [HNB.out]; exact decide_eq_false (fun e => hp (congrArg Prod.fst e))
      have deq : ((p : Int) == (n : Int)) = false := by simp; omega
      clear HNB hle hp
      go_enter Tryz.func75, Tryz.ntmps75
      go_wp2_with fail
      refine HN.out.mono ?_
      rintro e w2 ⟨rfl, hw⟩
      rw [hw]
      clear hw
      go_wp2
      go_ret
      exact ⟨by rw [HR.out]; rfl, HB.out⟩

/-- What strconv.ErrSyntax holds is an error. -/
def ErrS (w : World) : Prop := ∃ ev, w.cell? ⟨3, 0, none⟩ = some ev ∧ (ev = .nilIface ∨ ∃ te pe, ev = .iface te pe)
theorem ErrS.below {w w' : World} (h : ErrS w) (hb : Below w.heap.size w w') : ErrS w' := by
  obtain ⟨ev, h1, h2⟩ := h
  exact ⟨ev, (hb.cell (p := ⟨3, 0, none⟩) (block_lt h1)).trans h1, h2⟩

/-- What Int answers. -/
def intJ (k : Int) (T : List Nat) : Option Int := if k = 3 then intT T else none
def optV (o : Option Int) : Value := .tuple #[.int .i64 (o.getD 0), .bool o.isSome]
def IntR (k : Int) (T : List Nat) (w : World) (e : Ending) (w' : World) : Prop := e = .returned (optV (intJ k T)) ∧ Below w.heap.size w w'

theorem trim_size {T : List Nat} (hT : ∀ x ∈ T, x < 256) : (⟨(Lib.trimPrefix (strOf T).data.toList [45]).toArray⟩ : ByteArray).size = (restT T).length := by
  show (Lib.trimPrefix (strOf T).data.toList [45]).toArray.size = _
  rw [strOf_list, List.size_toArray]
  unfold Lib.trimPrefix Lib.hasPrefix restT
  cases T with
  | nil => rfl
  | cons c r =>
    have hc := map_nats (c :: r) hT rfl
    by_cases h : c = 45
    · subst h
      have hm : minusT (45 :: r) = true := by simp [minusT, nth]
      rw [hm]
      simp
    · have hm : minusT (c :: r) = false := by simp [minusT, nth, h]
      have hne : ((45 : UInt8) == UInt8.ofNat c) = false := by
        rw [beq_eq_false_iff_ne]
        intro e
        apply h
        have := congrArg UInt8.toNat e
        rw [hc] at this
        exact this.symm
      rw [hm]
      simp [List.isPrefixOf, hne]

set_option maxHeartbeats 8000000 in
theorem jint_any (w : World) (k : Int) (T : List Nat) (hT : ∀ x ∈ T, x < 256) (hl : T.length ≤ 100000) (ka la : Option Addr) (kn kc ln lc : Nat) (hE : ErrS w) :
    Calls Tryz.prog 52 #[vagg (k, strOf T, .slice ka kn kc, .slice la ln lc)] w (IntR k T w) := by
  unfold vagg
  simp only
  have hb1 := bel w (.cells #[.int .i64 k, .string (strOf T), .slice ka kn kc, .slice la ln lc] 27)
  have hx1 := BoxC.new w 27 #[.int .i64 k, .string (strOf T), .slice ka kn kc, .slice la ln lc]
  obtain ⟨w1, hw1⟩ : ∃ w1, w.alloc (.cells #[.int .i64 k, .string (strOf T), .slice ka kn kc, .slice la ln lc] 27) = w1 := ⟨_, rfl⟩
  rw [hw1] at hb1 hx1
  have HN := hide (isNumber_any w1 T hT (by omega))
  have HTR := hide (fun W => Tryz.strings_TrimPrefix (strOf T) ⟨#[45]⟩ W)
  have HTS : Hid ((⟨(Lib.trimPrefix (strOf T).data.toList (⟨#[45]⟩ : ByteArray).data.toList).toArray⟩ : ByteArray).size = (restT T).length) := trim_size hT
  have hsz := strOf_size T
  have HOK := hide (fun v (h : intT T = some v) W => Tryz.strconv_Atoi_ok (strOf T) (by omega) v (by rw [strOf_list]; exact (int_some hT h).2.2.2) W)
  have HSY := hide (fun (h : intT T = none) (hn : numEnd T 0 = (T.length, true)) (hne : T ≠ [45, 48]) (h9 : (restT T).length ≤ 9) => Tryz.strconv_Atoi_syntax (strOf T) (by omega) (by rw [strOf_list]; exact int_none hT h hn hne h9))
  have HSO := hide (fun v (h : intT T = some v) => int_some hT h)
  have hzz : ((strOf T).toList == (strOf [45, 48]).toList) = decide (T = [45, 48]) := str_eq hT (by decide)
  rw [show (strOf [45, 48]).toList = [45, 48] by rw [toList_data, strOf_list]; rfl] at hzz
  have HZZ := hide hzz
  have HNB : Hid (isNumB T = decide (numEnd T 0 = (T.length, true))) := rfl
  generalize strOf T = s at *
  generalize (⟨(Lib.trimPrefix s.data.toList (⟨#[45]⟩ : ByteArray).data.toList).toArray⟩ : ByteArray) = tr at *
  have HW1 := hide hw1
  have HB1 := hide hb1
  have HX1 := hide hx1
  have v0 : w1.cell? ⟨w.heap.size, 0, none⟩ = some (.int .i64 k) := hx1.cell 0
  have v1 : w1.cell? ⟨w.heap.size, 1, none⟩ = some (.string s) := hx1.cell 1
  have HE := hide (hE.below hb1)
  clear hb1 hx1 hw1 hE hT hzz
  by_cases h3 : k = 3
  rotate_left
  · have d3 : (k == 3) = false := by simpa using h3
    have d3' : (k != 3) = true := by simpa using h3
    have HR : Hid (intJ k T = none) := if_neg h3
    clear h3
    go_enter Tryz.func52, Tryz.ntmps52
    go_upto_region 1 with fail
    rw [HW1.out]
    clear HW1
    go_wp2
    go_ret2
    refine ⟨?_, HB1.out⟩
    rw [HR.out]
    rfl
  subst h3
  have HJ : Hid (intJ 3 T = intT T) := if_pos rfl
  cases hn : isNumB T with
  | false =>
    rw [hn] at HN
    have HR : Hid (intJ 3 T = none) := by
      rw [HNB.out] at hn
      rw [Hid, HJ.out]
      cases hi : intT T with
      | none => rfl
      | some v => exact absurd (HSO.out v hi).1 (of_decide_eq_false hn)
    clear hn
    go_enter Tryz.func52, Tryz.ntmps52
    go_upto_region 1 with fail
    rw [HW1.out]
    clear HW1
    go_wp2_with fail
    refine HN.out.mono ?_
    rintro e w2 ⟨rfl, hb2⟩
    have HB2 := hide (HB1.out.trans (hb2.mono HB1.out.size))
    have v1 : w2.cell? ⟨w.heap.size, 1, none⟩ = some (.string s) := (HX1.out.below hb2).cell 1
    clear hb2
    go_wp2
    go_ret2
    refine ⟨?_, HB2.out⟩
    rw [HR.out]
    rfl
  | true =>
    rw [hn] at HN
    have hnt : numEnd T 0 = (T.length, true) := by rw [HNB.out] at hn; exact of_decide_eq_true hn
    have HNT := hide hnt
    clear hn hnt
    by_cases hz : T = [45, 48]
    · have deq : (s.toList == [45, 48]) = true := by rw [HZZ.out]; exact decide_eq_true hz
      have HR : Hid (intJ 3 T = none) := by
        rw [Hid, HJ.out]
        cases hi : intT T with
        | none => rfl
        | some v => exact absurd hz (HSO.out v hi).2.1
      clear hz
      go_enter Tryz.func52, Tryz.ntmps52
      go_upto_region 1 with fail
      rw [HW1.out]
      clear HW1
      go_wp2_with fail
      refine HN.out.mono ?_
      rintro e w2 ⟨rfl, hb2⟩
      have HB2 := hide (HB1.out.trans (hb2.mono HB1.out.size))
      have v1 : w2.cell? ⟨w.heap.size, 1, none⟩ = some (.string s) := (HX1.out.below hb2).cell 1
      clear hb2
      go_wp2
      go_ret2
      refine ⟨?_, HB2.out⟩
      rw [HR.out]
      rfl
    · have deq : (s.toList == [45, 48]) = false := by rw [HZZ.out]; exact decide_eq_false hz
      have HZ := hide hz
      clear hz
      obtain ⟨rn, hrn⟩ : ∃ rn, (restT T).length = rn := ⟨_, rfl⟩
      have hts : tr.size = rn := by rw [HTS.out, hrn]
      have HRN := hide hrn
      clear hrn
      go_enter Tryz.func52, Tryz.ntmps52
      go_upto_region 1 with fail
      rw [HW1.out]
      clear HW1
      go_wp2_with fail
      refine HN.out.mono ?_
      rintro e w2 ⟨rfl, hb2⟩
      have HB2 := hide (HB1.out.trans (hb2.mono HB1.out.size))
      have HX2 := hide (HX1.out.below hb2)
      have HE2 := hide (HE.out.below hb2)
      have v1 : w2.cell? ⟨w.heap.size, 1, none⟩ = some (.string s) := HX2.out.cell 1
      clear hb2
      go_wp2_with fail
      refine (HTR.out w2).mono ?_
      rintro e w3 ⟨rfl, hw⟩
      rw [hw]
      clear hw
      by_cases h9 : rn ≤ 9
      rotate_left
      · have d9 : (rn : Int) > 9 := by omega
        have HR : Hid (intJ 3 T = none) := by
          rw [Hid, HJ.out]
          cases hi : intT T with
          | none => rfl
          | some v => exact absurd (by have := (HSO.out v hi).2.2.1; have := HRN.out; omega) h9
        clear h9
        go_wp2
        go_ret2
        refine ⟨?_, HB2.out⟩
        rw [HR.out]
        rfl
      · have d9 : ¬ (rn : Int) > 9 := by omega
        have H9 := hide h9
        clear h9
        cases hi : intT T with
        | some v =>
          have HC := hide (HOK.out v hi w2)
          have HR : Hid (intJ 3 T = some v) := by rw [Hid, HJ.out, hi]
          clear hi
          go_wp2_with fail
          refine HC.out.mono ?_
          rintro e w4 ⟨rfl, hw4⟩
          have hb4 : Below w2.heap.size w2 w4 := by
            rcases hw4 with rfl | ⟨t, rfl⟩
            · exact Below.refl _ _
            · exact Lib.bytesWorld_below _ _ _
          have HB4 := hide (HB2.out.trans (hb4.mono HB2.out.size))
          clear hb4 hw4 v1
          go_wp2
          go_ret2
          refine ⟨?_, HB4.out⟩
          rw [HR.out]
          rfl
        | none =>
          obtain ⟨ev, hev1, hev2⟩ := HE2.out
          have HC := hide (HSY.out hi HNT.out HZ.out (by have := HRN.out; have := H9.out; omega) ev w2 hev1 hev2)
          have HR : Hid (intJ 3 T = none) := by rw [Hid, HJ.out, hi]
          clear hi hev1 hev2
          go_wp2_with fail
          refine HC.out.mono ?_
          rintro e w4 ⟨N, rfl, _, _, hb4⟩
          have HB4 := hide (HB2.out.trans (hb4.mono HB2.out.size))
          clear hb4 v1
          go_wp2
          go_ret2
          refine ⟨?_, HB4.out⟩
          rw [HR.out]
          rfl

/-- The byte of a string. -/
theorem str_at {T : List Nat} (hT : ∀ x ∈ T, x < 256) (W : World) {j : Nat} (h : j < T.length) : (Instr.index 9 (.string (strOf T)) (.int .i64 (j : Int))).run Tryz.prog W = .ok (.int .u8 ((nth T j : Nat) : Int)) W := by
  rw [run_index_string W 9 (strOf T) .i64 _ Tryz.underlying9, dif_pos ⟨by omega, by rw [strOf_size]; omega⟩]
  have hx : T[j] < 256 := hT _ (List.getElem_mem h)
  have e : ∀ (l : List UInt8) (hj : j < (ByteArray.mk l.toArray).size), (ByteArray.mk l.toArray)[j] = l[j]'(by simpa [ByteArray.size] using hj) := fun l hj => rfl
  unfold strOf
  simp only [Int.toNat_natCast, e, List.getElem_map, nth, List.getElem?_eq_getElem h, Option.getD_some]
  rw [UInt8.toNat_ofNat']
  simp
  omega
theorem strOf_drop (T : List Nat) : (strOf T).extract 1 (strOf T).size = strOf (T.drop 1) := by
  apply ByteArray.ext
  rw [ByteArray.data_extract]
  unfold strOf
  have e : List.take (T.length - 1) (List.map UInt8.ofNat T).tail = (List.map UInt8.ofNat T).tail := List.take_of_length_le (by simp)
  simp [ByteArray.size, e]

theorem int_of_bad {T : List Nat} (h : ¬ smallT T) : intT T = none := if_neg h
theorem valT_step {acc c : Nat} {r : List Nat} (h : 48 ≤ c ∧ c ≤ 57) : valT acc (c :: r) = valT (acc * 10 + (c - 48)) r := by rw [valT, if_pos h]
theorem valT_stop {acc c : Nat} {r : List Nat} (h : ¬ (48 ≤ c ∧ c ≤ 57)) : valT acc (c :: r) = none := by rw [valT, if_neg h]
theorem drop_step {U : List Nat} {i : Nat} (h : i < U.length) : U.drop i = nth U i :: U.drop (i + 1) := by
  rw [List.drop_eq_getElem_cons h]
  simp [nth, h]

/-- The digits, gone through: behind the tests. -/
def RIntR (o : Option Int) (w : World) (e : Ending) (w' : World) : Prop := e = .returned (optV o) ∧ Below w.heap.size w w'

set_option maxHeartbeats 16000000 in
theorem rint_any (w : World) (k : Int) (T : List Nat) (hT : ∀ x ∈ T, x < 256) (hl : T.length ≤ 100000) (ka la : Option Addr) (kn kc ln lc : Nat) :
    Calls Tryz.prog 30 #[vagg (k, strOf T, .slice ka kn kc, .slice la ln lc)] w (RIntR (intJ k T) w) := by
  unfold vagg
  simp only
  have hb1 := bel w (.cells #[.int .i64 k, .string (strOf T), .slice ka kn kc, .slice la ln lc] 36)
  have hx1 := BoxC.new w 36 #[.int .i64 k, .string (strOf T), .slice ka kn kc, .slice la ln lc]
  obtain ⟨w1, hw1⟩ : ∃ w1, w.alloc (.cells #[.int .i64 k, .string (strOf T), .slice ka kn kc, .slice la ln lc] 36) = w1 := ⟨_, rfl⟩
  rw [hw1] at hb1 hx1
  have v0 : w1.cell? ⟨w.heap.size, 0, none⟩ = some (.int .i64 k) := hx1.cell 0
  have v1 : w1.cell? ⟨w.heap.size, 1, none⟩ = some (.string (strOf T)) := hx1.cell 1
  have HW1 := hide hw1
  have HB1 := hide hb1
  clear hb1 hx1 hw1
  by_cases h3 : k = 3
  rotate_left
  · have d3 : (k == 3) = false := by simpa using h3
    have d3' : (k != 3) = true := by simpa using h3
    have HR : Hid (intJ k T = none) := if_neg h3
    generalize strOf T = s at *
    clear h3
    go_enter Tryz.func30, Tryz.ntmps30
    go_upto_region 1 with fail
    rw [HW1.out]
    clear HW1
    go_wp2
    go_ret2
    refine ⟨?_, HB1.out⟩
    rw [HR.out]
    rfl
  subst h3
  have HJ : Hid (intJ 3 T = intT T) := if_pos rfl
  -- the string behind the minus
  obtain ⟨hrl, hrn⟩ := restT_length T
  have hU := rest_lt hT
  have hUl : (restT T).length ≤ 100000 := by omega
  have HIU : Hid (∀ (W : World) (j : Nat), j < (restT T).length → (Instr.index 9 (.string (strOf (restT T))) (.int .i64 (j : Int))).run Tryz.prog W = .ok (.int .u8 ((nth (restT T) j : Nat) : Int)) W) := fun W j h => str_at hU W h
  have HUB := hide hU
  have hdef : intT T = if smallT T then (valT 0 (restT T)).map (fun u : Nat => if minusT T then -(u : Int) else (u : Int)) else none := rfl
  have hsm : smallT T ↔ 1 ≤ (restT T).length ∧ (restT T).length ≤ 9 ∧ ¬ (nth (restT T) 0 = 48 ∧ (1 < (restT T).length ∨ minusT T = true)) := Iff.rfl
  have hsU := strOf_size (restT T)
  have hsT := strOf_size T
  cases hm : minusT T with
  | true =>
    have hm0 : 0 < T.length ∧ nth T 0 = 45 := of_decide_eq_true hm
    have q0 : ∀ W : World, (Instr.index 9 (.string (strOf T)) (.int .i64 0)).run Tryz.prog W = .ok (.int .u8 45) W := fun W => by
      have := str_at hT W hm0.1
      rw [hm0.2] at this
      exact this
    have q1 : ∀ W : World, (Instr.slice 9 (.string (strOf T)) (some (.int .i64 1)) none none).run Tryz.prog W = .ok (.string (strOf (restT T))) W := fun W => by
      have := run_slice_string_l (P := Tryz.prog) (w := W) 9 (strOf T) Tryz.underlying9 .i64 1 (by omega) (by rw [strOf_size]; omega)
      rw [this]
      have e : (strOf T).extract (1 : Int).toNat (strOf T).size = strOf (restT T) := by
        rw [show (1 : Int).toNat = 1 from rfl, strOf_drop]
        unfold restT
        rw [hm]
        rfl
      rw [e]
    have d0 : (T.length : Int) > 0 := by omega
    rw [hm] at hdef hsm
    simp only [if_true] at hdef
    have HDEF := hide hdef
    have HSM := hide hsm
    clear hm0 hm hdef hsm hrl hrn hU hUl hT
    generalize strOf T = s at *
    generalize T.length = tl at *
    generalize restT T = U at *
    obtain ⟨n, hn⟩ : ∃ n, U.length = n := ⟨_, rfl⟩
    have HUN := hide hn
    rw [hn] at hsU HSM
    generalize strOf U = u at *
    clear hn
    by_cases hn1 : n < 1
    · have d7 : (n : Int) < 1 := by omega
      go_enter Tryz.func30, Tryz.ntmps30
      go_upto_region 1 with fail
      rw [HW1.out]
      clear HW1
      have HR : Hid (intJ 3 T = none) := by
        rw [Hid, HJ.out]
        exact int_of_bad (fun h => by have h := HSM.out.1 h; omega)
      go_wp2
      go_ret2
      refine ⟨?_, HB1.out⟩
      rw [HR.out]
      rfl
    have d7 : ¬ (n : Int) < 1 := by omega
    by_cases h9 : n ≤ 9
    rotate_left
    · have d8 : (n : Int) > 9 := by omega
      go_enter Tryz.func30, Tryz.ntmps30
      go_upto_region 1 with fail
      rw [HW1.out]
      clear HW1
      have HR : Hid (intJ 3 T = none) := by
        rw [Hid, HJ.out]
        exact int_of_bad (fun h => by have h := HSM.out.1 h; omega)
      go_wp2
      go_ret2
      refine ⟨?_, HB1.out⟩
      rw [HR.out]
      rfl
    have d8 : ¬ (n : Int) > 9 := by omega
    have H9 := hide h9
    have q7 : ∀ W : World, (Instr.index 9 (.string u) (.int .i64 0)).run Tryz.prog W = .ok (.int .u8 ((nth U 0 : Nat) : Int)) W := fun W => HIU.out W 0 (by rw [HUN.out]; omega)
    obtain ⟨x0, hx0⟩ : ∃ x0, nth U 0 = x0 := ⟨_, rfl⟩
    rw [hx0] at q7 HSM
    clear hx0
    by_cases hz : x0 = 48
    · subst hz
      have qz : ∀ W : World, (Instr.index 9 (.string u) (.int .i64 0)).run Tryz.prog W = .ok (.int .u8 48) W := q7
      clear q7
      by_cases hn2 : 1 < n
      · have d9 : (n : Int) > 1 := by omega
        go_enter Tryz.func30, Tryz.ntmps30
        go_upto_region 1 with fail
        rw [HW1.out]
        clear HW1
        have HR : Hid (intJ 3 T = none) := by
          rw [Hid, HJ.out]
          exact int_of_bad (fun h => by have h := HSM.out.1 h; exact h.2.2 ⟨rfl, .inr rfl⟩)
        go_wp2
        go_ret2
        refine ⟨?_, HB1.out⟩
        rw [HR.out]
        rfl
      · have d9 : ¬ (n : Int) > 1 := by omega
        go_enter Tryz.func30, Tryz.ntmps30
        go_upto_region 1 with fail
        rw [HW1.out]
        clear HW1
        have HR : Hid (intJ 3 T = none) := by
          rw [Hid, HJ.out]
          exact int_of_bad (fun h => by have h := HSM.out.1 h; exact h.2.2 ⟨rfl, .inr rfl⟩)
        go_wp2
        go_ret2
        refine ⟨?_, HB1.out⟩
        rw [HR.out]
        rfl
    have d10 : ((x0 : Int) == 48) = false := by rw [beq_eq_false_iff_ne]; omega
    have HZ := hide hz
    clear hz
    have HS : Hid (smallT T) := HSM.out.2 (by exact ⟨by omega, by omega, fun h => HZ.out h.1⟩)
    clear hn1
    go_enter Tryz.func30, Tryz.ntmps30
    go_upto_region 1 with fail
    rw [HW1.out]
    clear HW1
    have HV : Hid (intJ 3 T = (valT 0 U).map (fun u : Nat => -(u : Int))) := by
      rw [Hid, HJ.out, HDEF.out, if_pos HS.out]
      try rfl
    go_wp2
    go_loopw [6, 7] (fun nv iv wr => ∃ i acc : Nat, i ≤ n ∧ iv = .int .i64 (i : Int) ∧ nv = .int .i64 (acc : Int) ∧ acc < 10 ^ i ∧ valT acc (U.drop i) = valT 0 U ∧ wr = w1) (fun _ iv _ => n - (RowKit.intOf iv).toNat)
    case atStart => exact ⟨0, 0, Nat.zero_le _, rfl, rfl, by omega, by rw [List.drop_zero], rfl⟩
    case round =>
      obtain ⟨i, acc, hi, rfl, rfl, hacc, hval, rfl⟩ := hrel
      have HACC := hide hacc
      have HVAL := hide hval
      clear hacc hval
      by_cases hlt : i < n
      · have d1 : (i : Int) < (n : Int) := by omega
        have d2 : (0 : Int) ≤ (i : Int) := by omega
        have qi := fun W => HIU.out W i (by rw [HUN.out]; exact hlt)
        have hstep := drop_step (U := U) (i := i) (by rw [HUN.out]; exact hlt)
        have HXB : Hid (nth U i < 256) := nth_byt HUB.out i
        have hval := HVAL.out
        rw [hstep] at hval
        obtain ⟨x, hx⟩ : ∃ x, nth U i = x := ⟨_, rfl⟩
        rw [hx] at qi hval HXB
        have HILT := hide hlt
        clear hstep hlt hx
        by_cases hdig : 48 ≤ x ∧ x ≤ 57
        · obtain ⟨y, rfl⟩ : ∃ y, x = 48 + y := ⟨x - 48, by omega⟩
          rw [valT_step hdig] at hval
          have hsm : acc < 100000000 := by
            have h1 := HACC.out
            have h2 := Nat.pow_le_pow_right (show 0 < 10 by omega) (show i ≤ 8 by have := HILT.out; have := H9.out; omega)
            have h3 : (10 : Nat) ^ 8 = 100000000 := by decide
            omega
          obtain ⟨a1, ha1⟩ : ∃ a1, acc * 10 + (48 + y - 48) = a1 := ⟨_, rfl⟩
          obtain ⟨i1, hi1⟩ : ∃ i1, i + 1 = i1 := ⟨_, rfl⟩
          rw [ha1, hi1] at hval
          have e1 : (i : Int) + 1 = (i1 : Int) := by omega
          have e2 : ((48 + y : Nat) : Int) - 48 = (y : Int) := by omega
          have e3 : (acc : Int) * 10 + (y : Int) = (a1 : Int) := by omega
          have g1 : (i1 : Int) ≤ 9 := by have := HILT.out; have := H9.out; omega
          have g2 : (y : Int) ≤ 9 := by omega
          have g3 : (a1 : Int) ≤ 1000000000 := by omega
          have g4 : (acc : Int) * 10 ≤ 1000000000 := by omega
          have g5 : (0 : Int) ≤ (acc : Int) * 10 := by omega
          have d3 : ¬ ((48 + y : Nat) : Int) < 48 := by omega
          have d4 : ¬ ((48 + y : Nat) : Int) > 57 := by omega
          have HA1 : Hid (a1 < 10 ^ i1) := by
            rw [Hid, ← hi1, Nat.pow_succ]
            have := HACC.out
            omega
          have HVAL2 := hide hval
          have HI1 := hide hi1
          generalize ((48 + y : Nat) : Int) = xz at *
          clear hval hi1 ha1 hdig hsm hi
          go_wp2
          go_roundw
          case rel => exact ⟨i1, a1, by have := HILT.out; have := HI1.out; omega, by first | rfl | go_num, by first | rfl | go_num, HA1.out, HVAL2.out, by first | rfl | trivial⟩
          case measure => have := HILT.out; have := HI1.out; simp [RowKit.intOf]; omega
        · rw [valT_stop hdig] at hval
          have HR : Hid (intJ 3 T = none) := by rw [Hid, HV.out, ← hval]; rfl
          clear hval
          by_cases h48 : x < 48
          · have d3 : (x : Int) < 48 := by omega
            clear hdig h48 hi
            go_wp2
            go_ret2
            refine ⟨?_, HB1.out⟩
            rw [HR.out]
            rfl
          · have d3 : ¬ (x : Int) < 48 := by omega
            have d4 : (x : Int) > 57 := by omega
            clear hdig h48 hi
            go_wp2
            go_ret2
            refine ⟨?_, HB1.out⟩
            rw [HR.out]
            rfl
      · obtain rfl : i = n := by omega
        have d1 : ¬ (i : Int) < (i : Int) := by omega
        have hval := HVAL.out
        rw [List.drop_eq_nil_of_le (by rw [HUN.out]; exact Nat.le_refl _)] at hval
        have HR : Hid (intJ 3 T = some (-(acc : Int))) := by rw [Hid, HV.out, ← hval]; rfl
        have g4 : (acc : Int) ≤ 1000000000 := by
          have h1 := HACC.out
          have h2 := Nat.pow_le_pow_right (show 0 < 10 by omega) (show i ≤ 9 by have := H9.out; omega)
          have h3 : (10 : Nat) ^ 9 = 1000000000 := by decide
          omega
        clear hlt hval hi
        go_wp2
        go_ret2
        refine ⟨?_, HB1.out⟩
        rw [HR.out]
        rfl
  | false =>
    have hr : restT T = T := by unfold restT; rw [hm]; rfl
    have hsr : strOf (restT T) = strOf T := by rw [hr]
    have hlr : T.length = (restT T).length := by rw [hr]
    have hmr : ¬ (0 < T.length ∧ nth T 0 = 45) := of_decide_eq_false hm
    have dm : nth (restT T) 0 = 45 → (restT T).length = 0 := fun e => by
      rw [hr] at e ⊢
      rcases Nat.eq_zero_or_pos T.length with h | h
      · exact h
      · exact absurd ⟨h, e⟩ hmr
    rw [← hsr] at v1 HW1 ⊢
    rw [hm] at hdef hsm
    simp only [Bool.false_eq_true, if_false] at hdef
    have HDEF := hide hdef
    have HSM := hide hsm
    clear hr hsr hlr hmr hm hdef hsm hrl hrn hU hUl hT hsT
    generalize restT T = U at *
    obtain ⟨n, hn⟩ : ∃ n, U.length = n := ⟨_, rfl⟩
    have HUN := hide hn
    rw [hn] at hsU HSM
    generalize strOf U = u at *
    rw [hn] at dm
    clear hn
    by_cases hn0 : n = 0
    · have d0 : ¬ (n : Int) > 0 := by omega
      have d7 : (n : Int) < 1 := by omega
      clear dm
      go_enter Tryz.func30, Tryz.ntmps30
      go_upto_region 1 with fail
      rw [HW1.out]
      clear HW1
      have HR : Hid (intJ 3 T = none) := by
        rw [Hid, HJ.out]
        exact int_of_bad (fun h => by have h := HSM.out.1 h; omega)
      go_wp2
      go_ret2
      refine ⟨?_, HB1.out⟩
      rw [HR.out]
      rfl
    have d0 : (n : Int) > 0 := by omega
    have q0 : ∀ W : World, (Instr.index 9 (.string u) (.int .i64 0)).run Tryz.prog W = .ok (.int .u8 ((nth U 0 : Nat) : Int)) W := fun W => HIU.out W 0 (by rw [HUN.out]; omega)
    have dm2 : (((nth U 0 : Nat) : Int) == 45) = false := by
      rw [beq_eq_false_iff_ne]
      intro e
      exact hn0 (dm (by omega))
    clear dm
    have hn1 : ¬ n < 1 := by omega
    have d7 : ¬ (n : Int) < 1 := by omega
    by_cases h9 : n ≤ 9
    rotate_left
    · have d8 : (n : Int) > 9 := by omega
      go_enter Tryz.func30, Tryz.ntmps30
      go_upto_region 1 with fail
      rw [HW1.out]
      clear HW1
      have HR : Hid (intJ 3 T = none) := by
        rw [Hid, HJ.out]
        exact int_of_bad (fun h => by have h := HSM.out.1 h; omega)
      go_wp2
      go_ret2
      refine ⟨?_, HB1.out⟩
      rw [HR.out]
      rfl
    have d8 : ¬ (n : Int) > 9 := by omega
    have H9 := hide h9
    obtain ⟨x0, hx0⟩ : ∃ x0, nth U 0 = x0 := ⟨_, rfl⟩
    rw [hx0] at q0 dm2 HSM
    clear hx0
    by_cases hz : x0 = 48
    · subst hz
      have qz : ∀ W : World, (Instr.index 9 (.string u) (.int .i64 0)).run Tryz.prog W = .ok (.int .u8 48) W := q0
      clear q0 dm2
      by_cases hn2 : 1 < n
      · have d9 : (n : Int) > 1 := by omega
        go_enter Tryz.func30, Tryz.ntmps30
        go_upto_region 1 with fail
        rw [HW1.out]
        clear HW1
        have HR : Hid (intJ 3 T = none) := by
          rw [Hid, HJ.out]
          exact int_of_bad (fun h => by have h := HSM.out.1 h; exact h.2.2 ⟨rfl, .inl hn2⟩)
        go_wp2
        go_ret2
        refine ⟨?_, HB1.out⟩
        rw [HR.out]
        rfl
      · have d9 : ¬ (n : Int) > 1 := by omega
        have HN2 := hide hn2
        have HS : Hid (smallT T) := HSM.out.2 (by refine ⟨by omega, by omega, fun h => ?_⟩; rcases h.2 with h | h; exact HN2.out h; cases h)
        clear hn1
        go_enter Tryz.func30, Tryz.ntmps30
        go_upto_region 1 with fail
        rw [HW1.out]
        clear HW1
        have HV : Hid (intJ 3 T = (valT 0 U).map (fun u : Nat => (u : Int))) := by
          rw [Hid, HJ.out, HDEF.out, if_pos HS.out]
          try rfl
        go_wp2
        go_loopw [6, 7] (fun nv iv wr => ∃ i acc : Nat, i ≤ n ∧ iv = .int .i64 (i : Int) ∧ nv = .int .i64 (acc : Int) ∧ acc < 10 ^ i ∧ valT acc (U.drop i) = valT 0 U ∧ wr = w1) (fun _ iv _ => n - (RowKit.intOf iv).toNat)
        case atStart => exact ⟨0, 0, Nat.zero_le _, rfl, rfl, by omega, by rw [List.drop_zero], rfl⟩
        case round =>
          obtain ⟨i, acc, hi, rfl, rfl, hacc, hval, rfl⟩ := hrel
          have HACC := hide hacc
          have HVAL := hide hval
          clear hacc hval
          by_cases hlt : i < n
          · have d1 : (i : Int) < (n : Int) := by omega
            have d2 : (0 : Int) ≤ (i : Int) := by omega
            have qi := fun W => HIU.out W i (by rw [HUN.out]; exact hlt)
            have hstep := drop_step (U := U) (i := i) (by rw [HUN.out]; exact hlt)
            have HXB : Hid (nth U i < 256) := nth_byt HUB.out i
            have hval := HVAL.out
            rw [hstep] at hval
            obtain ⟨x, hx⟩ : ∃ x, nth U i = x := ⟨_, rfl⟩
            rw [hx] at qi hval HXB
            have HILT := hide hlt
            clear hstep hlt hx
            by_cases hdig : 48 ≤ x ∧ x ≤ 57
            · obtain ⟨y, rfl⟩ : ∃ y, x = 48 + y := ⟨x - 48, by omega⟩
              rw [valT_step hdig] at hval
              have hsm : acc < 100000000 := by
                have h1 := HACC.out
                have h2 := Nat.pow_le_pow_right (show 0 < 10 by omega) (show i ≤ 8 by have := HILT.out; have := H9.out; omega)
                have h3 : (10 : Nat) ^ 8 = 100000000 := by decide
                omega
              obtain ⟨a1, ha1⟩ : ∃ a1, acc * 10 + (48 + y - 48) = a1 := ⟨_, rfl⟩
              obtain ⟨i1, hi1⟩ : ∃ i1, i + 1 = i1 := ⟨_, rfl⟩
              rw [ha1, hi1] at hval
              have e1 : (i : Int) + 1 = (i1 : Int) := by omega
              have e2 : ((48 + y : Nat) : Int) - 48 = (y : Int) := by omega
              have e3 : (acc : Int) * 10 + (y : Int) = (a1 : Int) := by omega
              have g1 : (i1 : Int) ≤ 9 := by have := HILT.out; have := H9.out; omega
              have g2 : (y : Int) ≤ 9 := by omega
              have g3 : (a1 : Int) ≤ 1000000000 := by omega
              have g4 : (acc : Int) * 10 ≤ 1000000000 := by omega
              have g5 : (0 : Int) ≤ (acc : Int) * 10 := by omega
              have d3 : ¬ ((48 + y : Nat) : Int) < 48 := by omega
              have d4 : ¬ ((48 + y : Nat) : Int) > 57 := by omega
              have HA1 : Hid (a1 < 10 ^ i1) := by
                rw [Hid, ← hi1, Nat.pow_succ]
                have := HACC.out
                omega
              have HVAL2 := hide hval
              have HI1 := hide hi1
              generalize ((48 + y : Nat) : Int) = xz at *
              clear hval hi1 ha1 hdig hsm hi
              go_wp2
              go_roundw
              case rel => exact ⟨i1, a1, by have := HILT.out; have := HI1.out; omega, by first | rfl | go_num, by first | rfl | go_num, HA1.out, HVAL2.out, by first | rfl | trivial⟩
              case measure => have := HILT.out; have := HI1.out; simp [RowKit.intOf]; omega
            · rw [valT_stop hdig] at hval
              have HR : Hid (intJ 3 T = none) := by rw [Hid, HV.out, ← hval]; rfl
              clear hval
              by_cases h48 : x < 48
              · have d3 : (x : Int) < 48 := by omega
                clear hdig h48 hi
                go_wp2
                go_ret2
                refine ⟨?_, HB1.out⟩
                rw [HR.out]
                rfl
              · have d3 : ¬ (x : Int) < 48 := by omega
                have d4 : (x : Int) > 57 := by omega
                clear hdig h48 hi
                go_wp2
                go_ret2
                refine ⟨?_, HB1.out⟩
                rw [HR.out]
                rfl
          · obtain rfl : i = n := by omega
            have d1 : ¬ (i : Int) < (i : Int) := by omega
            have hval := HVAL.out
            rw [List.drop_eq_nil_of_le (by rw [HUN.out]; exact Nat.le_refl _)] at hval
            have HR : Hid (intJ 3 T = some ((acc : Int))) := by rw [Hid, HV.out, ← hval]; rfl
            have g4 : (acc : Int) ≤ 1000000000 := by
              have h1 := HACC.out
              have h2 := Nat.pow_le_pow_right (show 0 < 10 by omega) (show i ≤ 9 by have := H9.out; omega)
              have h3 : (10 : Nat) ^ 9 = 1000000000 := by decide
              omega
            clear hlt hval hi
            go_wp2
            go_ret2
            refine ⟨?_, HB1.out⟩
            rw [HR.out]
            rfl
    have d10 : ((x0 : Int) == 48) = false := by rw [beq_eq_false_iff_ne]; omega
    have HZ := hide hz
    clear hz
    have HS : Hid (smallT T) := HSM.out.2 (by exact ⟨by omega, by omega, fun h => HZ.out h.1⟩)
    clear hn1
    go_enter Tryz.func30, Tryz.ntmps30
    go_upto_region 1 with fail
    rw [HW1.out]
    clear HW1
    have HV : Hid (intJ 3 T = (valT 0 U).map (fun u : Nat => (u : Int))) := by
      rw [Hid, HJ.out, HDEF.out, if_pos HS.out]
      try rfl
    go_wp2
    go_loopw [6, 7] (fun nv iv wr => ∃ i acc : Nat, i ≤ n ∧ iv = .int .i64 (i : Int) ∧ nv = .int .i64 (acc : Int) ∧ acc < 10 ^ i ∧ valT acc (U.drop i) = valT 0 U ∧ wr = w1) (fun _ iv _ => n - (RowKit.intOf iv).toNat)
    case atStart => exact ⟨0, 0, Nat.zero_le _, rfl, rfl, by omega, by rw [List.drop_zero], rfl⟩
    case round =>
      obtain ⟨i, acc, hi, rfl, rfl, hacc, hval, rfl⟩ := hrel
      have HACC := hide hacc
      have HVAL := hide hval
      clear hacc hval
      by_cases hlt : i < n
      · have d1 : (i : Int) < (n : Int) := by omega
        have d2 : (0 : Int) ≤ (i : Int) := by omega
        have qi := fun W => HIU.out W i (by rw [HUN.out]; exact hlt)
        have hstep := drop_step (U := U) (i := i) (by rw [HUN.out]; exact hlt)
        have HXB : Hid (nth U i < 256) := nth_byt HUB.out i
        have hval := HVAL.out
        rw [hstep] at hval
        obtain ⟨x, hx⟩ : ∃ x, nth U i = x := ⟨_, rfl⟩
        rw [hx] at qi hval HXB
        have HILT := hide hlt
        clear hstep hlt hx
        by_cases hdig : 48 ≤ x ∧ x ≤ 57
        · obtain ⟨y, rfl⟩ : ∃ y, x = 48 + y := ⟨x - 48, by omega⟩
          rw [valT_step hdig] at hval
          have hsm : acc < 100000000 := by
            have h1 := HACC.out
            have h2 := Nat.pow_le_pow_right (show 0 < 10 by omega) (show i ≤ 8 by have := HILT.out; have := H9.out; omega)
            have h3 : (10 : Nat) ^ 8 = 100000000 := by decide
            omega
          obtain ⟨a1, ha1⟩ : ∃ a1, acc * 10 + (48 + y - 48) = a1 := ⟨_, rfl⟩
          obtain ⟨i1, hi1⟩ : ∃ i1, i + 1 = i1 := ⟨_, rfl⟩
          rw [ha1, hi1] at hval
          have e1 : (i : Int) + 1 = (i1 : Int) := by omega
          have e2 : ((48 + y : Nat) : Int) - 48 = (y : Int) := by omega
          have e3 : (acc : Int) * 10 + (y : Int) = (a1 : Int) := by omega
          have g1 : (i1 : Int) ≤ 9 := by have := HILT.out; have := H9.out; omega
          have g2 : (y : Int) ≤ 9 := by omega
          have g3 : (a1 : Int) ≤ 1000000000 := by omega
          have g4 : (acc : Int) * 10 ≤ 1000000000 := by omega
          have g5 : (0 : Int) ≤ (acc : Int) * 10 := by omega
          have d3 : ¬ ((48 + y : Nat) : Int) < 48 := by omega
          have d4 : ¬ ((48 + y : Nat) : Int) > 57 := by omega
          have HA1 : Hid (a1 < 10 ^ i1) := by
            rw [Hid, ← hi1, Nat.pow_succ]
            have := HACC.out
            omega
          have HVAL2 := hide hval
          have HI1 := hide hi1
          generalize ((48 + y : Nat) : Int) = xz at *
          clear hval hi1 ha1 hdig hsm hi
          go_wp2
          go_roundw
          case rel => exact ⟨i1, a1, by have := HILT.out; have := HI1.out; omega, by first | rfl | go_num, by first | rfl | go_num, HA1.out, HVAL2.out, by first | rfl | trivial⟩
          case measure => have := HILT.out; have := HI1.out; simp [RowKit.intOf]; omega
        · rw [valT_stop hdig] at hval
          have HR : Hid (intJ 3 T = none) := by rw [Hid, HV.out, ← hval]; rfl
          clear hval
          by_cases h48 : x < 48
          · have d3 : (x : Int) < 48 := by omega
            clear hdig h48 hi
            go_wp2
            go_ret2
            refine ⟨?_, HB1.out⟩
            rw [HR.out]
            rfl
          · have d3 : ¬ (x : Int) < 48 := by omega
            have d4 : (x : Int) > 57 := by omega
            clear hdig h48 hi
            go_wp2
            go_ret2
            refine ⟨?_, HB1.out⟩
            rw [HR.out]
            rfl
      · obtain rfl : i = n := by omega
        have d1 : ¬ (i : Int) < (i : Int) := by omega
        have hval := HVAL.out
        rw [List.drop_eq_nil_of_le (by rw [HUN.out]; exact Nat.le_refl _)] at hval
        have HR : Hid (intJ 3 T = some ((acc : Int))) := by rw [Hid, HV.out, ← hval]; rfl
        have g4 : (acc : Int) ≤ 1000000000 := by
          have h1 := HACC.out
          have h2 := Nat.pow_le_pow_right (show 0 < 10 by omega) (show i ≤ 9 by have := H9.out; omega)
          have h3 : (10 : Nat) ^ 9 = 1000000000 := by decide
          omega
        clear hlt hval hi
        go_wp2
        go_ret2
        refine ⟨?_, HB1.out⟩
        rw [HR.out]
        rfl

set_option maxHeartbeats 8000000 in
theorem jint_all (w : World) (k : Int) (T : List Nat) (hT : ∀ x ∈ T, x < 256) (hl : k = 3 → T.length ≤ 100000) (ka la : Option Addr) (kn kc ln lc : Nat) (hE : ErrS w) :
    Calls Tryz.prog 52 #[vagg (k, strOf T, .slice ka kn kc, .slice la ln lc)] w (IntR k T w) := by
  by_cases h3 : k = 3
  · exact jint_any w k T hT (hl h3) ka la kn kc ln lc hE
  unfold vagg
  simp only
  have hb1 := bel w (.cells #[.int .i64 k, .string (strOf T), .slice ka kn kc, .slice la ln lc] 27)
  have hx1 := BoxC.new w 27 #[.int .i64 k, .string (strOf T), .slice ka kn kc, .slice la ln lc]
  obtain ⟨w1, hw1⟩ : ∃ w1, w.alloc (.cells #[.int .i64 k, .string (strOf T), .slice ka kn kc, .slice la ln lc] 27) = w1 := ⟨_, rfl⟩
  rw [hw1] at hb1 hx1
  have v0 : w1.cell? ⟨w.heap.size, 0, none⟩ = some (.int .i64 k) := hx1.cell 0
  have v1 : w1.cell? ⟨w.heap.size, 1, none⟩ = some (.string (strOf T)) := hx1.cell 1
  have HW1 := hide hw1
  have HB1 := hide hb1
  have d3 : (k == 3) = false := by simpa using h3
  have d3' : (k != 3) = true := by simpa using h3
  have HR : Hid (intJ k T = none) := if_neg h3
  clear h3 hl hT hb1 hx1 hw1
  generalize strOf T = s at *
  go_enter Tryz.func52, Tryz.ntmps52
  go_upto_region 1 with fail
  rw [HW1.out]
  clear HW1
  go_wp2
  go_ret2
  refine ⟨?_, HB1.out⟩
  rw [HR.out]
  rfl

set_option maxHeartbeats 8000000 in
theorem rint_all (w : World) (k : Int) (T : List Nat) (hT : ∀ x ∈ T, x < 256) (hl : k = 3 → T.length ≤ 100000) (ka la : Option Addr) (kn kc ln lc : Nat) :
    Calls Tryz.prog 30 #[vagg (k, strOf T, .slice ka kn kc, .slice la ln lc)] w (RIntR (intJ k T) w) := by
  by_cases h3 : k = 3
  · exact rint_any w k T hT (hl h3) ka la kn kc ln lc
  unfold vagg
  simp only
  have hb1 := bel w (.cells #[.int .i64 k, .string (strOf T), .slice ka kn kc, .slice la ln lc] 36)
  have hx1 := BoxC.new w 36 #[.int .i64 k, .string (strOf T), .slice ka kn kc, .slice la ln lc]
  obtain ⟨w1, hw1⟩ : ∃ w1, w.alloc (.cells #[.int .i64 k, .string (strOf T), .slice ka kn kc, .slice la ln lc] 36) = w1 := ⟨_, rfl⟩
  rw [hw1] at hb1 hx1
  have v0 : w1.cell? ⟨w.heap.size, 0, none⟩ = some (.int .i64 k) := hx1.cell 0
  have v1 : w1.cell? ⟨w.heap.size, 1, none⟩ = some (.string (strOf T)) := hx1.cell 1
  have HW1 := hide hw1
  have HB1 := hide hb1
  have d3 : (k == 3) = false := by simpa using h3
  have d3' : (k != 3) = true := by simpa using h3
  have HR : Hid (intJ k T = none) := if_neg h3
  clear h3 hl hT hb1 hx1 hw1
  generalize strOf T = s at *
  go_enter Tryz.func30, Tryz.ntmps30
  go_upto_region 1 with fail
  rw [HW1.out]
  clear HW1
  go_wp2
  go_ret2
  refine ⟨?_, HB1.out⟩
  rw [HR.out]
  rfl

end Go.Proofs.YtbdpmpepmjpadaaGreatDoor

namespace Go.Proofs.YtbdpmpepmjpadaaGreatDoor
set_option linter.unusedVariables false
set_option linter.unusedSimpArgs false
set_option maxRecDepth 100000
open Go Go.RowKit Go.Shelf Go.Lib

theorem results_jv2 {fn : Func} {i k : Tmp} (h : fn.results = #[.cell i 27, .tmp k]) {tmps : Array Value} {W : World} {b : Nat} {x y z u : Value} {t : TypeId} {ev : Value} (hp : tmps.getD i undef = .pointer (some ⟨b, 0, none⟩)) (he : tmps.getD k undef = ev) (T : BoxC W b t #[x, y, z, u]) :
    (results fn tmps).run Tryz.prog W = .ok (.tuple #[.agg #[x, y, z, u], ev]) W := by
  have c0 : W.cell? ⟨b, 0, none⟩ = some x := T.cell 0
  have c1 : W.cell? ⟨b, 1, none⟩ = some y := T.cell 1
  have c2 : W.cell? ⟨b, 2, none⟩ = some z := T.cell 2
  have c3 : W.cell? ⟨b, 3, none⟩ = some u := T.cell 3
  have hp' : tmps[i]?.getD undef = .pointer (some ⟨b, 0, none⟩) := by simpa using hp
  have he' : tmps[k]?.getD undef = ev := by simpa using he
  simp [results, h, hp', he', go_sem, c0, c1, c2, c3]
theorem results_rv2 {fn : Func} {i k : Tmp} (h : fn.results = #[.cell i 36, .tmp k]) {tmps : Array Value} {W : World} {b : Nat} {x y z u : Value} {t : TypeId} {ev : Value} (hp : tmps.getD i undef = .pointer (some ⟨b, 0, none⟩)) (he : tmps.getD k undef = ev) (T : BoxC W b t #[x, y, z, u]) :
    (results fn tmps).run Tryz.prog W = .ok (.tuple #[.agg #[x, y, z, u], ev]) W := by
  have c0 : W.cell? ⟨b, 0, none⟩ = some x := T.cell 0
  have c1 : W.cell? ⟨b, 1, none⟩ = some y := T.cell 1
  have c2 : W.cell? ⟨b, 2, none⟩ = some z := T.cell 2
  have c3 : W.cell? ⟨b, 3, none⟩ = some u := T.cell 3
  have hp' : tmps[i]?.getD undef = .pointer (some ⟨b, 0, none⟩) := by simpa using hp
  have he' : tmps[k]?.getD undef = ev := by simpa using he
  simp [results, h, hp', he', go_sem, c0, c1, c2, c3]

/-- Where a string stands first in a row. -/
def fndK : List ByteArray → ByteArray → Option Nat
  | [], _ => none
  | a :: l, s => if a = s then some 0 else (fndK l s).map (· + 1)
theorem fnd_hit : ∀ {K : List ByteArray} {s : ByteArray} {j : Nat}, j < K.length → nthS K j = s → (∀ q, q < j → nthS K q ≠ s) → fndK K s = some j
  | [], _, j, h, _, _ => absurd h (by simp)
  | a :: l, s, 0, _, h, _ => by
    have h : a = s := by simpa [nthS] using h
    rw [fndK, if_pos h]
  | a :: l, s, j + 1, h1, h2, h3 => by
    have h0 : a ≠ s := by have := h3 0 (by omega); simpa [nthS] using this
    rw [fndK, if_neg h0, fnd_hit (K := l) (j := j) (by simpa using h1) (by simpa [nthS] using h2) (fun q hq => by have := h3 (q + 1) (by omega); simpa [nthS] using this)]
    rfl
theorem fnd_none : ∀ {K : List ByteArray} {s : ByteArray}, (∀ q, q < K.length → nthS K q ≠ s) → fndK K s = none
  | [], _, _ => rfl
  | a :: l, s, h => by
    have h0 : a ≠ s := by have := h 0 (by simp); simpa [nthS] using this
    rw [fndK, if_neg h0, fnd_none (K := l) (fun q hq => by have := h (q + 1) (by simpa using hq); simpa [nthS] using this)]
    rfl
theorem fnd_lt : ∀ {K : List ByteArray} {s : ByteArray} {j : Nat}, fndK K s = some j → j < K.length
  | [], _, _, h => by simp [fndK] at h
  | a :: l, s, j, h => by
    rw [fndK] at h
    split at h
    · cases h; simp
    · obtain ⟨q, hq, rfl⟩ := Option.map_eq_some_iff.1 h
      have := fnd_lt hq
      simp; omega

/-- What Index answers. -/
def idxV (o : Option Nat) : Int := match o with | some j => (j : Int) | none => -1
def IdxR (K : List ByteArray) (s : ByteArray) (w : World) (e : Ending) (w' : World) : Prop := e = .returned (.int .i64 (idxV (fndK K s))) ∧ Below w.heap.size w w'
set_option maxHeartbeats 8000000 in
theorem idx_any {S : Nat → Prop} {u : Value} {K : List ByteArray} (s : ByteArray) (w : World) (h : StrsS w S u K) (hl : K.length ≤ 1000000) : Calls Tryz.prog 50 #[u, .string s] w (IdxR K s w) := by
  obtain ⟨ka, kc, rfl, hKc⟩ := h
  obtain ⟨kn, hkn⟩ : ∃ kn, K.length = kn := ⟨_, rfl⟩
  have HKC : Hid (∀ w2, Below w.heap.size w w2 → ∀ j, j < kn → ∃ b off, ka = some ⟨b, off, none⟩ ∧ w2.cell? ⟨b, off + j, none⟩ = some (.string (nthS K j))) := fun w2 h2 j hj => by
    obtain ⟨b, off, e, _, hx⟩ := hKc j (by omega)
    exact ⟨b, off, e, (h2.cell (p := ⟨b, off + j, none⟩) (block_lt hx)).trans hx⟩
  have HKN := hide hkn
  have HH : Hid (kn ≤ 1000000) := by show kn ≤ 1000000; omega
  rw [hkn]
  clear hKc hkn hl
  go_enter Tryz.func50, Tryz.ntmps50
  go_wp2
  go_loopw [8] (fun iv wr => ∃ j : Nat, j ≤ kn ∧ iv = .int .i64 (j : Int) ∧ Below w.heap.size w wr ∧ ∀ q, q < j → nthS K q ≠ s) (fun iv _ => kn - (RowKit.intOf iv).toNat)
  case atStart => exact ⟨0, Nat.zero_le _, rfl, Below.refl _ _, fun q h => by omega⟩
  case round =>
    obtain ⟨j, hj, rfl, hB, hQ⟩ := hrel
    have HQ := hide hQ
    have HB2 := hide hB
    clear hB hQ
    generalize wr = wo at *
    by_cases hlt : j < kn
    · obtain ⟨b, off, rfl, cx⟩ := HKC.out wo HB2.out j hlt
      obtain ⟨j1, hj1⟩ : ∃ j1, j + 1 = j1 := ⟨_, rfl⟩
      have e2 : (j : Int) + 1 = (j1 : Int) := by omega
      have g1 : (j1 : Int) ≤ 1000000000 := by have := HH.out; omega
      have d5 : (j : Int) < (kn : Int) := by omega
      have d0 : (0 : Int) ≤ (j : Int) := by omega
      have HI := hide (And.intro hlt hj1)
      obtain ⟨t, ht⟩ : ∃ t, nthS K j = t := ⟨_, rfl⟩
      rw [ht] at cx
      have HTJ := hide ht
      clear hlt hj1 hj ht
      by_cases htu : s = t
      · subst htu
        have HR := hide (fnd_hit (K := K) (s := s) (j := j) (by have := HI.out; have := HKN.out; omega) HTJ.out HQ.out)
        go_wp2
        go_ret
        refine ⟨?_, HB2.out⟩
        rw [HR.out]
        rfl
      · have dne : (s.toList == t.toList) = false := str_ne htu
        have HKK := hide htu
        clear htu
        go_wp2
        go_roundw
        case rel =>
          refine ⟨j1, by have := HI.out; omega, by first | rfl | go_num, HB2.out, fun q hq => ?_⟩
          rcases Nat.lt_or_ge q j with h | h
          · exact HQ.out q h
          · obtain rfl : q = j := by have := HI.out; omega
            rw [HTJ.out]
            exact fun e => HKK.out e.symm
        case measure => have := HI.out; simp [RowKit.intOf]; omega
    · obtain rfl : j = kn := by omega
      have d5 : ¬ (j : Int) < (j : Int) := by omega
      have HR := hide (fnd_none (K := K) (s := s) (fun q hq => HQ.out q (by have := HKN.out; omega)))
      clear hlt hj
      go_wp2
      go_ret
      refine ⟨?_, HB2.out⟩
      rw [HR.out]
      rfl

/-- What stands under a key. -/
def getJ (T : JT) (s : ByteArray) : Option JT := match T with
  | .mk k _ K L => if k = 6 ∧ K.length = L.length then (fndK K s).bind (fun j => L[j]?) else none
def zeroT : JT := .mk 0 ⟨#[]⟩ [] []
def zeroC : JC := (0, ⟨#[]⟩, .slice none 0 0, .slice none 0 0)
theorem zero_in (W : World) (S : Nat → Prop) : TIn W S zeroC zeroT := .mk 0 ⟨#[]⟩ (.slice none 0 0) none 0 [] [] (fun _ => zeroC) strs_nil (fun i hi => by simp at hi) (fun i hi => by simp at hi) (fun i hi => by simp at hi)
/-- What Get answers. -/
def GetR (o : Option JT) (w : World) (e : Ending) (w' : World) : Prop := ∃ y : JC, e = .returned (.tuple #[vagg y, .bool o.isSome]) ∧ Below w.heap.size w w' ∧ TIn w' (fun b => w.heap.size ≤ b) y ((o.map clJ).getD zeroT)

set_option maxHeartbeats 16000000 in
theorem get_any {S : Nat → Prop} {x : JC} {T : JT} (s : ByteArray) (w : World) (h : TIn w S x T) (hl : LtT T) : Calls Tryz.prog 24 #[vagg x, .string s] w (GetR (getJ T s) w) := by
  cases h with
  | mk k s0 kv la lc K L xs hK hc hsl ht =>
    obtain ⟨_, _, _, _, hKl, hLl, hsz, hll⟩ := hl
    obtain ⟨ka, kc, rfl, hKc⟩ := hK
    have hKS : StrsS w S (.slice ka K.length kc) K := ⟨ka, kc, rfl, hKc⟩
    unfold vagg
    simp only
    obtain ⟨kn, hkn⟩ : ∃ kn, K.length = kn := ⟨_, rfl⟩
    obtain ⟨n, hn⟩ : ∃ n, L.length = n := ⟨_, rfl⟩
    have HGJ : Hid (getJ (.mk k s0 K L) s = if k = 6 ∧ kn = n then (fndK K s).bind (fun j => L[j]?) else none) := by
      rw [Hid, ← hkn, ← hn]
      rfl
    rw [hkn] at hKS
    rw [hkn, hn]
    have hb : Below w.heap.size w ((w.alloc (.cells #[.int .i64 k, .string s0, .slice ka kn kc, .slice la n lc] 27)).alloc (.cells #[.int .i64 0, .string ⟨#[]⟩, .slice none 0 0, .slice none 0 0] 27)) := (bel w _).alloc (by simp) _
    have hp := (BoxC.new w 27 #[.int .i64 k, .string s0, .slice ka kn kc, .slice la n lc]).alloc (.cells #[.int .i64 0, .string ⟨#[]⟩, .slice none 0 0, .slice none 0 0] 27)
    have hq := BoxC.new (w.alloc (.cells #[.int .i64 k, .string s0, .slice ka kn kc, .slice la n lc] 27)) 27 #[.int .i64 0, .string ⟨#[]⟩, .slice none 0 0, .slice none 0 0]
    rw [World.size_alloc] at hq
    generalize hw0 : (w.alloc (.cells #[.int .i64 k, .string s0, .slice ka kn kc, .slice la n lc] 27)).alloc (.cells #[.int .i64 0, .string ⟨#[]⟩, .slice none 0 0, .slice none 0 0] 27) = w0 at *
    have HIX := hide (fun W (hW : Below w0.heap.size w0 W) => idx_any s W (hKS.keep (W' := W) (S' := S) (fun b hs hlt => ⟨hs, (hb.trans (hW.mono hb.size)).block b hlt⟩)) (by omega))
    have HPC : Hid (∀ W, Below w0.heap.size w0 W → ∀ i, i < n → ∃ b off, la = some ⟨b, off, none⟩ ∧ ∀ r, r < 4 → W.cell? ⟨b, off + (i * 4 + r), none⟩ = (vcell (xs i))[r]?) := fun W hW i hi => by
      obtain ⟨b, off, e, _, hx⟩ := hc i (by omega)
      refine ⟨b, off, e, fun r hr => ?_⟩
      have h0 := hx 0 (by omega)
      simp only [vcell, List.getElem?_cons_zero] at h0
      exact ((hb.trans (hW.mono hb.size)).cell (p := ⟨b, off + (i * 4 + r), none⟩) (block_lt h0)).trans (hx r hr)
    have HKC : Hid (∀ W, Below w0.heap.size w0 W → ∀ j, j < kn → ∃ b off, ka = some ⟨b, off, none⟩ ∧ W.cell? ⟨b, off + j, none⟩ = some (.string (nthS K j))) := fun W hW j hj => by
      obtain ⟨b, off, e, _, hx⟩ := hKc j (by omega)
      exact ⟨b, off, e, ((hb.trans (hW.mono hb.size)).cell (p := ⟨b, off + j, none⟩) (block_lt hx)).trans hx⟩
    have HPT : Hid (∀ i, i < n → ∃ Ti, L[i]? = some Ti ∧ TIn w S (xs i) Ti ∧ LtT Ti ∧ IsSl (xs i).2.2.1 ∧ IsSl (xs i).2.2.2) := fun i hi => ⟨L[i]'(by omega), List.getElem?_eq_getElem _, ht i (by omega), hll i (by omega), (hsl i (by omega)).1, (hsl i (by omega)).2⟩
    have p0 : w0.cell? ⟨w.heap.size, 0, none⟩ = some (.int .i64 k) := hp.cell 0
    have p1 : w0.cell? ⟨w.heap.size, 1, none⟩ = some (.string s0) := hp.cell 1
    have p2 : w0.cell? ⟨w.heap.size, 2, none⟩ = some (.slice ka kn kc) := hp.cell 2
    have p3 : w0.cell? ⟨w.heap.size, 3, none⟩ = some (.slice la n lc) := hp.cell 3
    have z0 := hq.cell 0
    have z1 := hq.cell 1
    have z2 := hq.cell 2
    have z3 := hq.cell 3
    simp only [List.getElem?_toArray, List.getElem?_cons_zero, List.getElem?_cons_succ] at z0 z1 z2 z3
    have y0 := hq.frozen 0
    have y1 := hq.frozen 1
    have y2 := hq.frozen 2
    have y3 := hq.frozen 3
    have lX := hq.lt
    have HKN : Hid (kn ≤ 1000000) := by show kn ≤ 1000000; omega
    have HKL := hide hkn
    have HW0 := hide hw0
    have HP := hide hp
    have HQ := hide hq
    have HB := hide hb
    clear hw0 hp hq hb hKc hc hsl ht hKS hKl hLl hsz hll hkn hn
    by_cases h6 : k = 6
    rotate_left
    · have d6 : (k == 6) = false := by simpa using h6
      have d6' : (k != 6) = true := by simpa using h6
      have HR : Hid (getJ (.mk k s0 K L) s = none) := by rw [Hid, HGJ.out]; exact if_neg (fun h => h6 h.1)
      clear h6
      go_enter Tryz.func24, Tryz.ntmps24
      go_upto_region 1 with fail
      rw [HW0.out]
      clear HW0
      go_wp2
      refine bodyPost_ret (results_jv2 rfl rfl rfl (resJ_v HQ.out (.int .i64 0) (.string ⟨#[]⟩) (.slice none 0 0) (.slice none 0 0))) rfl ?_
      rw [HR.out]
      exact ⟨zeroC, rfl, below4 HB.out (Nat.le_succ _) _ _ _ _, zero_in _ _⟩
    subst h6
    by_cases hkn : kn = n
    rotate_left
    · have d7 : ((kn : Int) != (n : Int)) = true := by simp; omega
      have HR : Hid (getJ (.mk 6 s0 K L) s = none) := by rw [Hid, HGJ.out]; exact if_neg (fun h => hkn h.2)
      clear hkn
      go_enter Tryz.func24, Tryz.ntmps24
      go_upto_region 1 with fail
      rw [HW0.out]
      clear HW0
      go_wp2
      refine bodyPost_ret (results_jv2 rfl rfl rfl (resJ_v HQ.out (.int .i64 0) (.string ⟨#[]⟩) (.slice none 0 0) (.slice none 0 0))) rfl ?_
      rw [HR.out]
      exact ⟨zeroC, rfl, below4 HB.out (Nat.le_succ _) _ _ _ _, zero_in _ _⟩
    subst hkn
    have d7 : ((kn : Int) != (kn : Int)) = false := by simp
    have HGF : Hid (getJ (.mk 6 s0 K L) s = (fndK K s).bind (fun j => L[j]?)) := by rw [Hid, HGJ.out]; exact if_pos ⟨rfl, rfl⟩
    clear HGJ
    cases hf : fndK K s with
    | none =>
      have HIX0 := hide (HIX.out w0 (Below.refl _ _))
      have HR : Hid (getJ (.mk 6 s0 K L) s = none) := by rw [Hid, HGF.out, hf]; rfl
      have HF := hide hf
      clear hf HIX
      go_enter Tryz.func24, Tryz.ntmps24
      go_upto_region 1 with fail
      rw [HW0.out]
      clear HW0
      go_wp2_with fail
      refine HIX0.out.mono ?_
      rintro e w1 ⟨rfl, hb1⟩
      rw [HF.out]
      simp only [idxV]
      have HB1 := hide (HB.out.trans (hb1.mono HB.out.size))
      have hq1 := HQ.out.below hb1
      have HQ1 := hide hq1
      clear z0 z1 z2 z3 y0 y1 y2 y3 lX p0 p1 p2 p3 hb1
      have z0 := hq1.cell 0
      have z1 := hq1.cell 1
      have z2 := hq1.cell 2
      have z3 := hq1.cell 3
      simp only [List.getElem?_toArray, List.getElem?_cons_zero, List.getElem?_cons_succ] at z0 z1 z2 z3
      have y0 := hq1.frozen 0
      have y1 := hq1.frozen 1
      have y2 := hq1.frozen 2
      have y3 := hq1.frozen 3
      have lX := hq1.lt
      clear hq1
      go_wp2
      refine bodyPost_ret (results_jv2 rfl rfl rfl (resJ_v HQ1.out (.int .i64 0) (.string ⟨#[]⟩) (.slice none 0 0) (.slice none 0 0))) rfl ?_
      rw [HR.out]
      exact ⟨zeroC, rfl, below4 HB1.out (Nat.le_succ _) _ _ _ _, zero_in _ _⟩
    | some j =>
      have HIX0 := hide (HIX.out w0 (Below.refl _ _))
      have hjl : j < kn := by have := fnd_lt hf; have := HKL.out; omega
      obtain ⟨Tj, hTj, hin, hlt, hs2, hs3⟩ := HPT.out j hjl
      have HR : Hid (getJ (.mk 6 s0 K L) s = some Tj) := by rw [Hid, HGF.out, hf]; exact hTj
      have HF := hide hf
      have HCL := hide (fun W (hW : Below w0.heap.size w0 W) => clone_any hin hlt W (HB.out.trans (hW.mono HB.out.size)))
      have hpc := fun W hW => HPC.out W hW j hjl
      generalize xs j = y at *
      obtain ⟨yk, ys', yK, yL⟩ := y
      simp only [vagg, vcell] at hpc hs2 hs3 HCL
      obtain ⟨ka', kl', kc', rfl⟩ := hs2
      obtain ⟨la', ll', lc', rfl⟩ := hs3
      have HPJ := hide hpc
      have HJL := hide hjl
      have d8 : (j : Int) < (kn : Int) := by omega
      have d9 : ¬ (j : Int) < 0 := by omega
      have d10 : (0 : Int) ≤ (j : Int) := by omega
      clear hf HIX hTj hin hlt hpc hjl
      go_enter Tryz.func24, Tryz.ntmps24
      go_upto_region 1 with fail
      rw [HW0.out]
      clear HW0
      go_wp2_with fail
      refine HIX0.out.mono ?_
      rintro e w1 ⟨rfl, hb1⟩
      rw [HF.out]
      simp only [idxV]
      have HB1 := hide (HB.out.trans (hb1.mono HB.out.size))
      have HBI := hide hb1
      have HP1 := hide (HP.out.below hb1)
      have HQ1 := hide (HQ.out.below hb1)
      clear z0 z1 z2 z3 y0 y1 y2 y3 lX p0 p1 p2 p3 hb1
      have p3 : w1.cell? ⟨w.heap.size, 3, none⟩ = some (.slice la kn lc) := HP1.out.cell 3
      obtain ⟨b, off, rfl, hx⟩ := HPJ.out w1 HBI.out
      have x0 := hx 0 (by omega)
      have x1 := hx 1 (by omega)
      have x2 := hx 2 (by omega)
      have x3 := hx 3 (by omega)
      simp only [List.getElem?_cons_zero, List.getElem?_cons_succ, ← Nat.add_assoc, Nat.add_zero] at x0 x1 x2 x3
      clear hx
      go_wp2_with fail
      refine (HCL.out w1 HBI.out).mono ?_
      rintro e w2 ⟨y', rfl, hb2, hT2⟩
      obtain ⟨yk2, ys2, yK2, yL2⟩ := y'
      obtain ⟨hs4, hs5⟩ := hT2.sl
      simp only at hs4 hs5
      obtain ⟨pa, pn, pc, rfl⟩ := hs4
      obtain ⟨qa, qn, qc, rfl⟩ := hs5
      simp only [vagg]
      have HB2 := hide (HB1.out.trans (hb2.mono HB1.out.size))
      have hq2 := HQ1.out.below hb2
      have HQ2 := hide hq2
      have z0 := hq2.cell 0
      have z1 := hq2.cell 1
      have z2 := hq2.cell 2
      have z3 := hq2.cell 3
      simp only [List.getElem?_toArray, List.getElem?_cons_zero, List.getElem?_cons_succ] at z0 z1 z2 z3
      have y0 := hq2.frozen 0
      have y1 := hq2.frozen 1
      have y2 := hq2.frozen 2
      have y3 := hq2.frozen 3
      have lX := hq2.lt
      have HT2 := hide (hT2.keep (W' := (((w2.setCell ⟨w.heap.size + 1, 0, none⟩ (.int .i64 yk2)).setCell ⟨w.heap.size + 1, 1, none⟩ (.string ys2)).setCell ⟨w.heap.size + 1, 2, none⟩ (.slice pa pn pc)).setCell ⟨w.heap.size + 1, 3, none⟩ (.slice qa qn qc)) (S' := fun b => w.heap.size ≤ b) (fun b hs hlt => by
        have hs' : w1.heap.size ≤ b := hs
        have hlq := HQ1.out.lt
        refine ⟨by show w.heap.size ≤ b; omega, ?_⟩
        have hne : b ≠ w.heap.size + 1 := by omega
        rw [Below.heap_setCell _ ⟨w.heap.size + 1, 3, none⟩ _ b hne, Below.heap_setCell _ ⟨w.heap.size + 1, 2, none⟩ _ b hne, Below.heap_setCell _ ⟨w.heap.size + 1, 1, none⟩ _ b hne, Below.heap_setCell _ ⟨w.heap.size + 1, 0, none⟩ _ b hne]))
      clear hq2 hb2 hT2 x0 x1 x2 x3 p3
      go_wp2
      refine bodyPost_ret (results_jv2 rfl rfl rfl (resJ_v HQ2.out (.int .i64 yk2) (.string ys2) (.slice pa pn pc) (.slice qa qn qc))) rfl ?_
      rw [HR.out]
      exact ⟨(yk2, ys2, .slice pa pn pc, .slice qa qn qc), rfl, below4 HB2.out (Nat.le_succ _) _ _ _ _, HT2.out⟩

/-- What the reference's Get answers. -/
def RGetR (S : Nat → Prop) (o : Option JT) (w : World) (e : Ending) (w' : World) : Prop := ∃ y : JC, e = .returned (.tuple #[vagg y, .bool o.isSome]) ∧ Below w.heap.size w w' ∧ TIn w' S y (o.getD zeroT)

set_option maxHeartbeats 16000000 in
theorem rget_any {S : Nat → Prop} {x : JC} {T : JT} (s : ByteArray) (w : World) (h : TIn w S x T) (hl : LtT T) : Calls Tryz.prog 29 #[vagg x, .string s] w (RGetR S (getJ T s) w) := by
  cases h with
  | mk k s0 kv la lc K L xs hK hc hsl ht =>
    obtain ⟨_, _, _, _, hKl, hLl, hsz, hll⟩ := hl
    obtain ⟨ka, kc, rfl, hKc⟩ := hK
    have hKS : StrsS w S (.slice ka K.length kc) K := ⟨ka, kc, rfl, hKc⟩
    unfold vagg
    simp only
    obtain ⟨kn, hkn⟩ : ∃ kn, K.length = kn := ⟨_, rfl⟩
    obtain ⟨n, hn⟩ : ∃ n, L.length = n := ⟨_, rfl⟩
    have HGJ : Hid (getJ (.mk k s0 K L) s = if k = 6 ∧ kn = n then (fndK K s).bind (fun j => L[j]?) else none) := by
      rw [Hid, ← hkn, ← hn]
      rfl
    rw [hkn] at hKS
    rw [hkn, hn]
    have hb : Below w.heap.size w ((w.alloc (.cells #[.int .i64 k, .string s0, .slice ka kn kc, .slice la n lc] 36)).alloc (.cells #[.int .i64 0, .string ⟨#[]⟩, .slice none 0 0, .slice none 0 0] 36)) := (bel w _).alloc (by simp) _
    have hp := (BoxC.new w 36 #[.int .i64 k, .string s0, .slice ka kn kc, .slice la n lc]).alloc (.cells #[.int .i64 0, .string ⟨#[]⟩, .slice none 0 0, .slice none 0 0] 36)
    have hq := BoxC.new (w.alloc (.cells #[.int .i64 k, .string s0, .slice ka kn kc, .slice la n lc] 36)) 36 #[.int .i64 0, .string ⟨#[]⟩, .slice none 0 0, .slice none 0 0]
    rw [World.size_alloc] at hq
    generalize hw0 : (w.alloc (.cells #[.int .i64 k, .string s0, .slice ka kn kc, .slice la n lc] 36)).alloc (.cells #[.int .i64 0, .string ⟨#[]⟩, .slice none 0 0, .slice none 0 0] 36) = w0 at *
    have HIX := hide (fun W (hW : Below w0.heap.size w0 W) => idx_any s W (hKS.keep (W' := W) (S' := S) (fun b hs hlt => ⟨hs, (hb.trans (hW.mono hb.size)).block b hlt⟩)) (by omega))
    have HPC : Hid (∀ W, Below w0.heap.size w0 W → ∀ i, i < n → ∃ b off, la = some ⟨b, off, none⟩ ∧ ∀ r, r < 4 → W.cell? ⟨b, off + (i * 4 + r), none⟩ = (vcell (xs i))[r]?) := fun W hW i hi => by
      obtain ⟨b, off, e, _, hx⟩ := hc i (by omega)
      refine ⟨b, off, e, fun r hr => ?_⟩
      have h0 := hx 0 (by omega)
      simp only [vcell, List.getElem?_cons_zero] at h0
      exact ((hb.trans (hW.mono hb.size)).cell (p := ⟨b, off + (i * 4 + r), none⟩) (block_lt h0)).trans (hx r hr)
    have HKC : Hid (∀ W, Below w0.heap.size w0 W → ∀ j, j < kn → ∃ b off, ka = some ⟨b, off, none⟩ ∧ W.cell? ⟨b, off + j, none⟩ = some (.string (nthS K j))) := fun W hW j hj => by
      obtain ⟨b, off, e, _, hx⟩ := hKc j (by omega)
      exact ⟨b, off, e, ((hb.trans (hW.mono hb.size)).cell (p := ⟨b, off + j, none⟩) (block_lt hx)).trans hx⟩
    have HPT : Hid (∀ i, i < n → ∃ Ti, L[i]? = some Ti ∧ TIn w S (xs i) Ti ∧ LtT Ti ∧ IsSl (xs i).2.2.1 ∧ IsSl (xs i).2.2.2) := fun i hi => ⟨L[i]'(by omega), List.getElem?_eq_getElem _, ht i (by omega), hll i (by omega), (hsl i (by omega)).1, (hsl i (by omega)).2⟩
    have p0 : w0.cell? ⟨w.heap.size, 0, none⟩ = some (.int .i64 k) := hp.cell 0
    have p1 : w0.cell? ⟨w.heap.size, 1, none⟩ = some (.string s0) := hp.cell 1
    have p2 : w0.cell? ⟨w.heap.size, 2, none⟩ = some (.slice ka kn kc) := hp.cell 2
    have p3 : w0.cell? ⟨w.heap.size, 3, none⟩ = some (.slice la n lc) := hp.cell 3
    have z0 := hq.cell 0
    have z1 := hq.cell 1
    have z2 := hq.cell 2
    have z3 := hq.cell 3
    simp only [List.getElem?_toArray, List.getElem?_cons_zero, List.getElem?_cons_succ] at z0 z1 z2 z3
    have y0 := hq.frozen 0
    have y1 := hq.frozen 1
    have y2 := hq.frozen 2
    have y3 := hq.frozen 3
    have lX := hq.lt
    have HKN : Hid (kn ≤ 1000000) := by show kn ≤ 1000000; omega
    have HKL := hide hkn
    have HW0 := hide hw0
    have HP := hide hp
    have HQ := hide hq
    have HB := hide hb
    clear hw0 hp hq hb hKc hc hsl ht hKS hKl hLl hsz hll hkn hn
    by_cases h6 : k = 6
    rotate_left
    · have d6 : (k == 6) = false := by simpa using h6
      have d6' : (k != 6) = true := by simpa using h6
      have HR : Hid (getJ (.mk k s0 K L) s = none) := by rw [Hid, HGJ.out]; exact if_neg (fun h => h6 h.1)
      clear h6
      go_enter Tryz.func29, Tryz.ntmps29
      go_upto_region 1 with fail
      rw [HW0.out]
      clear HW0
      go_wp2
      refine bodyPost_ret (results_rv2 rfl rfl rfl (resJ_v HQ.out (.int .i64 0) (.string ⟨#[]⟩) (.slice none 0 0) (.slice none 0 0))) rfl ?_
      rw [HR.out]
      exact ⟨zeroC, rfl, below4 HB.out (Nat.le_succ _) _ _ _ _, zero_in _ _⟩
    subst h6
    by_cases hkn : kn = n
    rotate_left
    · have d7 : ((kn : Int) != (n : Int)) = true := by simp; omega
      have HR : Hid (getJ (.mk 6 s0 K L) s = none) := by rw [Hid, HGJ.out]; exact if_neg (fun h => hkn h.2)
      clear hkn
      go_enter Tryz.func29, Tryz.ntmps29
      go_upto_region 1 with fail
      rw [HW0.out]
      clear HW0
      go_wp2
      refine bodyPost_ret (results_rv2 rfl rfl rfl (resJ_v HQ.out (.int .i64 0) (.string ⟨#[]⟩) (.slice none 0 0) (.slice none 0 0))) rfl ?_
      rw [HR.out]
      exact ⟨zeroC, rfl, below4 HB.out (Nat.le_succ _) _ _ _ _, zero_in _ _⟩
    subst hkn
    have d7 : ((kn : Int) != (kn : Int)) = false := by simp
    have HGF : Hid (getJ (.mk 6 s0 K L) s = (fndK K s).bind (fun j => L[j]?)) := by rw [Hid, HGJ.out]; exact if_pos ⟨rfl, rfl⟩
    clear HGJ
    clear HIX
    go_enter Tryz.func29, Tryz.ntmps29
    go_upto_region 1 with fail
    rw [HW0.out]
    clear HW0
    go_wp2
    go_loopw [6] (fun iv wr => ∃ j : Nat, j ≤ kn ∧ iv = .int .i64 (j : Int) ∧ wr = w0 ∧ ∀ q, q < j → nthS K q ≠ s) (fun iv _ => kn - (RowKit.intOf iv).toNat)
    case atStart => exact ⟨0, Nat.zero_le _, rfl, rfl, fun q h => by omega⟩
    case round =>
      obtain ⟨j, hj, rfl, rfl, hQ⟩ := hrel
      have HQQ := hide hQ
      clear hQ
      by_cases hlt : j < kn
      · obtain ⟨b, off, rfl, cx⟩ := HKC.out _ (Below.refl _ _) j hlt
        obtain ⟨j1, hj1⟩ : ∃ j1, j + 1 = j1 := ⟨_, rfl⟩
        have e2 : (j : Int) + 1 = (j1 : Int) := by omega
        have g1 : (j1 : Int) ≤ 1000000000 := by have := HKN.out; omega
        have d5 : (j : Int) < (kn : Int) := by omega
        have d0 : (0 : Int) ≤ (j : Int) := by omega
        have HI := hide (And.intro hlt hj1)
        obtain ⟨t, htt⟩ : ∃ t, nthS K j = t := ⟨_, rfl⟩
        rw [htt] at cx
        have HTJ := hide htt
        clear hlt hj1 hj htt
        by_cases htu : t = s
        · subst htu
          obtain ⟨Tj, hTj, hin, _, hs2, hs3⟩ := HPT.out j HI.out.1
          have HR : Hid (getJ (.mk 6 s0 K L) t = some Tj) := by
            rw [Hid, HGF.out, fnd_hit (by have := HI.out; have := HKL.out; omega) HTJ.out HQQ.out]
            exact hTj
          obtain ⟨b', off', rfl, hx⟩ := HPC.out _ (Below.refl _ _) j HI.out.1
          have HIN := hide hin
          generalize xs j = y at *
          obtain ⟨yk, ys', yK, yL⟩ := y
          simp only [vcell] at hx hs2 hs3
          obtain ⟨ka', kl', kc', rfl⟩ := hs2
          obtain ⟨la', ll', lc', rfl⟩ := hs3
          have x0 := hx 0 (by omega)
          have x1 := hx 1 (by omega)
          have x2 := hx 2 (by omega)
          have x3 := hx 3 (by omega)
          simp only [List.getElem?_cons_zero, List.getElem?_cons_succ, ← Nat.add_assoc, Nat.add_zero] at x0 x1 x2 x3
          clear hx hTj hin
          go_wp2
          refine bodyPost_ret (results_rv2 rfl rfl rfl (resJ_v HQ.out (.int .i64 yk) (.string ys') (.slice ka' kl' kc') (.slice la' ll' lc'))) rfl ?_
          rw [HR.out]
          exact ⟨(yk, ys', .slice ka' kl' kc', .slice la' ll' lc'), rfl, below4 HB.out (Nat.le_succ _) _ _ _ _, HIN.out.bel (below4 HB.out (Nat.le_succ _) _ _ _ _)⟩
        · have dne : (t.toList == s.toList) = false := str_ne htu
          have HKK := hide htu
          clear htu
          go_wp2
          go_roundw
          case rel =>
            refine ⟨j1, by have := HI.out; omega, by first | rfl | go_num, by first | rfl | trivial, fun q hq => ?_⟩
            rcases Nat.lt_or_ge q j with h | h
            · exact HQQ.out q h
            · obtain rfl : q = j := by have := HI.out; omega
              rw [HTJ.out]
              exact HKK.out
          case measure => have := HI.out; simp [RowKit.intOf]; omega
      · obtain rfl : j = kn := by omega
        have d5 : ¬ (j : Int) < (j : Int) := by omega
        have HR : Hid (getJ (.mk 6 s0 K L) s = none) := by
          rw [Hid, HGF.out, fnd_none (fun q hq => HQQ.out q (by have := HKL.out; omega))]
          rfl
        clear hlt hj
        go_wp2
        refine bodyPost_ret (results_rv2 rfl rfl rfl (resJ_v HQ.out (.int .i64 0) (.string ⟨#[]⟩) (.slice none 0 0) (.slice none 0 0))) rfl ?_
        rw [HR.out]
        exact ⟨zeroC, rfl, below4 HB.out (Nat.le_succ _) _ _ _ _, zero_in _ _⟩

/-- The table of powers. -/
def Pow (w : World) : Prop := Lib.TabIs Tryz.prog w "internal/strconv.uint64pow10" .u64 Lib.pow10Tab
theorem Pow.lt {w : World} (h : Pow w) : 5 < w.heap.size := by
  unfold Pow Lib.TabIs World.var? at h
  have e : Tryz.prog.globalNamed "internal/strconv.uint64pow10" = some 5 := by kernel_rfl
  rw [e] at h
  simp only [Option.bind_some] at h
  rcases Nat.lt_or_ge 5 w.heap.size with q | q
  · exact q
  · rw [Array.getElem?_eq_none q] at h
    simp at h
theorem Pow.below {w w' : World} (h : Pow w) (hb : Below w.heap.size w w') : Pow w' := by
  have hg := h.lt
  unfold Pow Lib.TabIs World.var? at *
  have e : Tryz.prog.globalNamed "internal/strconv.uint64pow10" = some 5 := by kernel_rfl
  rw [e] at h ⊢
  simp only [Option.bind_some] at h ⊢
  rw [hb.block 5 hg]
  exact h

/-- A string is its bytes. -/
theorem str_bytes (s : ByteArray) : ∃ T : List Nat, (∀ x ∈ T, x < 256) ∧ T.length = s.size ∧ s = strOf T := by
  obtain ⟨⟨l⟩⟩ := s
  refine ⟨l.map (·.toNat), fun x hx => ?_, by simp [ByteArray.size], ?_⟩
  · obtain ⟨c, _, rfl⟩ := List.mem_map.1 hx
    exact c.toNat_lt
  · unfold strOf
    rw [List.map_map]
    have : (UInt8.ofNat ∘ fun x : UInt8 => x.toNat) = id := by
      funext x
      simp
    rw [this, List.map_id]

def OfNR (n : Int) (w : World) (e : Ending) (w' : World) : Prop := e = .returned (vagg (nC (strOf (itoaT n)))) ∧ Below w.heap.size w w'
set_option maxHeartbeats 2000000 in
theorem ofn_any (w : World) (n : Int) (h1 : -999999999 ≤ n) (h2 : n ≤ 999999999) (hP : Pow w) :
    Calls Tryz.prog 37 #[.int .i64 n] w (OfNR n w) := by
  have hb := bel w (.cells jv0 27)
  have hx := BoxC.new w 27 jv0
  have HI := hide (Tryz.strconv_Itoa n (by omega) (by omega) (w.alloc (.cells jv0 27)) (hP.below hb))
  unfold jv0 at hb hx HI
  rw [itoa_str] at HI
  generalize hw0 : w.alloc (.cells #[.int .i64 0, .string ⟨#[]⟩, .slice none 0 0, .slice none 0 0] 27) = w0 at *
  generalize hs : strOf (itoaT n) = s at *
  have HS := hide hs
  have HX := hide hx
  have HB := hide hb
  have HW := hide hw0
  clear hx hb hw0 hs h1 h2 hP
  go_enter Tryz.func37, Tryz.ntmps37
  go_wp2_with fail
  rw [HW.out]
  clear HW
  refine HI.out.mono ?_
  rintro e w1 ⟨rfl, k, os, hw⟩
  have hb1 : Below w0.heap.size w0 w1 := by rw [hw]; exact below_grow _ _ (Nat.le_refl _) _ _
  have HX1 := hide (HX.out.below hb1)
  have HB1 := hide (HB.out.trans (hb1.mono HB.out.size))
  have x0 : w1.cell? ⟨w.heap.size, 0, none⟩ = some (.int .i64 0) := HX1.out.cell 0
  have x1 : w1.cell? ⟨w.heap.size, 1, none⟩ = some (.string ⟨#[]⟩) := HX1.out.cell 1
  have x2 : w1.cell? ⟨w.heap.size, 2, none⟩ = some (.slice none 0 0) := HX1.out.cell 2
  have x3 : w1.cell? ⟨w.heap.size, 3, none⟩ = some (.slice none 0 0) := HX1.out.cell 3
  have y0 := HX1.out.frozen 0
  have y1 := HX1.out.frozen 1
  have y2 := HX1.out.frozen 2
  have y3 := HX1.out.frozen 3
  have lX := HX1.out.lt
  clear hw hb1 HI
  go_wp2
  refine bodyPost_ret (results_jv rfl rfl (resJ_v HX1.out (.int .i64 3) (.string s) (.slice none 0 0) (.slice none 0 0))) rfl ?_
  exact ⟨by rw [HS.out]; rfl, (((HB1.out.setCell (p := ⟨w.heap.size, 0, none⟩) (Nat.le_refl _) _).setCell (p := ⟨w.heap.size, 1, none⟩) (Nat.le_refl _) _).setCell (p := ⟨w.heap.size, 2, none⟩) (Nat.le_refl _) _).setCell (p := ⟨w.heap.size, 3, none⟩) (Nat.le_refl _) _⟩

end Go.Proofs.YtbdpmpepmjpadaaGreatDoor

namespace Go.Proofs.YtbdpmpepmjpadaaGreatDoor
set_option linter.unusedVariables false
set_option linter.unusedSimpArgs false
set_option maxRecDepth 100000
open Go Go.RowKit Go.Shelf Go.Lib

/-- A pair's cells: a key, and a value. -/
def pair5 (s : ByteArray) (x : JC) : List Value := [.string s, .int .i64 x.1, .string x.2.1, x.2.2.1, x.2.2.2]
/-- Pairs in memory: their keys, their values' trees. -/
def PairsT (w : World) (S : Nat → Prop) (pv : Value) (K : List ByteArray) (xs : Nat → JC) (L : List JT) : Prop :=
  ∃ ao cap, pv = .slice ao L.length cap ∧ K.length = L.length ∧ ∀ i, i < L.length → ∃ b off T, ao = some ⟨b, off, none⟩ ∧ (∀ r, r < 5 → w.cell? ⟨b, off + (i * 5 + r), none⟩ = (pair5 (nthS K i) (xs i))[r]?) ∧ L[i]? = some T ∧ TIn w S (xs i) T ∧ LtT T
/-- An object on its way, its values being trees. -/
structure MadT (w W : World) (kv lv : Value) (K : List ByteArray) (M : List JC) (L : List JT) : Prop where
  m : MadeJ w W kv lv K M
  ps : ∀ (q : Nat) (x : JC) (T : JT), M[q]? = some x → L[q]? = some T → TIn W (fun b => w.heap.size + 2 ≤ b ∧ lv.ownBlock ≠ some b ∧ kv.ownBlock ≠ some b) x T
theorem MadT.below {w W W' : World} {kv lv : Value} {K : List ByteArray} {M : List JC} {L : List JT} (h : MadT w W kv lv K M L) (hb : Below W.heap.size W W') : MadT w W' kv lv K M L := ⟨h.m.below hb, fun q x T hx hT => (h.ps q x T hx hT).bel hb⟩
theorem MadT.key {w W : World} {kv lv : Value} {K : List ByteArray} {M : List JC} {L : List JT} (h : MadT w W kv lv K M L) (s : ByteArray) (hlen : K.length ≤ 1000000) :
    ∃ va vn vc w', (Builtin.append_ #[24, 24] 24 #[kv, .slice (some ⟨W.heap.size, 0, none⟩) 1 1]).run Tryz.prog (W.alloc (.cells #[.string s] 9)) = .ok (.slice va vn vc) w' ∧ MadT w (w'.setCell ⟨w.heap.size + 1, 2, none⟩ (.slice va vn vc)) (.slice va vn vc) lv (K ++ [s]) M L ∧
      w'.cell? ⟨w.heap.size + 1, 2, none⟩ = some kv ∧ w'.frozen? ⟨w.heap.size + 1, 2, none⟩ = false ∧ w.heap.size + 1 < w'.heap.size ∧ (∀ B cs, BoxC W B 85 cs → BoxC w' B 85 cs) := by
  obtain ⟨i0, hi, hz0, hz1, hz2⟩ := info_parts infoStr
  have hb := bel W (.cells #[.string s] 9)
  have h1 := h.below hb
  have hx := BoxC.new W 9 #[.string s]
  have hbase := h1.m.box.lt
  have hWs := h.m.box.lt
  obtain ⟨v', w', hr, h2, h3, _, h5⟩ := run_append_own_at (P := Tryz.prog) (W.alloc (.cells #[.string s] 9)) (w.heap.size + 2) 24 24 9 i0 (.string ⟨#[]⟩) 1 16 Tryz.underlying24 hi hz0 hz1 hz2 rfl (by decide) kv K.length (K.map Value.string) h1.m.ks ⟨W.heap.size, 0, none⟩ 1 1 [.string s] rfl (by
      intro j u hj
      have := hx.cell j
      rw [addr_plus, Nat.zero_add, this]
      simpa using hj) (by
      intro u hu
      simp only [List.mem_cons, List.not_mem_nil, or_false] at hu
      subst hu
      rfl) (by unfold maxLen; omega) (by omega) (by omega)
  have ho : OwnS (w.heap.size + 2) w' v' (K ++ [s]) := by
    unfold OwnS
    rw [List.length_append, List.map_append]
    exact h2
  obtain ⟨va, vc, rfl, _⟩ := ho.len
  have n1 : some (w.heap.size + 1) ≠ kv.ownBlock := fun e => by have := (h.m.ks.lt _ e.symm).1; omega
  have hbk := h1.m.box.kept h3 n1
  refine ⟨_, _, _, w', hr, ⟨h1.m.putK h3 ho, fun q x T hx hT => (h.ps q x T hx hT).keep fun b hs hlt => ?_⟩, hbk.cell 2, hbk.frozen 2, hbk.lt, fun B cs hB => (hB.below hb).kept h3 (fun e => ?_)⟩
  · obtain ⟨g1, g2, g3⟩ := hs
    have hlt' : b < (W.alloc (.cells #[.string s] 9)).heap.size := by rw [World.size_alloc]; omega
    refine ⟨⟨g1, g2, ?_⟩, ?_⟩
    · rcases h5 with e | e
      · rw [e]; exact g3
      · rw [e]
        intro q
        simp only [World.size_alloc, Option.some.injEq] at q
        omega
    · rw [Below.heap_setCell _ ⟨w.heap.size + 1, 2, none⟩ _ b (by show b ≠ w.heap.size + 1; omega)]
      exact (h3.block b hlt' (fun e => g3 e.symm)).trans (hb.block b hlt)
  · obtain ⟨c, fz, hk⟩ := Lib.ownsRow_kind h1.m.ks B e.symm
    rw [show (W.alloc (.cells #[.string s] 9)).heap[B]? = _ from hB.below hb] at hk
    cases hk
theorem MadT.putV {w W W' : World} {kv lv lv' : Value} {K : List ByteArray} {M : List JC} {L : List JT} {y : JC} {T : JT} (h : MadT w W kv lv K M L) (hg : W.grownBy W' lv.ownBlock) (ho : OwnV (w.heap.size + 2) W' lv' (M ++ [y])) (hrow : lv'.ownBlock = lv.ownBlock ∨ lv'.ownBlock = some W.heap.size) (hT : L[M.length]? = some T) (hy : TIn W (fun b => w.heap.size + 2 ≤ b ∧ lv.ownBlock ≠ some b ∧ kv.ownBlock ≠ some b) y T) :
    MadT w (W'.setCell ⟨w.heap.size + 1, 3, none⟩ lv') kv lv' K (M ++ [y]) L := by
  have hWs := h.m.box.lt
  have hk : ∀ b, (w.heap.size + 2 ≤ b ∧ lv.ownBlock ≠ some b ∧ kv.ownBlock ≠ some b) → b < W.heap.size → (w.heap.size + 2 ≤ b ∧ lv'.ownBlock ≠ some b ∧ kv.ownBlock ≠ some b) ∧ (W'.setCell ⟨w.heap.size + 1, 3, none⟩ lv').heap[b]? = W.heap[b]? := fun b hs hlt => by
    obtain ⟨g1, g2, g3⟩ := hs
    refine ⟨⟨g1, ?_, g3⟩, ?_⟩
    · rcases hrow with e | e
      · rw [e]; exact g2
      · rw [e]
        intro q
        simp only [Option.some.injEq] at q
        omega
    · rw [Below.heap_setCell _ ⟨w.heap.size + 1, 3, none⟩ _ b (by show b ≠ w.heap.size + 1; omega)]
      exact hg.block b hlt (fun e => g2 e.symm)
  refine ⟨h.m.putV hg ho, fun q x T' hx hT' => ?_⟩
  rcases Nat.lt_or_ge q M.length with hq | hq
  · rw [List.getElem?_append_left hq] at hx
    exact (h.ps q x T' hx hT').keep hk
  · rw [List.getElem?_append_right hq] at hx
    obtain rfl : q = M.length := by
      have := (List.getElem?_eq_some_iff.1 hx).1
      simp at this
      omega
    simp at hx
    subst hx
    rw [hT] at hT'
    cases hT'
    exact hy.keep hk
theorem MadT.tree {w W : World} {kv lv : Value} {K : List ByteArray} {M : List JC} {L : List JT} (h : MadT w W kv lv K M L) (hM : M.length = L.length) (x' y' z' u' : Value) :
    TIn ((((W.setCell ⟨w.heap.size, 0, none⟩ x').setCell ⟨w.heap.size, 1, none⟩ y').setCell ⟨w.heap.size, 2, none⟩ z').setCell ⟨w.heap.size, 3, none⟩ u') (fun b => w.heap.size ≤ b) (6, ⟨#[]⟩, kv, lv) (.mk 6 ⟨#[]⟩ K L) := by
  have hk : ∀ b, b ≠ w.heap.size → ((((W.setCell ⟨w.heap.size, 0, none⟩ x').setCell ⟨w.heap.size, 1, none⟩ y').setCell ⟨w.heap.size, 2, none⟩ z').setCell ⟨w.heap.size, 3, none⟩ u').heap[b]? = W.heap[b]? := fun b hb => by
    rw [Below.heap_setCell _ ⟨w.heap.size, 3, none⟩ u' b hb, Below.heap_setCell _ ⟨w.heap.size, 2, none⟩ z' b hb, Below.heap_setCell _ ⟨w.heap.size, 1, none⟩ y' b hb, Below.heap_setCell _ ⟨w.heap.size, 0, none⟩ x' b hb]
  generalize ((((W.setCell ⟨w.heap.size, 0, none⟩ x').setCell ⟨w.heap.size, 1, none⟩ y').setCell ⟨w.heap.size, 2, none⟩ z').setCell ⟨w.heap.size, 3, none⟩ u') = W' at *
  obtain ⟨ya, yc, hlv, _⟩ := h.m.vs.len
  have hvs := h.m.vs
  have hks := h.m.ks
  have hps := h.ps
  rw [hM] at hlv
  subst hlv
  obtain ⟨ka, kc, hkv, _⟩ := hks.len
  subst hkv
  have hex : ∀ i, i < L.length → M[i]? = some (M[i]?.getD zeroC) := fun i h => by rw [List.getElem?_eq_getElem (by omega)]; rfl
  have htr : ∀ i (h : i < L.length), TIn W' (fun b => w.heap.size ≤ b) (M[i]?.getD zeroC) L[i] := fun i hi => (hps i _ _ (hex i hi) (List.getElem?_eq_getElem hi)).keep fun b hs _ => ⟨by show w.heap.size ≤ b; have := hs.1; omega, hk b (by have := hs.1; omega)⟩
  refine .mk 6 ⟨#[]⟩ (.slice ka K.length kc) ya yc K L (fun i => M[i]?.getD zeroC) ⟨ka, kc, rfl, fun j hj => ?_⟩ (fun i hi => ?_) (fun i hi => (htr i hi).sl) htr
  · obtain ⟨g, rfl, hx⟩ := hks.cell (List.getElem?_eq_getElem hj)
    have hg := (hks.lt g rfl).1
    refine ⟨g, 0, rfl, by show w.heap.size ≤ g; omega, ?_⟩
    rw [Nat.zero_add, World.cell?_of_block (a := ⟨g, j, none⟩) (hk g (by omega)), hx]
    simp [nthS, hj]
  · obtain ⟨g, rfl, hc⟩ := hvs.cell (hex i hi)
    have hg := (hvs.lt g rfl).1
    refine ⟨g, 0, rfl, by show w.heap.size ≤ g; omega, fun r hr => ?_⟩
    rw [Nat.zero_add]
    exact (World.cell?_of_block (a := ⟨g, i * 4 + r, none⟩) (hk g (by omega))).trans (hc r hr)

/-- What Made answers. -/
def MadeR (K : List ByteArray) (L : List JT) (w : World) (e : Ending) (w' : World) : Prop := ∃ y : JC, e = .returned (vagg y) ∧ Below w.heap.size w w' ∧ TIn w' (fun b => w.heap.size ≤ b) y (.mk 6 ⟨#[]⟩ K L)

set_option maxHeartbeats 16000000 in
theorem made_any (w : World) (S : Nat → Prop) (pv : Value) (K : List ByteArray) (xs : Nat → JC) (L : List JT) (hP : PairsT w S pv K xs L) (hlen : L.length ≤ 1000000) :
    Calls Tryz.prog 36 #[pv] w (MadeR K (L.map clJ) w) := by
  obtain ⟨pa0, pc0, rfl, hKL, hc⟩ := hP
  obtain ⟨L2, hL2⟩ : ∃ L2, L.map clJ = L2 := ⟨_, rfl⟩
  have hb1 : Below w.heap.size w ((w.alloc (.cells jv0 27)).alloc (.cells #[.int .i64 6, .string ⟨#[]⟩, .slice none 0 0, .slice none 0 0] 27)) := (bel w _).alloc (by simp) _
  have hx1 := (BoxC.new w 27 jv0).alloc (.cells #[.int .i64 6, .string ⟨#[]⟩, .slice none 0 0, .slice none 0 0] 27)
  have hv1 := BoxC.new (w.alloc (.cells jv0 27)) 27 #[.int .i64 6, .string ⟨#[]⟩, .slice none 0 0, .slice none 0 0]
  rw [World.size_alloc] at hv1
  unfold jv0 at hb1 hx1 hv1
  have HI : Hid (MadT w ((w.alloc (.cells #[.int .i64 0, .string ⟨#[]⟩, .slice none 0 0, .slice none 0 0] 27)).alloc (.cells #[.int .i64 6, .string ⟨#[]⟩, .slice none 0 0, .slice none 0 0] 27)) (.slice none 0 0) (.slice none 0 0) (K.take 0) [] L2) := ⟨⟨hv1, ownS_nil _ _, ownV_nil _ _, hb1, hx1⟩, fun q x T h => by simp at h⟩
  have HC := hide hc
  have HLEN : Hid (K.length = L.length) := hKL
  have HL2 := hide hL2
  obtain ⟨n, hn⟩ : ∃ n, L.length = n := ⟨_, rfl⟩
  rw [hn] at HC HLEN hlen
  rw [hL2, hn]
  have HLL := hide hlen
  have HN := hide hn
  clear hc hKL hL2 hb1 hx1 hv1 hn hlen
  go_enter Tryz.func36, Tryz.ntmps36
  go_wp2
  go_loopw [9] (fun iv wr => ∃ (i : Nat) (kv lv : Value) (M : List JC), i ≤ n ∧ iv = .int .i64 (i : Int) ∧ M.length = i ∧ MadT w wr kv lv (K.take i) M L2) (fun iv _ => n - (RowKit.intOf iv).toNat)
  case atStart => exact ⟨0, _, _, [], Nat.zero_le _, rfl, rfl, HI.out⟩
  case round =>
    obtain ⟨i, kv, lv, M, hi, rfl, hMi, hm⟩ := hrel
    obtain ⟨ka, kc, hkv, _⟩ := hm.m.ks.len
    obtain ⟨la, lc, hlv, _⟩ := hm.m.vs.len
    have HMI := hide hMi
    obtain ⟨kn, hkn⟩ : ∃ kn, (K.take i).length = kn := ⟨_, rfl⟩
    obtain ⟨ln, hln⟩ : ∃ ln, M.length = ln := ⟨_, rfl⟩
    rw [hkn] at hkv
    rw [hln] at hlv
    subst hkv hlv
    have HKN := hide hkn
    have HM0 := hide hm
    have HNI := hide hi
    clear HI hm hMi hkn hln
    generalize wr = wo at *
    by_cases hlt : i < n
    · obtain ⟨b, off, Ti, rfl, hcc, hLi, hti, hlti⟩ := HC.out i hlt
      obtain ⟨hs2, hs3⟩ := hti.sl
      have hTi : L2[i]? = some (clJ Ti) := by rw [← HL2.out, List.getElem?_map, hLi]; rfl
      have hblk : b < w.heap.size := block_lt (show w.cell? ⟨b, off + (i * 5 + 0), none⟩ = some _ from hcc 0 (by omega))
      have hcell : ∀ r, r < 5 → wo.cell? ⟨b, off + (i * 5 + r), none⟩ = (pair5 (nthS K i) (xs i))[r]? := fun r hr => (HM0.out.m.low.cell (p := ⟨b, off + (i * 5 + r), none⟩) hblk).trans (hcc r hr)
      have HCL := hide (fun W (hW : Below w.heap.size w W) => clone_any hti hlti W hW)
      generalize xs i = y at *
      obtain ⟨yk, ys, yK, yL⟩ := y
      simp only [vagg] at hs2 hs3 HCL
      obtain ⟨pa, pn, pc', rfl⟩ := hs2
      obtain ⟨qa, qn, qc, rfl⟩ := hs3
      obtain ⟨xk, hxk⟩ : ∃ xk, nthS K i = xk := ⟨_, rfl⟩
      rw [hxk] at hcell
      have k0 := hcell 0 (by omega)
      have k1 := hcell 1 (by omega)
      have k2 := hcell 2 (by omega)
      have k3 := hcell 3 (by omega)
      have k4 := hcell 4 (by omega)
      simp only [pair5, List.getElem?_cons_zero, List.getElem?_cons_succ, ← Nat.add_assoc, Nat.add_zero] at k0 k1 k2 k3 k4
      have d1 : (i : Int) < (n : Int) := by omega
      have d0 : (0 : Int) ≤ (i : Int) := by omega
      have HIL := hide hlt
      obtain ⟨i1, hi1⟩ : ∃ i1, i + 1 = i1 := ⟨_, rfl⟩
      have e1 : (i : Int) + 1 = (i1 : Int) := by omega
      have g1 : (i1 : Int) ≤ 1000000000 := by have := HLL.out; omega
      have HI1 := hide hi1
      have HTK : Hid (K.take i1 = K.take i ++ [xk]) := by
        rw [Hid, ← HI1.out, List.take_add_one, List.getElem?_eq_getElem (by have := HLEN.out; omega), ← hxk]
        simp [nthS, show i < K.length by have := HLEN.out; omega]
      have HTI := hide hTi
      have lG : b < wo.heap.size := Nat.lt_of_lt_of_le hblk HM0.out.m.low.size
      have hb2 := bel wo (.cells #[.string xk, .int .i64 yk, .string ys, .slice pa pn pc', .slice qa qn qc] 85)
      have hx2 := BoxC.new wo 85 #[.string xk, .int .i64 yk, .string ys, .slice pa pn pc', .slice qa qn qc]
      have hm2 := HM0.out.below hb2
      have HBP : Hid (w.heap.size + 1 < wo.heap.size) := HM0.out.m.box.lt
      clear hcell hcc hti hlti hTi hLi hxk hblk hlt hi hi1
      go_upto_region 5 with fail
      generalize hBP : wo.heap.size = BP at *
      generalize wo.alloc (.cells #[.string xk, .int .i64 yk, .string ys, .slice pa pn pc', .slice qa qn qc] 85) = w2 at *
      clear k0 k1 k2 k3 k4 lG hb2 hBP
      obtain ⟨va0, vn0, vc0, w3, hr3, hm3, cV3, fV3, lV3, hkeep⟩ := hm2.key xk (by rw [List.length_take]; have := HLL.out; have := HIL.out; omega)
      have hx3 := hkeep BP _ hx2
      have b0 : w2.cell? ⟨BP, 0, none⟩ = some (.string xk) := hx2.cell 0
      have lb0 := hx2.lt
      have cK : w2.cell? ⟨w.heap.size + 1, 2, none⟩ = some (.slice ka kn kc) := hm2.m.box.cell 2
      have lK := hm2.m.box.lt
      have HM3 := hide hm3
      have HX3 := hide (hx3.other (show BP ≠ w.heap.size + 1 by have := HBP.out; omega) 2 (.slice va0 vn0 vc0))
      clear hm2 hx2 hm3 hx3 hkeep HM0
      go_wp2_with (at_builtin; go_must (refine Lib.wpList_append_run _ rfl _ _ _ _ rfl _ _ rfl rfl _ _ hr3 ?_))
      generalize hw7 : w3.setCell ⟨w.heap.size + 1, 2, none⟩ (.slice va0 vn0 vc0) = w7 at *
      clear hw7 cV3 fV3 lV3 b0 lb0 cK lK hr3
      have HSX : Hid (∀ X0 : World, BoxC X0 BP 85 #[.string xk, .int .i64 yk, .string ys, .slice pa pn pc', .slice qa qn qc] → (X0.cell? ⟨BP, 0, none⟩ = some (.string xk) ∧ X0.cell? ⟨BP, 1, none⟩ = some (.int .i64 yk) ∧ X0.cell? ⟨BP, 2, none⟩ = some (.string ys) ∧ X0.cell? ⟨BP, 3, none⟩ = some (.slice pa pn pc') ∧ X0.cell? ⟨BP, 4, none⟩ = some (.slice qa qn qc))) := fun X0 h => ⟨h.cell 0, h.cell 1, h.cell 2, h.cell 3, h.cell 4⟩
      refine wp_region_held_drew (S := fun X0 : World => X0.cell? ⟨BP, 0, none⟩ = some (.string xk) ∧ X0.cell? ⟨BP, 1, none⟩ = some (.int .i64 yk) ∧ X0.cell? ⟨BP, 2, none⟩ = some (.string ys) ∧ X0.cell? ⟨BP, 3, none⟩ = some (.slice pa pn pc') ∧ X0.cell? ⟨BP, 4, none⟩ = some (.slice qa qn qc)) (by kernel_rfl) (HSX.out _ HX3.out) (fun hHeld => ?_)
      have hdr : Below w7.heap.size w7 w7.drew := (Below.refl _ _).drew
      have HMD := hide (HM3.out.below hdr)
      have HBD := hide (HX3.out.below hdr)
      clear hdr HM3 HX3
      generalize w7.drew = w8 at *
      refine takeD (i := 0) (v := ?v1) (some 20) rfl (by kernel_rfl) (by kernel_rfl) (by kernel_rfl) (fun _ _ _ h => h) (Or.inl ⟨by rfl, ?hy1⟩) (HSX.out _ HBD.out) (by rfl) ?rest1
      case hy1 => first | (intro w hSw; (try dsimp only at hSw); obtain ⟨s0, s1, s2, s3, s4⟩ := hSw; go_simp; done) | (intro w hSw; (try dsimp only at hSw); obtain ⟨s0, s1, s2, s3, s4⟩ := hSw; go_simp; with_reducible rfl)
      try simp only [Act.put, List.setIfInBounds_toArray, List.set_cons_zero, List.set_cons_succ, vagg]
      refine takeD (i := 2) (v := ?v2) (some 22) rfl (by kernel_rfl) (by kernel_rfl) (by kernel_rfl) (fun _ _ _ h => h) (Or.inl ⟨by rfl, ?hy2⟩) (HSX.out _ HBD.out) (by rfl) ?rest2
      case hy2 => first | (intro w hSw; (try dsimp only at hSw); obtain ⟨s0, s1, s2, s3, s4⟩ := hSw; go_simp; done) | (intro w hSw; (try dsimp only at hSw); obtain ⟨s0, s1, s2, s3, s4⟩ := hSw; go_simp; with_reducible rfl)
      try simp only [Act.put, List.setIfInBounds_toArray, List.set_cons_zero, List.set_cons_succ, vagg]
      refine takeD (i := 3) (v := ?v3) (some 23) rfl (by kernel_rfl) (by kernel_rfl) (by kernel_rfl) (fun _ _ _ h => h) (Or.inl ⟨by rfl, ?hy3⟩) (HSX.out _ HBD.out) (by rfl) ?rest3
      case hy3 => first | (intro w hSw; (try dsimp only at hSw); obtain ⟨s0, s1, s2, s3, s4⟩ := hSw; go_simp; done) | (intro w hSw; (try dsimp only at hSw); obtain ⟨s0, s1, s2, s3, s4⟩ := hSw; go_simp; with_reducible rfl)
      try simp only [Act.put, List.setIfInBounds_toArray, List.set_cons_zero, List.set_cons_succ, vagg]
      refine wpAnyH_ready (rs := [1, 4]) (by kernel_rfl) (by simp) ?_
      refine AllReadyH.cons rfl (fun K9 hK => ?_) (AllReadyH.cons rfl (fun K9 hK => ?_) AllReadyH.nil)
      · have clv : w8.cell? ⟨w.heap.size + 1, 3, none⟩ = some (.slice la ln lc) := HMD.out.m.box.cell 3
        go_simp
        refine hK.out _ _ (HSX.out _ HBD.out) (fun _ => ?_)
        clear hK K9 clv
        try simp only [Act.put, List.setIfInBounds_toArray, List.set_cons_zero, List.set_cons_succ, vagg]
        refine wpAnyH_ready (rs := [4]) (by kernel_rfl) (by simp) ?_
        refine AllReadyH.cons rfl (fun K9 hK => ?_) AllReadyH.nil
        go_simp
        refine (HCL.out w8 HMD.out.m.low).mono ?_
        rintro e w4 ⟨y', rfl, hB4, hT4⟩
        obtain ⟨zk, zs, zK, zL⟩ := y'
        obtain ⟨h4, h5⟩ := hT4.sl
        simp only at h4 h5
        obtain ⟨ra, rn, rc, rfl⟩ := h4
        obtain ⟨sa, sn, sc, rfl⟩ := h5
        have HM4 := hide (HMD.out.below hB4)
        have HB4 := hide (HBD.out.below hB4)
        have HT4 := hide (hT4.keep (W' := w4) (S' := fun b => w.heap.size + 2 ≤ b ∧ (Value.slice la ln lc).ownBlock ≠ some b ∧ (Value.slice va0 vn0 vc0).ownBlock ≠ some b) (fun b hs _ => by
          have hs' : w8.heap.size ≤ b := hs
          have h1 := HMD.out.m.box.lt
          refine ⟨⟨by omega, fun e => ?_, fun e => ?_⟩, rfl⟩
          · have := (HMD.out.m.vs.lt _ e).2; omega
          · have := (HMD.out.m.ks.lt _ e).2; omega))
        refine hK.out _ _ (HSX.out _ HB4.out) (fun _ => ?_)
        clear hK K9 hB4 hT4
        try simp only [Act.put, List.setIfInBounds_toArray, List.set_cons_zero, List.set_cons_succ, vagg]
        refine wpAnyH_ready (rs := [5]) (by kernel_rfl) (by simp) ?_
        refine AllReadyH.cons rfl (fun K9 hK => ?_) AllReadyH.nil
        go_simp
        have hbl := bel w4 (.cells #[.int .i64 zk, .string zs, .slice ra rn rc, .slice sa sn sc] 27)
        have hbx := BoxC.new w4 27 #[.int .i64 zk, .string zs, .slice ra rn rc, .slice sa sn sc]
        have HM5 := hide (HM4.out.below hbl)
        have HB5 := hide (HB4.out.below hbl)
        have HT5 := hide (HT4.out.bel hbl)
        refine hK.out _ _ (HSX.out _ HB5.out) (fun _ => ?_)
        clear hK K9 hbl
        try simp only [Act.put, List.setIfInBounds_toArray, List.set_cons_zero, List.set_cons_succ, vagg]
        generalize hBn : w4.heap.size = BN at *
        generalize hw5 : w4.alloc (.cells #[.int .i64 zk, .string zs, .slice ra rn rc, .slice sa sn sc] 27) = w5 at *
        have HBX := hide hbx
        clear hbx hw5
        refine wpAnyH_ready (rs := [6]) (by kernel_rfl) (by simp) ?_
        refine AllReadyH.cons rfl (fun K9 hK => ?_) AllReadyH.nil
        refine wp_appV _ (.tmp 21) (.tmp 25) rfl (w.heap.size + 2) (.slice la ln lc) M rfl HM5.out.m.vs BN _ (zk, zs, .slice ra rn rc, .slice sa sn sc) rfl HBX.out ⟨rfl, rfl⟩ (by have := HMI.out; have := HLL.out; have := HIL.out; omega) (by have := HM5.out.m.box.lt; omega) ?_
        intro lv' w6 hown hgrow hrow
        obtain ⟨ya, yn, yc, rfl⟩ := hown.slice
        have hm6 := HM5.out.putV hgrow hown hrow (by rw [HMI.out]; exact HTI.out) HT5.out
        have n1 : some (w.heap.size + 1) ≠ (Value.slice la ln lc).ownBlock := fun e => by have := (HM5.out.m.vs.lt _ e.symm).1; omega
        have hbx6 := HM5.out.m.box.kept hgrow n1
        have lV4 := hbx6.lt
        have cV4 : w6.cell? ⟨w.heap.size + 1, 3, none⟩ = some (.slice la ln lc) := hbx6.cell 3
        have fV4 : w6.frozen? ⟨w.heap.size + 1, 3, none⟩ = false := hbx6.frozen 3
        have hb6 : BoxC w6 BP 85 #[.string xk, .int .i64 yk, .string ys, .slice pa pn pc', .slice qa qn qc] := HB5.out.kept hgrow (fun e => by
          obtain ⟨c, fz, hk⟩ := Lib.ownsRow_kind HM5.out.m.vs BP e.symm
          rw [show w5.heap[BP]? = _ from HB5.out] at hk
          cases hk)
        have HB6 := hide hb6
        have HB7 := hide (hb6.other (show BP ≠ w.heap.size + 1 by have := HBP.out; omega) 3 (.slice ya yn yc))
        have HM6 := hide hm6
        refine hK.out _ _ (HSX.out _ HB6.out) (fun _ => ?_)
        clear hK K9 hown hgrow hrow hm6 n1 hbx6 hb6
        try simp only [Act.put, List.setIfInBounds_toArray, List.set_cons_zero, List.set_cons_succ, vagg]
        refine takeD (i := 7) (v := ?v4) (some 27) rfl (by kernel_rfl) (by kernel_rfl) (by kernel_rfl) (fun _ _ _ h => h) (Or.inl ⟨by rfl, ?hy4⟩) (HSX.out _ HB6.out) (by rfl) ?rest4
        case hy4 => first | (intro w hSw; (try dsimp only at hSw); obtain ⟨s0, s1, s2, s3, s4⟩ := hSw; go_simp; done) | (intro w hSw; (try dsimp only at hSw); obtain ⟨s0, s1, s2, s3, s4⟩ := hSw; go_simp; with_reducible rfl)
        try simp only [Act.put, List.setIfInBounds_toArray, List.set_cons_zero, List.set_cons_succ, vagg]
        refine wpAnyH_ready (rs := [8]) (by kernel_rfl) (by simp) ?_
        refine AllReadyH.cons rfl (fun K9 hK => ?_) AllReadyH.nil
        go_simp
        refine hK.out _ _ (HSX.out _ HB7.out) (fun _ => ?_)
        clear hK K9
        try simp only [Act.put, List.setIfInBounds_toArray, List.set_cons_zero, List.set_cons_succ, vagg]
        refine wpAnyH_done (by kernel_rfl) ?_ _
        go_wp2
        go_roundw
        case rel => exact ⟨i1, _, _, M ++ [(zk, zs, .slice ra rn rc, .slice sa sn sc)], by have := HIL.out; have := HI1.out; omega, by first | rfl | go_num, by simp [HMI.out, HI1.out], by rw [HTK.out]; exact HM6.out⟩
        case measure => have := HIL.out; have := HI1.out; simp [RowKit.intOf]; omega
      · go_simp
        refine (HCL.out w8 HMD.out.m.low).mono ?_
        rintro e w4 ⟨y', rfl, hB4, hT4⟩
        obtain ⟨zk, zs, zK, zL⟩ := y'
        obtain ⟨h4, h5⟩ := hT4.sl
        simp only at h4 h5
        obtain ⟨ra, rn, rc, rfl⟩ := h4
        obtain ⟨sa, sn, sc, rfl⟩ := h5
        have HM4 := hide (HMD.out.below hB4)
        have HB4 := hide (HBD.out.below hB4)
        have HT4 := hide (hT4.keep (W' := w4) (S' := fun b => w.heap.size + 2 ≤ b ∧ (Value.slice la ln lc).ownBlock ≠ some b ∧ (Value.slice va0 vn0 vc0).ownBlock ≠ some b) (fun b hs _ => by
          have hs' : w8.heap.size ≤ b := hs
          have h1 := HMD.out.m.box.lt
          refine ⟨⟨by omega, fun e => ?_, fun e => ?_⟩, rfl⟩
          · have := (HMD.out.m.vs.lt _ e).2; omega
          · have := (HMD.out.m.ks.lt _ e).2; omega))
        refine hK.out _ _ (HSX.out _ HB4.out) (fun _ => ?_)
        clear hK K9 hB4 hT4
        try simp only [Act.put, List.setIfInBounds_toArray, List.set_cons_zero, List.set_cons_succ, vagg]
        refine wpAnyH_ready (rs := [1, 5]) (by kernel_rfl) (by simp) ?_
        refine AllReadyH.cons rfl (fun K9 hK => ?_) (AllReadyH.cons rfl (fun K9 hK => ?_) AllReadyH.nil)
        · have clv : w4.cell? ⟨w.heap.size + 1, 3, none⟩ = some (.slice la ln lc) := HM4.out.m.box.cell 3
          go_simp
          refine hK.out _ _ (HSX.out _ HB4.out) (fun _ => ?_)
          clear hK K9 clv
          try simp only [Act.put, List.setIfInBounds_toArray, List.set_cons_zero, List.set_cons_succ, vagg]
          refine wpAnyH_ready (rs := [5]) (by kernel_rfl) (by simp) ?_
          refine AllReadyH.cons rfl (fun K9 hK => ?_) AllReadyH.nil
          go_simp
          have hbl := bel w4 (.cells #[.int .i64 zk, .string zs, .slice ra rn rc, .slice sa sn sc] 27)
          have hbx := BoxC.new w4 27 #[.int .i64 zk, .string zs, .slice ra rn rc, .slice sa sn sc]
          have HM5 := hide (HM4.out.below hbl)
          have HB5 := hide (HB4.out.below hbl)
          have HT5 := hide (HT4.out.bel hbl)
          refine hK.out _ _ (HSX.out _ HB5.out) (fun _ => ?_)
          clear hK K9 hbl
          try simp only [Act.put, List.setIfInBounds_toArray, List.set_cons_zero, List.set_cons_succ, vagg]
          generalize hBn : w4.heap.size = BN at *
          generalize hw5 : w4.alloc (.cells #[.int .i64 zk, .string zs, .slice ra rn rc, .slice sa sn sc] 27) = w5 at *
          have HBX := hide hbx
          clear hbx hw5
          refine wpAnyH_ready (rs := [6]) (by kernel_rfl) (by simp) ?_
          refine AllReadyH.cons rfl (fun K9 hK => ?_) AllReadyH.nil
          refine wp_appV _ (.tmp 21) (.tmp 25) rfl (w.heap.size + 2) (.slice la ln lc) M rfl HM5.out.m.vs BN _ (zk, zs, .slice ra rn rc, .slice sa sn sc) rfl HBX.out ⟨rfl, rfl⟩ (by have := HMI.out; have := HLL.out; have := HIL.out; omega) (by have := HM5.out.m.box.lt; omega) ?_
          intro lv' w6 hown hgrow hrow
          obtain ⟨ya, yn, yc, rfl⟩ := hown.slice
          have hm6 := HM5.out.putV hgrow hown hrow (by rw [HMI.out]; exact HTI.out) HT5.out
          have n1 : some (w.heap.size + 1) ≠ (Value.slice la ln lc).ownBlock := fun e => by have := (HM5.out.m.vs.lt _ e.symm).1; omega
          have hbx6 := HM5.out.m.box.kept hgrow n1
          have lV4 := hbx6.lt
          have cV4 : w6.cell? ⟨w.heap.size + 1, 3, none⟩ = some (.slice la ln lc) := hbx6.cell 3
          have fV4 : w6.frozen? ⟨w.heap.size + 1, 3, none⟩ = false := hbx6.frozen 3
          have hb6 : BoxC w6 BP 85 #[.string xk, .int .i64 yk, .string ys, .slice pa pn pc', .slice qa qn qc] := HB5.out.kept hgrow (fun e => by
            obtain ⟨c, fz, hk⟩ := Lib.ownsRow_kind HM5.out.m.vs BP e.symm
            rw [show w5.heap[BP]? = _ from HB5.out] at hk
            cases hk)
          have HB6 := hide hb6
          have HB7 := hide (hb6.other (show BP ≠ w.heap.size + 1 by have := HBP.out; omega) 3 (.slice ya yn yc))
          have HM6 := hide hm6
          refine hK.out _ _ (HSX.out _ HB6.out) (fun _ => ?_)
          clear hK K9 hown hgrow hrow hm6 n1 hbx6 hb6
          try simp only [Act.put, List.setIfInBounds_toArray, List.set_cons_zero, List.set_cons_succ, vagg]
          refine takeD (i := 7) (v := ?v5) (some 27) rfl (by kernel_rfl) (by kernel_rfl) (by kernel_rfl) (fun _ _ _ h => h) (Or.inl ⟨by rfl, ?hy5⟩) (HSX.out _ HB6.out) (by rfl) ?rest5
          case hy5 => first | (intro w hSw; (try dsimp only at hSw); obtain ⟨s0, s1, s2, s3, s4⟩ := hSw; go_simp; done) | (intro w hSw; (try dsimp only at hSw); obtain ⟨s0, s1, s2, s3, s4⟩ := hSw; go_simp; with_reducible rfl)
          try simp only [Act.put, List.setIfInBounds_toArray, List.set_cons_zero, List.set_cons_succ, vagg]
          refine wpAnyH_ready (rs := [8]) (by kernel_rfl) (by simp) ?_
          refine AllReadyH.cons rfl (fun K9 hK => ?_) AllReadyH.nil
          go_simp
          refine hK.out _ _ (HSX.out _ HB7.out) (fun _ => ?_)
          clear hK K9
          try simp only [Act.put, List.setIfInBounds_toArray, List.set_cons_zero, List.set_cons_succ, vagg]
          refine wpAnyH_done (by kernel_rfl) ?_ _
          go_wp2
          go_roundw
          case rel => exact ⟨i1, _, _, M ++ [(zk, zs, .slice ra rn rc, .slice sa sn sc)], by have := HIL.out; have := HI1.out; omega, by first | rfl | go_num, by simp [HMI.out, HI1.out], by rw [HTK.out]; exact HM6.out⟩
          case measure => have := HIL.out; have := HI1.out; simp [RowKit.intOf]; omega
        · go_simp
          have hbl := bel w4 (.cells #[.int .i64 zk, .string zs, .slice ra rn rc, .slice sa sn sc] 27)
          have hbx := BoxC.new w4 27 #[.int .i64 zk, .string zs, .slice ra rn rc, .slice sa sn sc]
          have HM5 := hide (HM4.out.below hbl)
          have HB5 := hide (HB4.out.below hbl)
          have HT5 := hide (HT4.out.bel hbl)
          refine hK.out _ _ (HSX.out _ HB5.out) (fun _ => ?_)
          clear hK K9 hbl
          try simp only [Act.put, List.setIfInBounds_toArray, List.set_cons_zero, List.set_cons_succ, vagg]
          generalize hBn : w4.heap.size = BN at *
          generalize hw5 : w4.alloc (.cells #[.int .i64 zk, .string zs, .slice ra rn rc, .slice sa sn sc] 27) = w5 at *
          have HBX := hide hbx
          clear hbx hw5
          refine wpAnyH_ready (rs := [1]) (by kernel_rfl) (by simp) ?_
          refine AllReadyH.cons rfl (fun K9 hK => ?_) AllReadyH.nil
          have clv : w5.cell? ⟨w.heap.size + 1, 3, none⟩ = some (.slice la ln lc) := HM5.out.m.box.cell 3
          go_simp
          refine hK.out _ _ (HSX.out _ HB5.out) (fun _ => ?_)
          clear hK K9 clv
          try simp only [Act.put, List.setIfInBounds_toArray, List.set_cons_zero, List.set_cons_succ, vagg]
          refine wpAnyH_ready (rs := [6]) (by kernel_rfl) (by simp) ?_
          refine AllReadyH.cons rfl (fun K9 hK => ?_) AllReadyH.nil
          refine wp_appV _ (.tmp 21) (.tmp 25) rfl (w.heap.size + 2) (.slice la ln lc) M rfl HM5.out.m.vs BN _ (zk, zs, .slice ra rn rc, .slice sa sn sc) rfl HBX.out ⟨rfl, rfl⟩ (by have := HMI.out; have := HLL.out; have := HIL.out; omega) (by have := HM5.out.m.box.lt; omega) ?_
          intro lv' w6 hown hgrow hrow
          obtain ⟨ya, yn, yc, rfl⟩ := hown.slice
          have hm6 := HM5.out.putV hgrow hown hrow (by rw [HMI.out]; exact HTI.out) HT5.out
          have n1 : some (w.heap.size + 1) ≠ (Value.slice la ln lc).ownBlock := fun e => by have := (HM5.out.m.vs.lt _ e.symm).1; omega
          have hbx6 := HM5.out.m.box.kept hgrow n1
          have lV4 := hbx6.lt
          have cV4 : w6.cell? ⟨w.heap.size + 1, 3, none⟩ = some (.slice la ln lc) := hbx6.cell 3
          have fV4 : w6.frozen? ⟨w.heap.size + 1, 3, none⟩ = false := hbx6.frozen 3
          have hb6 : BoxC w6 BP 85 #[.string xk, .int .i64 yk, .string ys, .slice pa pn pc', .slice qa qn qc] := HB5.out.kept hgrow (fun e => by
            obtain ⟨c, fz, hk⟩ := Lib.ownsRow_kind HM5.out.m.vs BP e.symm
            rw [show w5.heap[BP]? = _ from HB5.out] at hk
            cases hk)
          have HB6 := hide hb6
          have HB7 := hide (hb6.other (show BP ≠ w.heap.size + 1 by have := HBP.out; omega) 3 (.slice ya yn yc))
          have HM6 := hide hm6
          refine hK.out _ _ (HSX.out _ HB6.out) (fun _ => ?_)
          clear hK K9 hown hgrow hrow hm6 n1 hbx6 hb6
          try simp only [Act.put, List.setIfInBounds_toArray, List.set_cons_zero, List.set_cons_succ, vagg]
          refine takeD (i := 7) (v := ?v6) (some 27) rfl (by kernel_rfl) (by kernel_rfl) (by kernel_rfl) (fun _ _ _ h => h) (Or.inl ⟨by rfl, ?hy6⟩) (HSX.out _ HB6.out) (by rfl) ?rest6
          case hy6 => first | (intro w hSw; (try dsimp only at hSw); obtain ⟨s0, s1, s2, s3, s4⟩ := hSw; go_simp; done) | (intro w hSw; (try dsimp only at hSw); obtain ⟨s0, s1, s2, s3, s4⟩ := hSw; go_simp; with_reducible rfl)
          try simp only [Act.put, List.setIfInBounds_toArray, List.set_cons_zero, List.set_cons_succ, vagg]
          refine wpAnyH_ready (rs := [8]) (by kernel_rfl) (by simp) ?_
          refine AllReadyH.cons rfl (fun K9 hK => ?_) AllReadyH.nil
          go_simp
          refine hK.out _ _ (HSX.out _ HB7.out) (fun _ => ?_)
          clear hK K9
          try simp only [Act.put, List.setIfInBounds_toArray, List.set_cons_zero, List.set_cons_succ, vagg]
          refine wpAnyH_done (by kernel_rfl) ?_ _
          go_wp2
          go_roundw
          case rel => exact ⟨i1, _, _, M ++ [(zk, zs, .slice ra rn rc, .slice sa sn sc)], by have := HIL.out; have := HI1.out; omega, by first | rfl | go_num, by simp [HMI.out, HI1.out], by rw [HTK.out]; exact HM6.out⟩
          case measure => have := HIL.out; have := HI1.out; simp [RowKit.intOf]; omega
    · obtain rfl : i = n := by omega
      have d1 : ¬ (i : Int) < (i : Int) := by omega
      have z0 := HM0.out.m.box.cell 0
      have z1 := HM0.out.m.box.cell 1
      have z2 := HM0.out.m.box.cell 2
      have z3 := HM0.out.m.box.cell 3
      have x0 := HM0.out.m.res.cell 0
      have x1 := HM0.out.m.res.cell 1
      have x2 := HM0.out.m.res.cell 2
      have x3 := HM0.out.m.res.cell 3
      simp only [List.getElem?_toArray, List.getElem?_cons_zero, List.getElem?_cons_succ] at z0 z1 z2 z3 x0 x1 x2 x3
      have y0 := HM0.out.m.res.frozen 0
      have y1 := HM0.out.m.res.frozen 1
      have y2 := HM0.out.m.res.frozen 2
      have y3 := HM0.out.m.res.frozen 3
      have lX := HM0.out.m.res.lt
      have lV := HM0.out.m.box.lt
      have HTK : Hid (K.take i = K) := by rw [Hid, ← HLEN.out]; exact List.take_length
      clear hlt hi
      go_wp2
      refine bodyPost_ret (results_jv rfl rfl (resJ_v HM0.out.m.res (.int .i64 6) (.string ⟨#[]⟩) (.slice ka kn kc) (.slice la ln lc))) rfl ?_
      have ht := HM0.out.tree (by rw [HMI.out, ← HL2.out, List.length_map, HN.out]) (.int .i64 6) (.string ⟨#[]⟩) (.slice ka kn kc) (.slice la ln lc)
      rw [HTK.out] at ht
      exact ⟨_, rfl, below4 HM0.out.m.low (Nat.le_refl _) _ _ _ _, ht⟩

end Go.Proofs.YtbdpmpepmjpadaaGreatDoor

namespace Go.Proofs.YtbdpmpepmjpadaaGreatDoor
set_option linter.unusedVariables false
set_option linter.unusedSimpArgs false
set_option maxRecDepth 100000
open Go Go.RowKit Go.Shelf Go.Lib

/-- The bytes from one place to another. -/
def midT (T : List Nat) (a b : Nat) : List Nat := (T.drop a).take (b - a)
theorem midT_nil (T : List Nat) (a : Nat) : midT T a a = [] := by unfold midT; simp
theorem midT_snoc {T : List Nat} {a b : Nat} (h : a ≤ b) (hb : b < T.length) : midT T a (b + 1) = midT T a b ++ [nth T b] := by
  unfold midT
  rw [show b + 1 - a = (b - a) + 1 by omega, List.take_add_one, List.getElem?_drop, show a + (b - a) = b by omega, List.getElem?_eq_getElem hb]
  simp [nth, hb]
theorem midT_len {T : List Nat} {a b : Nat} (hb : b ≤ T.length) : (midT T a b).length ≤ T.length := by
  unfold midT
  rw [List.length_take, List.length_drop]
  omega
theorem midT_lt {T : List Nat} (hT : ∀ x ∈ T, x < 256) (a b : Nat) : ∀ x ∈ midT T a b, x < 256 := fun x hx => hT x (List.mem_of_mem_drop (List.mem_of_mem_take hx))

set_option maxHeartbeats 8000000 in
theorem quoted_ok (w : World) (R p q d : Nat) (ao : Option Addr) (cap : Nat) (T : List Nat) (hr : RdJ w R (.slice ao T.length cap) p d) (hT : TxJ w R ao cap T) (h0 : nth T p = 34) (hpq : p + 1 ≤ q) (hq : q < T.length) (h1 : nth T q = 34) (hin : ∀ j, p + 1 ≤ j → j < q → 32 ≤ nth T j ∧ nth T j ≠ 34 ∧ nth T j ≠ 92) :
    Calls Tryz.prog 66 #[.pointer (some ⟨R, 0, none⟩)] w fun e w' => e = .returned (.string (strOf (midT T (p + 1) q))) ∧ AtJ w R (.slice ao T.length cap) (q + 1) d w' := by
  have HTK := hide (take_ok w R p d 34 ao cap T hr hT (by omega) h0)
  have hTs : ∀ x ∈ T, x < 256 := hT.byts.small
  have HT := hide hT
  have HIN := hide hin
  have HQ1 := hide h1
  have HQ := hide hq
  have HPQ := hide hpq
  have HRL := hide hr.lt
  have HTS := hide hTs
  have HLN := hide hT.len
  clear hr hT h0 hpq hq h1 hin hTs
  go_enter Tryz.func66, Tryz.ntmps66
  go_wp2_with fail
  refine HTK.out.mono ?_
  rintro e w1 ⟨rfl, hr1, hf1⟩
  have HR1 := hide hr1
  have HF1 := hide hf1
  clear hr1 hf1 HTK
  go_wp2
  go_loopw [3] (fun lv wr => ∃ k : Nat, p + 1 ≤ k ∧ k ≤ q ∧ OwnB w.heap.size wr lv (midT T (p + 1) k) ∧ RdJ wr R (.slice ao T.length cap) k d ∧ Fr R none w wr) (fun _ wr => T.length - rdAt wr R)
  case atStart => exact ⟨p + 1, Nat.le_refl _, HPQ.out, by rw [midT_nil]; exact World.ownsRow_nil _ _ _ _, HR1.out, HF1.out⟩
  case round =>
    obtain ⟨k, hk0, hk, ho, hr, hf⟩ := hrel
    clear HR1 HF1
    have hat := hr.at
    have HAT := hide hat
    have HT2 := hide (HT.out.fr hf)
    have HO := hide ho
    have HR := hide hr
    have HF := hide hf
    have HK0 := hide hk0
    obtain ⟨va, vn, vc, rfl⟩ := ho.slice
    clear hat ho hr hf
    by_cases hlt : k < q
    · obtain ⟨c32, c34, c92⟩ := HIN.out k hk0 hlt
      have HTN := hide (takes_no wr R k d 34 ao cap T HR.out HT2.out (by have := HQ.out; omega) c34)
      have HKL := hide hlt
      clear hlt hk hk0
      go_wp2_with fail
      refine HTN.out.mono ?_
      rintro e w2 ⟨rfl, hb2⟩
      have HB2 := hide hb2
      have HN := hide (next_some w2 R k d ao cap T (HR.out.below hb2) (HT2.out.fr (Fr.of hb2)) (by have := HQ.out; have := HKL.out; omega))
      obtain ⟨c, hc⟩ : ∃ c, nth T k = c := ⟨_, rfl⟩
      rw [hc] at HN c32 c34 c92
      have HC := hide hc
      have hc256 : c < 256 := by
        rw [← hc]
        unfold nth
        have hkl : k < T.length := by have := HQ.out; have := HKL.out; omega
        simp only [List.getElem?_eq_getElem hkl, Option.getD_some]
        exact HTS.out _ (List.getElem_mem hkl)
      clear hb2 HTN hc
      go_wp2_with fail
      refine HN.out.mono ?_
      rintro e w3 ⟨rfl, hb3⟩
      have d92 : ((c : Int) == 92) = false := by rw [beq_eq_false_iff_ne]; omega
      have d32 : ¬ (c : Int) < 32 := by omega
      have hb23 := HB2.out.trans (hb3.mono HB2.out.size)
      have hb4 := bel w3 (.cells #[.int .u8 (c : Int)] 5)
      have hb24 := hb23.trans (hb4.mono hb23.size)
      have HO4 := hide (HO.out.below hb24)
      have HR4 := hide (HR.out.below hb24)
      have HB4 := hide hb24
      have HBY : Hid (Byts (w3.alloc (.cells #[.int .u8 (c : Int)] 5)) (.slice (some ⟨w3.heap.size, 0, none⟩) 1 1) [c]) := byts_lit w3 [c] (by simpa using hc256) (0, 0)
      obtain ⟨k1, hk1⟩ : ∃ k1, k + 1 = k1 := ⟨_, rfl⟩
      have e1 : (k : Int) + 1 = (k1 : Int) := by omega
      have g1 : (k1 : Int) ≤ 1000000000 := by have := HQ.out; have := HKL.out; have := HLN.out; omega
      have HK1 := hide hk1
      have HSZ : Hid (w.heap.size ≤ w3.heap.size) := Nat.le_trans HF.out.size hb23.size
      have HLM := hide (midT_len (T := T) (a := p + 1) (b := k) (by have := HQ.out; have := HKL.out; omega))
      clear hb3 hb23 hb4 hb24 HN HB2 c32 c34 c92 hc256 hk1
      go_wp2_with (at_builtin; go_must (refine wpList_appA _ rfl (.tmp 12) (.tmp 14) rfl w.heap.size (.slice va vn vc) (midT T (p + 1) k) rfl HO4.out _ [c] rfl HBY.out (by have := HLM.out; have := HLN.out; simp only [List.length_cons, List.length_nil]; omega) (by have := HSZ.out; simp only [World.size_alloc]; omega) ?_; intro v' w5 hown' hgrow hrow); have HOW := hide hown'; obtain ⟨av, LL, cv, hv'⟩ := hown'.slice; subst hv'; have hx5 := BoxC.kept HR4.out hgrow (fun q => (HO4.out.off HR4.out) q.symm); have c5 := hx5.cell 1; have f5 := hx5.frozen 1; have l5 := hx5.lt; have HX5 := hide hx5; have HG5 := hide hgrow; clear hown' hgrow hrow hx5)
      go_roundw
      case rel =>
        have hrow : RowTo w none (Value.slice va vn vc).ownBlock := by
          cases hob : (Value.slice va vn vc).ownBlock with
          | none => exact .inl rfl
          | some j => exact .inr (.inr ⟨j, rfl, (HO4.out.lt j hob).1⟩)
        refine ⟨k1, by have := HK0.out; have := HK1.out; omega, by have := HKL.out; have := HK1.out; omega, ?_, RdJ.sets HX5.out, (((HF.out.then HB4.out).trans (Fr.grown HG5.out) hrow).set 1 _)⟩
        rw [← HK1.out, midT_snoc HK0.out (by have := HQ.out; have := HKL.out; omega), HC.out]
        exact HOW.out.fr ((Fr.refl R none w5).set 1 _) (HOW.out.off HX5.out) (by cases (Value.slice av LL cv).ownBlock <;> simp)
      case measure =>
        rw [RdJ.at (RdJ.sets HX5.out), HAT.out]
        have := HQ.out
        have := HKL.out
        have := HK1.out
        omega
    · obtain rfl : k = q := by omega
      have HTY := hide (takes_yes wr R k d 34 ao cap T HR.out HT2.out HQ.out HQ1.out)
      clear hlt hk hk0
      go_wp2_with fail
      refine HTY.out.mono ?_
      rintro e w2 ⟨rfl, hr2, hf2⟩
      have hO2 := HO.out.fr hf2 (HO.out.off HR.out) (by cases (Value.slice va vn vc).ownBlock <;> simp)
      obtain ⟨ao2, cap2, e2, hby, _⟩ := own_byts (midT_lt HTS.out (p + 1) k) hO2
      cases e2
      have hcv := conv_byts hby
      have HR2 := hide hr2
      have HF2 := hide (HF.out.trans hf2 (.inl rfl))
      clear hr2 hf2 hO2 hby HTY
      go_wp2
      go_ret
      exact ⟨rfl, HR2.out, HF2.out⟩

end Go.Proofs.YtbdpmpepmjpadaaGreatDoor

namespace Go.Proofs.YtbdpmpepmjpadaaGreatDoor
set_option linter.unusedVariables false
set_option linter.unusedSimpArgs false
set_option maxRecDepth 100000
open Go Go.RowKit Go.Shelf Go.Lib Go.Maps Go.ChangeShapes Go.WideShapes

theorem zeroUnit (w : World) : (zeroValue 153).run Tryz.prog w = .ok (.agg #[]) w := by kernel_rfl
theorem keyedS : Keyed Tryz.prog 9 := string_keyed Tryz.underlying9
theorem keyOfS {s : ByteArray} (h : s.size ≤ 1000000) : keyOf Tryz.prog 9 (.string s) = some (.string s.data.toList) := by
  have : s.size ≤ maxLen := by unfold maxLen; omega
  simp [keyOf, Tryz.underlying9, mapKey, this]
/-- A map's block: the keys that were put into it, one after the other. -/
def SetB (W : World) (r : Nat) (K : List ByteArray) : Prop :=
  ∃ es clock, W.heap[r]? = some (.map es clock) ∧ es.toList.map (·.key) = K.map Value.string ∧ ∀ s ∈ K, s.size ≤ 1000000
theorem SetB.made (W : World) : SetB (W.alloc (.map #[] 0)) W.heap.size [] := ⟨#[], 0, World.alloc_heap_new W _, rfl, fun s h => by simp at h⟩
theorem SetB.keep {W W' : World} {r : Nat} {K : List ByteArray} (h : SetB W r K) (hb : W'.heap[r]? = W.heap[r]?) : SetB W' r K := by
  obtain ⟨es, clock, h1, h2⟩ := h
  exact ⟨es, clock, hb.trans h1, h2⟩
theorem SetB.lt {W : World} {r : Nat} {K : List ByteArray} (h : SetB W r K) : r < W.heap.size := by
  obtain ⟨es, clock, h1, h2⟩ := h
  exact (Array.getElem?_eq_some_iff.1 h1).1
theorem SetB.keys {es : Array MapEntry} {K : List ByteArray} (h : es.toList.map (·.key) = K.map Value.string) (hs : ∀ s ∈ K, s.size ≤ 1000000) : ∀ e ∈ es.toList, (∃ s ∈ K, e.key = .string s) ∧ ∃ l, keyOf Tryz.prog 9 e.key = some l := fun e he => by
  have hm : e.key ∈ K.map Value.string := by rw [← h]; exact List.mem_map.2 ⟨e, he, rfl⟩
  obtain ⟨s, hsK, e1⟩ := List.mem_map.1 hm
  exact ⟨⟨s, hsK, e1.symm⟩, _, by rw [← e1]; exact keyOfS (hs s hsK)⟩
theorem SetB.look {W : World} {r : Nat} {K : List ByteArray} (h : SetB W r K) {s : ByteArray} (hs : s.size ≤ 1000000) (hn : s ∉ K) :
    (Instr.lookup 144 (.map (some r)) (.string s) true).run Tryz.prog W = .ok (.tuple #[.agg #[], .bool false]) W := by
  obtain ⟨es, clock, h1, h2, h3⟩ := h
  rcases keyedS.find W (keyOfS hs) es.toList (fun e he => (SetB.keys h2 h3 e he).2) with ⟨g1, g2⟩ | ⟨j, e0, g1, g2, g3⟩
  · simp [Instr.lookup, run_underlying Tryz.underlying144, MapKept.run_getObj_map h1, keyedS.check W _ (keyOfS hs), g1, zeroUnit, Result.andThen]
  · exfalso
    obtain ⟨s', hs', e1⟩ := (SetB.keys h2 h3 e0 (List.mem_of_getElem? g2)).1
    rw [g3] at e1
    cases e1
    exact hn hs'
theorem SetB.put {W : World} {r : Nat} {K : List ByteArray} (h : SetB W r K) {s : ByteArray} (hs : s.size ≤ 1000000) (hn : s ∉ K) :
    ∃ o, (Instr.mapUpdate 144 (.map (some r)) (.string s) (.agg #[])).run Tryz.prog W = .ok () (W.putObj r o) ∧ o.isCells = false ∧ SetB (W.putObj r o) r (K ++ [s]) := by
  have hlt := h.lt
  obtain ⟨es, clock, h1, h2, h3⟩ := h
  rcases keyedS.find W (keyOfS hs) es.toList (fun e he => (SetB.keys h2 h3 e he).2) with ⟨g1, g2⟩ | ⟨j, e0, g1, g2, g3⟩
  · refine ⟨.map (es.push ⟨.string s, .agg #[], clock⟩) (clock + 1), ?_, rfl, es.push ⟨.string s, .agg #[], clock⟩, clock + 1, World.putObj_heap_same hlt, ?_, ?_⟩
    · simp [Instr.mapUpdate, run_underlying Tryz.underlying144, MapKept.run_getObj_map h1, keyedS.check W false (keyOfS hs), g1, MapKept.run_setObj_map _ h1, Result.andThen]
      rfl
    · simp [h2]
    · intro t ht
      rcases List.mem_append.1 ht with q | q
      · exact h3 t q
      · simp at q
        rw [q]
        exact hs
  · exfalso
    obtain ⟨s', hs', e1⟩ := (SetB.keys h2 h3 e0 (List.mem_of_getElem? g2)).1
    rw [g3] at e1
    cases e1
    exact hn hs'

theorem Fr.put {R r : Nat} (W : World) (o : Obj) : Fr R (some r) W (W.putObj r o) :=
  ⟨rfl, rfl, rfl, by simp, fun k hk h1 h2 => World.putObj_heap_other (fun e => h2 (by rw [e]))⟩
theorem Fr.weak {R : Nat} {row : Option Nat} {w w' : World} (h : Fr R none w w') : Fr R row w w' := ⟨h.1, h.2.1, h.2.2.1, h.2.2.2.1, fun k hk h1 _ => h.2.2.2.2 k hk h1 (by simp)⟩
theorem SetB.off {W : World} {r R : Nat} {K : List ByteArray} {t : TypeId} {cs : Array Value} (h : SetB W r K) (hb : BoxC W R t cs) : r ≠ R := by
  rintro rfl
  obtain ⟨es, clock, h1, _⟩ := h
  rw [show W.heap[r]? = _ from hb] at h1
  cases h1

set_option maxHeartbeats 8000000 in
theorem key_ok (w : World) (R p q d r : Nat) (ao : Option Addr) (cap : Nat) (T : List Nat) (K : List ByteArray) (hr : RdJ w R (.slice ao T.length cap) p d) (hT : TxJ w R ao cap T) (h0 : nth T p = 34) (hpq : p + 1 ≤ q) (hq : q < T.length) (h1 : nth T q = 34) (hin : ∀ j, p + 1 ≤ j → j < q → 32 ≤ nth T j ∧ nth T j ≠ 34 ∧ nth T j ≠ 92)
    (hS : SetB w r K) (hn : strOf (midT T (p + 1) q) ∉ K) :
    Calls Tryz.prog 94 #[.pointer (some ⟨R, 0, none⟩), .map (some r)] w fun e w' => e = .returned (.string (strOf (midT T (p + 1) q))) ∧ RdJ w' R (.slice ao T.length cap) (q + 1) d ∧ SetB w' r (K ++ [strOf (midT T (p + 1) q)]) ∧ Fr R (some r) w w' := by
  have HQ := hide (quoted_ok w R p q d ao cap T hr hT h0 hpq hq h1 hin)
  have hsz : (strOf (midT T (p + 1) q)).size ≤ 1000000 := by
    rw [strOf_size]
    have := midT_len (T := T) (a := p + 1) (b := q) (by omega)
    have := hT.len
    omega
  have c1 : w.cell? ⟨R, 1, none⟩ = some (.int .i64 (p : Int)) := hr.cell 1
  have lR := hr.lt
  generalize strOf (midT T (p + 1) q) = s at *
  have HSZ := hide hsz
  have HN := hide hn
  have HS := hide hS
  have HNE := hide (hS.off hr)
  clear hr hT h0 hpq hq h1 hin hsz hn hS
  go_enter Tryz.func94, Tryz.ntmps94
  go_wp2_with fail
  refine HQ.out.mono ?_
  rintro e w1 ⟨rfl, hr1, hf1⟩
  have hS1 : SetB w1 r K := HS.out.keep (hf1.block HS.out.lt HNE.out (by simp))
  have hlk := hS1.look HSZ.out HN.out
  have hb2 := bel w1 (.cells #[] 153)
  have HR2 := hide (hr1.below hb2)
  have HF2 := hide (hf1.then hb2)
  have HS2 := hide (hS1.keep (hb2.block r hS1.lt))
  clear hr1 hf1 hS1 hb2 HQ
  go_upto_region 6 with fail
  generalize w1.alloc (.cells #[] 153) = w2 at *
  obtain ⟨o, hput, _, hS3⟩ := HS2.out.put HSZ.out HN.out
  have hne := HNE.out
  have HR3 := hide (show RdJ (w2.putObj r o) R (.slice ao T.length cap) (q + 1) d from (World.putObj_heap_other (fun e => HNE.out e.symm)).trans HR2.out)
  have HF3 := hide (HF2.out.weak.trans (Fr.put (R := R) (r := r) w2 o) (.inr (.inl rfl)))
  have HS3 := hide hS3
  clear hS3 hlk hne
  go_wp2
  go_ret
  exact ⟨rfl, HR3.out, HS3.out, HF3.out⟩

end Go.Proofs.YtbdpmpepmjpadaaGreatDoor

namespace Go.Proofs.YtbdpmpepmjpadaaGreatDoor
set_option linter.unusedVariables false
set_option linter.unusedSimpArgs false
set_option maxRecDepth 100000
open Go Go.RowKit Go.Shelf Go.Lib

theorem OwnS.mono {n m : Nat} {w : World} {v : Value} {K : List ByteArray} (h : OwnS m w v K) (k : n ≤ m) : OwnS n w v K := by
  rcases id h.2 with ⟨rfl, h0⟩ | ⟨g, cap, cur, rfl, hg, hh, hn, hm, hc, ht⟩
  · exact ⟨h.1, .inl ⟨rfl, h0⟩⟩
  · exact ⟨h.1, .inr ⟨g, cap, cur, rfl, by omega, hh, hn, hm, hc, ht⟩⟩
/-- Appending a string to one's own, in a region that draws. -/
theorem wp_appS (w : World) {o : Oper} {a : Act} {K : Act → World → Prop} {Q : Exit → Act → World → Prop} (s x : Operand)
    (ho : o.op = .call { callee := .builtin .append, args := #[s, x], argTypes := #[24, 24] })
    (n₀ : Nat) (v : Value) (Ks : List ByteArray) (hs : a.eval s = v) (hown : OwnS n₀ w v Ks) (b c : Nat) (y : ByteArray) (hx : a.eval x = .slice (some ⟨b, 0, none⟩) 1 c) (hl : BoxC w b 9 #[.string y]) (hsum : Ks.length ≤ 1000000000) (hbase : n₀ ≤ w.heap.size)
    (h : ∀ v' w', OwnS n₀ w' v' (Ks ++ [y]) → w.grownBy w' v.ownBlock → (v'.ownBlock = v.ownBlock ∨ v'.ownBlock = some w.heap.size) → K (a.put o.dst v') w') : o.wp Tryz.prog a w K Q := by
  obtain ⟨i0, hi, hz0, hz1, hz2⟩ := info_parts infoStr
  obtain ⟨v', w', hr, h2, h3', _, h5⟩ := run_append_own_at (P := Tryz.prog) w n₀ 24 o.type 9 i0 _ 1 16 Tryz.underlying24 hi hz0 hz1 hz2 rfl (by decide) v Ks.length (Ks.map Value.string) hown ⟨b, 0, none⟩ 1 c [.string y] rfl (by
      intro j u hj
      have := hl.cell j
      rw [addr_plus, Nat.zero_add, this]
      simpa using hj) (by
      intro u hu
      simp only [List.mem_cons, List.not_mem_nil, or_false] at hu
      rw [hu]
      rfl) (by unfold maxLen; omega) (by omega) hbase
  have h2' : OwnS n₀ w' v' (Ks ++ [y]) := by
    unfold OwnS
    rw [List.length_append, List.map_append]
    exact h2
  unfold Oper.wp execOp
  simp only [ho, resolve, invoke, builtin, Sem.run_bind, Sem.run_pure, Result.andThen_ok, List.map_toArray, List.map_cons, List.map_nil, hs, hx, hr]
  exact h v' w' h2' h3' h5

/-- A part of an object: its key's quotes, the key, its value, the place behind it. -/
structure OP where
  a : Nat
  q : Nat
  s : ByteArray
  x : JC
  z : Nat
/-- An object's parts, from a place on, and the place behind its end. -/
def Chain (T : List Nat) (val : Nat → Option VR) : Nat → Bool → List OP → Nat → Prop
  | p, f, [], z => endL T 125 p f = .yes z
  | p, f, o :: l, z => endL T 125 p f = .no o.a ∧ nth T o.a = 34 ∧ o.a + 1 ≤ o.q ∧ o.q < T.length ∧ nth T o.q = 34 ∧ (∀ j, o.a + 1 ≤ j → j < o.q → 32 ≤ nth T j ∧ nth T j ≠ 34 ∧ nth T j ≠ 92) ∧ o.s = strOf (midT T (o.a + 1) o.q) ∧ blEnd T (o.q + 1) < T.length ∧ nth T (blEnd T (o.q + 1)) = 58 ∧ val (blEnd T (o.q + 1) + 1) = some (.ok o.x o.z) ∧ Chain T val o.z false l z

/-- An object on its way. -/
structure MidO (w W : World) (R : Nat) (sv : Value) (q d : Nat) (kv lv : Value) (KS K : List ByteArray) (M : List JC) : Prop where
  box : BoxC W (w.heap.size + 1) 27 #[.int .i64 6, .string ⟨#[]⟩, kv, lv]
  set : SetB W (w.heap.size + 2) KS
  ks : OwnS (w.heap.size + 3) W kv K
  vs : OwnV (w.heap.size + 3) W lv M
  rd : RdJ W R sv q d
  fr : Fr R none w W
  res : BoxC W w.heap.size 27 #[.int .i64 0, .string ⟨#[]⟩, .slice none 0 0, .slice none 0 0]
  old : R < w.heap.size
theorem MidO.go {w W W' : World} {R : Nat} {sv : Value} {q q' d : Nat} {kv lv : Value} {KS K : List ByteArray} {M : List JC} (h : MidO w W R sv q d kv lv KS K M) (hr : RdJ W' R sv q' d) (hf : Fr R none W W') : MidO w W' R sv q' d kv lv KS K M := by
  have h1 : R < w.heap.size := h.old
  refine ⟨h.box.fr hf (by omega) (by simp), h.set.keep (hf.block h.set.lt (by omega) (by simp)), h.ks.keep (fun j e => hf.block (h.ks.lt j e).2 (fun q => ?_) (by simp)), h.vs.keep (fun j e => hf.block (h.vs.lt j e).2 (fun q => ?_) (by simp)), hr, h.fr.trans hf (.inl rfl), h.res.fr hf (by omega) (by simp), h.old⟩
  · have := (h.ks.lt j e).1
    omega
  · have := (h.vs.lt j e).1
    omega
theorem MidO.below {w W W' : World} {R : Nat} {sv : Value} {q d : Nat} {kv lv : Value} {KS K : List ByteArray} {M : List JC} (h : MidO w W R sv q d kv lv KS K M) (hb : Below W.heap.size W W') : MidO w W' R sv q d kv lv KS K M := h.go (h.rd.below hb) (Fr.of hb)
theorem MidO.key {w W W' : World} {R : Nat} {sv : Value} {q q' d : Nat} {kv lv : Value} {KS KS' K : List ByteArray} {M : List JC} (h : MidO w W R sv q d kv lv KS K M) (hr : RdJ W' R sv q' d) (hs : SetB W' (w.heap.size + 2) KS') (hf : Fr R (some (w.heap.size + 2)) W W') : MidO w W' R sv q' d kv lv KS' K M := by
  have h1 : R < w.heap.size := h.old
  have hsz := h.fr.size
  refine ⟨h.box.fr hf (by omega) (by simp), hs, h.ks.keep (fun j e => hf.block (h.ks.lt j e).2 (fun q => ?_) (fun q => ?_)), h.vs.keep (fun j e => hf.block (h.vs.lt j e).2 (fun q => ?_) (fun q => ?_)), hr, ⟨hf.1.trans h.fr.1, hf.2.1.trans h.fr.2.1, hf.2.2.1.trans h.fr.2.2.1, Nat.le_trans hsz hf.size, fun k hk hne _ => ?_⟩, h.res.fr hf (by omega) (by simp), h.old⟩
  · have := (h.ks.lt j e).1; omega
  · have := (h.ks.lt j e).1; cases q; omega
  · have := (h.vs.lt j e).1; omega
  · have := (h.vs.lt j e).1; cases q; omega
  · exact (hf.block (by omega) hne (fun q => by cases q; omega)).trans (h.fr.block hk hne (by simp))
theorem fr_grown {w W W' : World} {R n : Nat} {v : Value} (hf : Fr R none w W) (hg : W.grownBy W' v.ownBlock) (hlt : ∀ j, v.ownBlock = some j → w.heap.size ≤ j) : Fr R none w W' := by
  have hb := Fr.grown (R := R) hg
  refine ⟨hb.1.trans hf.1, hb.2.1.trans hf.2.1, hb.2.2.1.trans hf.2.2.1, Nat.le_trans hf.size hb.size, fun k hk hne _ => ?_⟩
  refine (hb.block (Nat.lt_of_lt_of_le hk hf.size) hne (fun e => ?_)).trans (hf.block hk hne (by simp))
  have := hlt k e
  omega
theorem MidO.putK {w W W' : World} {R : Nat} {sv : Value} {q d : Nat} {kv kv' lv : Value} {KS K K' : List ByteArray} {M : List JC} (h : MidO w W R sv q d kv lv KS K M) (hg : W.grownBy W' kv.ownBlock) (ho : OwnS (w.heap.size + 3) W' kv' K') : MidO w (W'.setCell ⟨w.heap.size + 1, 2, none⟩ kv') R sv q d kv' lv KS K' M := by
  have h1 : R < w.heap.size := h.old
  have hlt := h.ks.lt
  have n1 : some (w.heap.size + 1) ≠ kv.ownBlock := fun e => by have := (hlt _ e.symm).1; omega
  have n2 : some w.heap.size ≠ kv.ownBlock := fun e => by have := (hlt _ e.symm).1; omega
  have n3 : some R ≠ kv.ownBlock := fun e => by have := (hlt _ e.symm).1; omega
  have n4 : some (w.heap.size + 2) ≠ kv.ownBlock := fun e => by have := (hlt _ e.symm).1; omega
  have hset := h.set.keep (hg.block _ h.set.lt n4)
  have hvs := h.vs.keep (fun j e => hg.block j (h.vs.lt j e).2 (fun q => ownSV h.ks h.vs j q.symm e))
  refine ⟨(h.box.kept hg n1).set 2 kv', hset.keep (Below.heap_setCell W' ⟨w.heap.size + 1, 2, none⟩ kv' _ (by show w.heap.size + 2 ≠ w.heap.size + 1; omega)), ho.set (ho.off (by omega)), hvs.set (hvs.off (by omega)), ?_, ?_, (h.res.kept hg n2).other (by omega) 2 kv', h.old⟩
  · exact BoxC.other (BoxC.kept h.rd hg n3) (show R ≠ w.heap.size + 1 by omega) 2 kv'
  · exact Fr.setNew (fr_grown (n := 0) h.fr hg (fun j e => by have := (hlt j e).1; omega)) (by omega) 2 kv'
theorem MidO.putV {w W W' : World} {R : Nat} {sv : Value} {q d : Nat} {kv lv lv' : Value} {KS K : List ByteArray} {M M' : List JC} (h : MidO w W R sv q d kv lv KS K M) (hg : W.grownBy W' lv.ownBlock) (ho : OwnV (w.heap.size + 3) W' lv' M') : MidO w (W'.setCell ⟨w.heap.size + 1, 3, none⟩ lv') R sv q d kv lv' KS K M' := by
  have h1 : R < w.heap.size := h.old
  have hlt := h.vs.lt
  have n1 : some (w.heap.size + 1) ≠ lv.ownBlock := fun e => by have := (hlt _ e.symm).1; omega
  have n2 : some w.heap.size ≠ lv.ownBlock := fun e => by have := (hlt _ e.symm).1; omega
  have n3 : some R ≠ lv.ownBlock := fun e => by have := (hlt _ e.symm).1; omega
  have n4 : some (w.heap.size + 2) ≠ lv.ownBlock := fun e => by have := (hlt _ e.symm).1; omega
  have hset := h.set.keep (hg.block _ h.set.lt n4)
  have hks := h.ks.keep (fun j e => hg.block j (h.ks.lt j e).2 (fun q => ownSV h.ks h.vs j e q.symm))
  refine ⟨(h.box.kept hg n1).set 3 lv', hset.keep (Below.heap_setCell W' ⟨w.heap.size + 1, 3, none⟩ lv' _ (by show w.heap.size + 2 ≠ w.heap.size + 1; omega)), hks.set (hks.off (by omega)), ho.set (ho.off (by omega)), ?_, ?_, (h.res.kept hg n2).other (by omega) 3 lv', h.old⟩
  · exact BoxC.other (BoxC.kept h.rd hg n3) (show R ≠ w.heap.size + 1 by omega) 3 lv'
  · exact Fr.setNew (fr_grown (n := 0) h.fr hg (fun j e => by have := (hlt j e).1; omega)) (by omega) 3 lv'

/-- What object answers of such a text. -/
def ObjJ (Ks : List ByteArray) (Ms : List JC) (z : Nat) (w : World) (R : Nat) (sv : Value) (d : Nat) (e : Ending) (w' : World) : Prop :=
  ∃ kv lv, e = .returned (vagg (6, ⟨#[]⟩, kv, lv)) ∧ OwnS w.heap.size w' kv Ks ∧ OwnV w.heap.size w' lv Ms ∧ AtJ w R sv z d w'

set_option maxHeartbeats 16000000 in
theorem object_ok (val : Nat → Option VR) (w : World) (R p d : Nat) (ao : Option Addr) (cap : Nat) (T : List Nat) (P : List OP) (z : Nat) (Ks : List ByteArray) (Ms : List JC) (hr : RdJ w R (.slice ao T.length cap) p d) (hT : TxJ w R ao cap T) (hp : p ≤ T.length) (hv : HVal val R d ao cap T) (hok : OkV val T)
    (hKs : Ks = P.map (·.s)) (hMs : Ms = P.map (·.x)) (hch : Chain T val p true P z) (hnd : Ks.Nodup) :
    Calls Tryz.prog 69 #[.pointer (some ⟨R, 0, none⟩)] w (ObjJ Ks Ms z w R (.slice ao T.length cap) d) := by
  have hRw := hr.lt
  have hb1 : Below w.heap.size w (((w.alloc (.cells jv0 27)).alloc (.cells #[.int .i64 6, .string ⟨#[]⟩, .slice none 0 0, .slice none 0 0] 27)).alloc (.map #[] 0)) := ((bel w _).alloc (by simp) _).alloc (by simp only [World.size_alloc]; omega) _
  have hx1 := ((BoxC.new w 27 jv0).alloc (.cells #[.int .i64 6, .string ⟨#[]⟩, .slice none 0 0, .slice none 0 0] 27)).alloc (.map #[] 0)
  have hv1 := (BoxC.new (w.alloc (.cells jv0 27)) 27 #[.int .i64 6, .string ⟨#[]⟩, .slice none 0 0, .slice none 0 0]).alloc (.map #[] 0)
  have hm1 := SetB.made ((w.alloc (.cells jv0 27)).alloc (.cells #[.int .i64 6, .string ⟨#[]⟩, .slice none 0 0, .slice none 0 0] 27))
  rw [World.size_alloc] at hv1
  rw [World.size_alloc, World.size_alloc] at hm1
  unfold jv0 at hb1 hx1 hv1 hm1
  have hr1 := hr.below hb1
  have HI : Hid (∃ (q : Nat) (K : List ByteArray) (M : List JC) (kv lv : Value) (rest : List OP), rest.length = P.length ∧ Ks = K ++ rest.map (·.s) ∧ Ms = M ++ rest.map (·.x) ∧ Chain T val q (decide (M.length = 0)) rest z ∧ q ≤ T.length ∧ K.length ≤ q ∧ M.length = K.length ∧ MidO w (((w.alloc (.cells #[.int .i64 0, .string ⟨#[]⟩, .slice none 0 0, .slice none 0 0] 27)).alloc (.cells #[.int .i64 6, .string ⟨#[]⟩, .slice none 0 0, .slice none 0 0] 27)).alloc (.map #[] 0)) R (.slice ao T.length cap) q d kv lv K K M) :=
    ⟨p, [], [], .slice none 0 0, .slice none 0 0, P, rfl, hKs, hMs, hch, hp, Nat.zero_le _, rfl, hv1, hm1, ownS_nil _ _, ownV_nil _ _, hr1, Fr.of hb1, hx1, hRw⟩
  have HT := hide hT
  have HRW := hide hRw
  have HVL := hide hv
  have HOK := hide hok
  have HND := hide hnd
  clear hr hRw hb1 hx1 hv1 hm1 hr1 hT hp hv hok hnd hKs hMs hch
  have hmm := @run_makeMap Tryz.prog
  go_enter Tryz.func69, Tryz.ntmps69
  go_wp2
  go_loopg [] P.length (fun g wr => ∃ (q : Nat) (K : List ByteArray) (M : List JC) (kv lv : Value) (rest : List OP), rest.length = g ∧ Ks = K ++ rest.map (·.s) ∧ Ms = M ++ rest.map (·.x) ∧ Chain T val q (decide (M.length = 0)) rest z ∧ q ≤ T.length ∧ K.length ≤ q ∧ M.length = K.length ∧ MidO w wr R (.slice ao T.length cap) q d kv lv K K M)
  case atStart => exact HI.out
  case round =>
    obtain ⟨q, K, M, kv, lv, rest, hg, hKK, hMM, hch, hq, hKq, hMK, hm⟩ := hrel
    obtain ⟨la, lc, rfl, hlc⟩ := hm.vs.len
    obtain ⟨ka, kc, rfl, hkc⟩ := hm.ks.len
    have cl : wr.cell? ⟨w.heap.size + 1, 3, none⟩ = some (.slice la M.length lc) := hm.box.cell 3
    have hfst : (((M.length : Nat) : Int) == 0) = decide (M.length = 0) := by
      by_cases e : M.length = 0
      · rw [e]; rfl
      · rw [decide_eq_false e]; exact beq_eq_false_iff_ne.2 (by omega)
    have HE := hide (ended_calls wr R q d 125 (decide (M.length = 0)) ao cap T hm.rd (HT.out.fr hm.fr) hq)
    have HM := hide hm
    have HMK := hide hMK
    have HKQ := hide hKq
    have HQ := hide hq
    have HKK := hide hKK
    have HMM := hide hMM
    cases rest with
    | nil =>
      have hch' : endL T 125 q (decide (M.length = 0)) = .yes z := hch
      rw [hch'] at HE
      have HZ := hide (endL_le (c := 125) (f := decide (M.length = 0)) hq (.inl hch'))
      generalize hfi : decide (M.length = 0) = fi at *
      clear hch hch' hm hMK hKq hq hKK hMM hg hfi HI
      go_wp2_with fail
      refine HE.out.mono ?_
      rintro e w1 ⟨rfl, hr1, hf1⟩
      have hm := HM.out.go hr1 hf1
      have HM1 := hide hm
      have v0 : w1.cell? ⟨w.heap.size + 1, 0, none⟩ = some (.int .i64 6) := hm.box.cell 0
      have v1 : w1.cell? ⟨w.heap.size + 1, 1, none⟩ = some (.string ⟨#[]⟩) := hm.box.cell 1
      have v2 : w1.cell? ⟨w.heap.size + 1, 2, none⟩ = some (.slice ka K.length kc) := hm.box.cell 2
      have v3 : w1.cell? ⟨w.heap.size + 1, 3, none⟩ = some (.slice la M.length lc) := hm.box.cell 3
      have x0 : w1.cell? ⟨w.heap.size, 0, none⟩ = some (.int .i64 0) := hm.res.cell 0
      have x1 : w1.cell? ⟨w.heap.size, 1, none⟩ = some (.string ⟨#[]⟩) := hm.res.cell 1
      have x2 : w1.cell? ⟨w.heap.size, 2, none⟩ = some (.slice none 0 0) := hm.res.cell 2
      have x3 : w1.cell? ⟨w.heap.size, 3, none⟩ = some (.slice none 0 0) := hm.res.cell 3
      have y0 := hm.res.frozen 0
      have y1 := hm.res.frozen 1
      have y2 := hm.res.frozen 2
      have y3 := hm.res.frozen 3
      have lX := hm.res.lt
      have lV := hm.box.lt
      clear hf1 hr1 hm cl
      go_wp2
      refine bodyPost_ret (results_jv rfl rfl (resJ_v HM1.out.res (.int .i64 6) (.string ⟨#[]⟩) (.slice ka K.length kc) (.slice la M.length lc))) rfl ?_
      have hn : ∀ {W : World} (i : Nat) (x : Value), Fr R none w W → Fr R none w (W.setCell ⟨w.heap.size, i, none⟩ x) := fun i x h => h.setNew (Nat.le_refl _) i x
      have hok1 : (Value.slice ka K.length kc).ownBlock ≠ some w.heap.size := HM1.out.ks.off (by omega)
      have hok2 : (Value.slice la M.length lc).ownBlock ≠ some w.heap.size := HM1.out.vs.off (by omega)
      have hneX : R ≠ w.heap.size := by have := HRW.out; omega
      have eK : Ks = K := by have := HKK.out; simpa using this
      have eM : Ms = M := by have := HMM.out; simpa using this
      rw [eK, eM]
      refine ⟨_, _, rfl, OwnS.mono ((((HM1.out.ks.set hok1).set hok1).set hok1).set hok1) (by omega), ((((HM1.out.vs.set hok2).set hok2).set hok2).set hok2).mono (by omega), ?_, hn 3 _ (hn 2 _ (hn 1 _ (hn 0 _ HM1.out.fr)))⟩
      exact (((BoxC.other HM1.out.rd hneX 0 _).other hneX 1 _).other hneX 2 _).other hneX 3 _
    | cons o rest =>
      obtain ⟨n, rfl⟩ : ∃ n, gk = n + 1 := ⟨rest.length, by simpa using hg.symm⟩
      have hgn : rest.length = n := by simpa using hg
      obtain ⟨h1, h2, h3, h4, h5, h6, h6s, h7, h8, h9, h10⟩ := hch
      rw [h1] at HE
      have ha := endL_le (c := 125) (f := decide (M.length = 0)) hq (.inr h1)
      have hqa := no_ge h1
      obtain ⟨oa, oq, os, ⟨xk, xs, xa, xl⟩, oz⟩ := o
      simp only at h1 h2 h3 h4 h5 h6 h6s h7 h8 h9 h10 ha hqa HE
      have hnK : os ∉ K := by
        have hnd := HND.out
        rw [hKK, List.map_cons] at hnd
        intro hin
        exact (List.nodup_append.1 hnd).2.2 _ hin _ (List.mem_cons_self) rfl
      obtain ⟨g1, g2, g3⟩ := HOK.out _ _ _ h9
      have hbg := blEnd_ge T (oq + 1)
      have HQZ : Hid (oa < oz ∧ oz ≤ T.length) := ⟨by omega, g2⟩
      have HXO := hide g3
      have HQA := hide hqa
      have HH := hide (And.intro h2 (And.intro h3 (And.intro h4 (And.intro h5 h6))))
      have HSS := hide h6s
      have HH7 := hide h7
      have HH8 := hide h8
      have HH9 := hide h9
      have HCH := hide h10
      have HNK := hide hnK
      have HG := hide hgn
      generalize hfi : decide (M.length = 0) = fi at *
      clear h1 h2 h3 h4 h5 h6 h6s h7 h8 h9 h10 ha hqa g1 g2 g3 hbg hnK hg hgn hm hMK hKq hq hKK hMM hfi HI
      go_wp2_with fail
      refine HE.out.mono ?_
      rintro e w1 ⟨rfl, hr1, hf1⟩
      have hm := HM.out.go hr1 hf1
      have HM1 := hide hm
      have HKC : Hid (∀ W, Below w1.heap.size w1 W → Calls Tryz.prog 94 #[.pointer (some ⟨R, 0, none⟩), .map (some (w.heap.size + 2))] W fun e w' => e = .returned (.string os) ∧ RdJ w' R (.slice ao T.length cap) (oq + 1) d ∧ SetB w' (w.heap.size + 2) (K ++ [os]) ∧ Fr R (some (w.heap.size + 2)) W w') := fun W hW => by
        obtain ⟨h2, h3, h4, h5, h6⟩ := HH.out
        have hmW := HM1.out.below hW
        have h := key_ok W R oa oq d (w.heap.size + 2) ao cap T K hmW.rd (HT.out.fr hmW.fr) h2 h3 h4 h5 h6 hmW.set (by rw [← HSS.out]; exact HNK.out)
        rw [← HSS.out] at h
        exact h
      have HKL : Hid (K.length ≤ 1000000) := by have := HKQ.out; have := HQ.out; have := HT.out.len; unfold Hid; omega
      have HML : Hid (M.length ≤ 1000000) := by have := HKQ.out; have := HQ.out; have := HT.out.len; have := HMK.out; unfold Hid; omega
      clear hf1 hr1 hm cl HE HM
      generalize hos : os = s at *
      go_upto_region 4 with fail
      go_cut [] from 14 to 21 (fun wx => ∃ kv : Value, MidO w wx R (.slice ao T.length cap) (oq + 1) d kv (.slice la M.length lc) (K ++ [s]) (K ++ [s]) M)
      case first =>
        refine wp_region_held_drew (S := fun X : World => True) (by kernel_rfl) trivial (fun hHeld => ?_)
        have hdr : Below w1.heap.size w1 w1.drew := (Below.refl _ _).drew
        have HDR := hide hdr
        clear hdr
        refine takeD (i := 0) (v := ?v1) (some 14) rfl (by kernel_rfl) (by kernel_rfl) (by kernel_rfl) (fun _ _ _ h => h) (Or.inl ⟨by rfl, ?hy1⟩) (by trivial) (by rfl) ?rest1
        case hy1 => first | (intro w hSw; go_simp; done) | (intro w hSw; go_simp; with_reducible rfl)
        try simp only [Act.put, List.setIfInBounds_toArray, List.set_cons_zero, List.set_cons_succ]
        refine takeD (i := 2) (v := ?v2) (some 16) rfl (by kernel_rfl) (by kernel_rfl) (by kernel_rfl) (fun _ _ _ h => h) (Or.inl ⟨by rfl, ?hy2⟩) (by trivial) (by rfl) ?rest2
        case hy2 => first | (intro w hSw; go_simp; done) | (intro w hSw; go_simp; with_reducible rfl)
        try simp only [Act.put, List.setIfInBounds_toArray, List.set_cons_zero, List.set_cons_succ]
        refine takeD (i := 3) (v := ?v3) (some 17) rfl (by kernel_rfl) (by kernel_rfl) (by kernel_rfl) (fun _ _ _ h => h) (Or.inl ⟨by rfl, ?hy3⟩) (by trivial) (by rfl) ?rest3
        case hy3 => first | (intro w hSw; go_simp; done) | (intro w hSw; go_simp; with_reducible rfl)
        try simp only [Act.put, List.setIfInBounds_toArray, List.set_cons_zero, List.set_cons_succ]
        refine wpAnyH_ready (rs := [1, 4]) (by kernel_rfl) (by simp) ?_
        refine AllReadyH.cons rfl (fun K9 hK => ?_) (AllReadyH.cons rfl (fun K9 hK => ?_) AllReadyH.nil)
        · have clk : w1.cell? ⟨w.heap.size + 1, 2, none⟩ = some (.slice ka K.length kc) := HM1.out.box.cell 2
          go_simp
          refine hK.out _ _ trivial (fun _ => ?_)
          clear hK K9 clk
          try simp only [Act.put, List.setIfInBounds_toArray, List.set_cons_zero, List.set_cons_succ]
          refine wpAnyH_ready (rs := [4]) (by kernel_rfl) (by simp) ?_
          refine AllReadyH.cons rfl (fun K9 hK => ?_) AllReadyH.nil
          go_simp
          refine (HKC.out _ HDR.out).mono ?_
          rintro e w2 ⟨rfl, hr2, hs2, hf2⟩
          have HM2 := hide ((HM1.out.below HDR.out).key hr2 hs2 hf2)
          refine hK.out _ _ trivial (fun _ => ?_)
          clear hK K9 hr2 hs2 hf2
          try simp only [Act.put, List.setIfInBounds_toArray, List.set_cons_zero, List.set_cons_succ]
          refine wpAnyH_ready (rs := [5]) (by kernel_rfl) (by simp) ?_
          refine AllReadyH.cons rfl (fun K9 hK => ?_) AllReadyH.nil
          go_simp
          have hbl := bel w2 (.cells #[.string s] 9)
          have hbx := BoxC.new w2 9 #[.string s]
          have HM3 := hide (HM2.out.below hbl)
          refine hK.out _ _ trivial (fun _ => ?_)
          clear hK K9 hbl
          try simp only [Act.put, List.setIfInBounds_toArray, List.set_cons_zero, List.set_cons_succ]
          generalize hB : w2.heap.size = B at *
          generalize hw3 : w2.alloc (.cells #[.string s] 9) = w3 at *
          have HBX := hide hbx
          clear hbx hw3
          refine wpAnyH_ready (rs := [6]) (by kernel_rfl) (by simp) ?_
          refine AllReadyH.cons rfl (fun K9 hK => ?_) AllReadyH.nil
          refine wp_appS _ (.tmp 15) (.tmp 19) rfl (w.heap.size + 3) (.slice ka K.length kc) K rfl HM3.out.ks B _ s rfl HBX.out (by have := HKL.out; omega) (by have := HM3.out.set.lt; omega) ?_
          intro kv' w4 hown hgrow hrow
          obtain ⟨va, vc, hv', hvc⟩ := hown.len
          obtain ⟨kn, hkn⟩ : ∃ kn, (K ++ [s]).length = kn := ⟨_, rfl⟩
          rw [hkn] at hv'
          subst hv'
          have hm5 := HM3.out.putK hgrow hown
          have n1 : some (w.heap.size + 1) ≠ (.slice ka K.length kc : Value).ownBlock := fun e => by have := (HM3.out.ks.lt _ e.symm).1; omega
          have lV4 : w.heap.size + 1 < w4.heap.size := (HM3.out.box.kept hgrow n1).lt
          have cV4 : w4.cell? ⟨w.heap.size + 1, 2, none⟩ = some (.slice ka K.length kc) := (HM3.out.box.kept hgrow n1).cell 2
          have fV4 : w4.frozen? ⟨w.heap.size + 1, 2, none⟩ = false := (HM3.out.box.kept hgrow n1).frozen 2
          have HM5 := hide hm5
          refine hK.out _ _ trivial (fun _ => ?_)
          clear hK K9 hown hgrow hrow hm5 n1 hkn hvc
          try simp only [Act.put, List.setIfInBounds_toArray, List.set_cons_zero, List.set_cons_succ]
          refine takeD (i := 7) (v := ?v4) (some 21) rfl (by kernel_rfl) (by kernel_rfl) (by kernel_rfl) (fun _ _ _ h => h) (Or.inl ⟨by rfl, ?hy4⟩) (by trivial) (by rfl) ?rest4
          case hy4 => first | (intro w hSw; go_simp; done) | (intro w hSw; go_simp; with_reducible rfl)
          try simp only [Act.put, List.setIfInBounds_toArray, List.set_cons_zero, List.set_cons_succ]
          refine wpAnyH_ready (rs := [8]) (by kernel_rfl) (by simp) ?_
          refine AllReadyH.cons rfl (fun K9 hK => ?_) AllReadyH.nil
          go_simp
          refine hK.out _ _ trivial (fun _ => ?_)
          clear hK K9
          try simp only [Act.put, List.setIfInBounds_toArray, List.set_cons_zero, List.set_cons_succ]
          refine wpAnyH_done (by kernel_rfl) ?_ _
          go_wp2_with fail
          go_meet
          exact ⟨.slice va kn vc, HM5.out⟩
        · go_simp
          refine (HKC.out _ HDR.out).mono ?_
          rintro e w2 ⟨rfl, hr2, hs2, hf2⟩
          have HM2 := hide ((HM1.out.below HDR.out).key hr2 hs2 hf2)
          refine hK.out _ _ trivial (fun _ => ?_)
          clear hK K9 hr2 hs2 hf2
          try simp only [Act.put, List.setIfInBounds_toArray, List.set_cons_zero, List.set_cons_succ]
          refine wpAnyH_ready (rs := [1, 5]) (by kernel_rfl) (by simp) ?_
          refine AllReadyH.cons rfl (fun K9 hK => ?_) (AllReadyH.cons rfl (fun K9 hK => ?_) AllReadyH.nil)
          · have clk : w2.cell? ⟨w.heap.size + 1, 2, none⟩ = some (.slice ka K.length kc) := HM2.out.box.cell 2
            go_simp
            refine hK.out _ _ trivial (fun _ => ?_)
            clear hK K9 clk
            try simp only [Act.put, List.setIfInBounds_toArray, List.set_cons_zero, List.set_cons_succ]
            refine wpAnyH_ready (rs := [5]) (by kernel_rfl) (by simp) ?_
            refine AllReadyH.cons rfl (fun K9 hK => ?_) AllReadyH.nil
            go_simp
            have hbl := bel w2 (.cells #[.string s] 9)
            have hbx := BoxC.new w2 9 #[.string s]
            have HM3 := hide (HM2.out.below hbl)
            refine hK.out _ _ trivial (fun _ => ?_)
            clear hK K9 hbl
            try simp only [Act.put, List.setIfInBounds_toArray, List.set_cons_zero, List.set_cons_succ]
            generalize hB : w2.heap.size = B at *
            generalize hw3 : w2.alloc (.cells #[.string s] 9) = w3 at *
            have HBX := hide hbx
            clear hbx hw3
            refine wpAnyH_ready (rs := [6]) (by kernel_rfl) (by simp) ?_
            refine AllReadyH.cons rfl (fun K9 hK => ?_) AllReadyH.nil
            refine wp_appS _ (.tmp 15) (.tmp 19) rfl (w.heap.size + 3) (.slice ka K.length kc) K rfl HM3.out.ks B _ s rfl HBX.out (by have := HKL.out; omega) (by have := HM3.out.set.lt; omega) ?_
            intro kv' w4 hown hgrow hrow
            obtain ⟨va, vc, hv', hvc⟩ := hown.len
            obtain ⟨kn, hkn⟩ : ∃ kn, (K ++ [s]).length = kn := ⟨_, rfl⟩
            rw [hkn] at hv'
            subst hv'
            have hm5 := HM3.out.putK hgrow hown
            have n1 : some (w.heap.size + 1) ≠ (.slice ka K.length kc : Value).ownBlock := fun e => by have := (HM3.out.ks.lt _ e.symm).1; omega
            have lV4 : w.heap.size + 1 < w4.heap.size := (HM3.out.box.kept hgrow n1).lt
            have cV4 : w4.cell? ⟨w.heap.size + 1, 2, none⟩ = some (.slice ka K.length kc) := (HM3.out.box.kept hgrow n1).cell 2
            have fV4 : w4.frozen? ⟨w.heap.size + 1, 2, none⟩ = false := (HM3.out.box.kept hgrow n1).frozen 2
            have HM5 := hide hm5
            refine hK.out _ _ trivial (fun _ => ?_)
            clear hK K9 hown hgrow hrow hm5 n1 hkn hvc
            try simp only [Act.put, List.setIfInBounds_toArray, List.set_cons_zero, List.set_cons_succ]
            refine takeD (i := 7) (v := ?v5) (some 21) rfl (by kernel_rfl) (by kernel_rfl) (by kernel_rfl) (fun _ _ _ h => h) (Or.inl ⟨by rfl, ?hy5⟩) (by trivial) (by rfl) ?rest5
            case hy5 => first | (intro w hSw; go_simp; done) | (intro w hSw; go_simp; with_reducible rfl)
            try simp only [Act.put, List.setIfInBounds_toArray, List.set_cons_zero, List.set_cons_succ]
            refine wpAnyH_ready (rs := [8]) (by kernel_rfl) (by simp) ?_
            refine AllReadyH.cons rfl (fun K9 hK => ?_) AllReadyH.nil
            go_simp
            refine hK.out _ _ trivial (fun _ => ?_)
            clear hK K9
            try simp only [Act.put, List.setIfInBounds_toArray, List.set_cons_zero, List.set_cons_succ]
            refine wpAnyH_done (by kernel_rfl) ?_ _
            go_wp2_with fail
            go_meet
            exact ⟨.slice va kn vc, HM5.out⟩
          · go_simp
            have hbl := bel w2 (.cells #[.string s] 9)
            have hbx := BoxC.new w2 9 #[.string s]
            have HM3 := hide (HM2.out.below hbl)
            refine hK.out _ _ trivial (fun _ => ?_)
            clear hK K9 hbl
            try simp only [Act.put, List.setIfInBounds_toArray, List.set_cons_zero, List.set_cons_succ]
            generalize hB : w2.heap.size = B at *
            generalize hw3 : w2.alloc (.cells #[.string s] 9) = w3 at *
            have HBX := hide hbx
            clear hbx hw3
            refine wpAnyH_ready (rs := [1]) (by kernel_rfl) (by simp) ?_
            refine AllReadyH.cons rfl (fun K9 hK => ?_) AllReadyH.nil
            have clk : w3.cell? ⟨w.heap.size + 1, 2, none⟩ = some (.slice ka K.length kc) := HM3.out.box.cell 2
            go_simp
            refine hK.out _ _ trivial (fun _ => ?_)
            clear hK K9 clk
            try simp only [Act.put, List.setIfInBounds_toArray, List.set_cons_zero, List.set_cons_succ]
            refine wpAnyH_ready (rs := [6]) (by kernel_rfl) (by simp) ?_
            refine AllReadyH.cons rfl (fun K9 hK => ?_) AllReadyH.nil
            refine wp_appS _ (.tmp 15) (.tmp 19) rfl (w.heap.size + 3) (.slice ka K.length kc) K rfl HM3.out.ks B _ s rfl HBX.out (by have := HKL.out; omega) (by have := HM3.out.set.lt; omega) ?_
            intro kv' w4 hown hgrow hrow
            obtain ⟨va, vc, hv', hvc⟩ := hown.len
            obtain ⟨kn, hkn⟩ : ∃ kn, (K ++ [s]).length = kn := ⟨_, rfl⟩
            rw [hkn] at hv'
            subst hv'
            have hm5 := HM3.out.putK hgrow hown
            have n1 : some (w.heap.size + 1) ≠ (.slice ka K.length kc : Value).ownBlock := fun e => by have := (HM3.out.ks.lt _ e.symm).1; omega
            have lV4 : w.heap.size + 1 < w4.heap.size := (HM3.out.box.kept hgrow n1).lt
            have cV4 : w4.cell? ⟨w.heap.size + 1, 2, none⟩ = some (.slice ka K.length kc) := (HM3.out.box.kept hgrow n1).cell 2
            have fV4 : w4.frozen? ⟨w.heap.size + 1, 2, none⟩ = false := (HM3.out.box.kept hgrow n1).frozen 2
            have HM5 := hide hm5
            refine hK.out _ _ trivial (fun _ => ?_)
            clear hK K9 hown hgrow hrow hm5 n1 hkn hvc
            try simp only [Act.put, List.setIfInBounds_toArray, List.set_cons_zero, List.set_cons_succ]
            refine takeD (i := 7) (v := ?v6) (some 21) rfl (by kernel_rfl) (by kernel_rfl) (by kernel_rfl) (fun _ _ _ h => h) (Or.inl ⟨by rfl, ?hy6⟩) (by trivial) (by rfl) ?rest6
            case hy6 => first | (intro w hSw; go_simp; done) | (intro w hSw; go_simp; with_reducible rfl)
            try simp only [Act.put, List.setIfInBounds_toArray, List.set_cons_zero, List.set_cons_succ]
            refine wpAnyH_ready (rs := [8]) (by kernel_rfl) (by simp) ?_
            refine AllReadyH.cons rfl (fun K9 hK => ?_) AllReadyH.nil
            go_simp
            refine hK.out _ _ trivial (fun _ => ?_)
            clear hK K9
            try simp only [Act.put, List.setIfInBounds_toArray, List.set_cons_zero, List.set_cons_succ]
            refine wpAnyH_done (by kernel_rfl) ?_ _
            go_wp2_with fail
            go_meet
            exact ⟨.slice va kn vc, HM5.out⟩
      case rest =>
        clear HM1 HKC
        obtain ⟨kv, hm4⟩ := hcut
        obtain ⟨kb, kc', hkv, _⟩ := hm4.ks.len
        obtain ⟨kn, hkn⟩ : ∃ kn, (K ++ [s]).length = kn := ⟨_, rfl⟩
        rw [hkn] at hkv
        subst hkv
        clear hkn
        have HM4 := hide hm4
        have HSK := hide (skipBlanks_calls wc R (oq + 1) d ao cap T hm4.rd (HT.out.fr hm4.fr) (by have := HH.out.2.2.1; omega))
        clear hm4
        go_wp2_with fail
        refine HSK.out.mono ?_
        rintro e w5 ⟨rfl, hr5, _, hf5⟩
        have hm5 := HM4.out.go hr5 hf5
        have HTK := hide (take_ok w5 R (blEnd T (oq + 1)) d 58 ao cap T hr5 (HT.out.fr hm5.fr) HH7.out HH8.out)
        have HM5 := hide hm5
        clear hr5 hf5 hm5 HSK HM4
        go_wp2_with fail
        refine HTK.out.mono ?_
        rintro e w6 ⟨rfl, hr6, hf6⟩
        have hm6 := HM5.out.go hr6 hf6
        have HVC : Hid (∀ W, Below w6.heap.size w6 W → Calls Tryz.prog 48 #[.pointer (some ⟨R, 0, none⟩)] W fun e w' => e = .returned (vagg (xk, xs, xa, xl)) ∧ AtJ W R (.slice ao T.length cap) oz d w') := fun W hW => HVL.out W _ _ HH9.out (by have := HH7.out; omega) (hr6.below hW) ((HT.out.fr hm6.fr).fr (Fr.of hW))
        have HM7 := hide hm6
        have HNX : Hid (∀ W lv', MidO w W R (.slice ao T.length cap) oz d (.slice kb kn kc') lv' (K ++ [s]) (K ++ [s]) (M ++ [(xk, xs, xa, xl)]) → ∃ (q : Nat) (K : List ByteArray) (M : List JC) (kv lv : Value) (rest : List OP), rest.length = n ∧ Ks = K ++ rest.map (·.s) ∧ Ms = M ++ rest.map (·.x) ∧ Chain T val q (decide (M.length = 0)) rest z ∧ q ≤ T.length ∧ K.length ≤ q ∧ M.length = K.length ∧ MidO w W R (.slice ao T.length cap) q d kv lv K K M) := fun W lv' h =>
          ⟨oz, K ++ [s], M ++ [(xk, xs, xa, xl)], _, lv', rest, HG.out, by rw [HKK.out]; simp, by rw [HMM.out]; simp, by
            rw [decide_eq_false (show ¬ (M ++ [(xk, xs, xa, xl)]).length = 0 by simp)]
            exact HCH.out, HQZ.out.2, by
            have := HKQ.out
            have := HQZ.out
            have := HQA.out
            simp
            omega, by simp [HMK.out], h⟩
        clear hr6 hf6 hm6 HTK HM5
        go_upto_region 7 with fail
        generalize w6 = w7 at *
        refine wp_region_held_drew (S := fun X : World => True) (by kernel_rfl) trivial (fun hHeld => ?_)
        have hdr : Below w7.heap.size w7 w7.drew := (Below.refl _ _).drew
        have HDR := hide hdr
        clear hdr
        refine takeD (i := 0) (v := ?v7) (some 26) rfl (by kernel_rfl) (by kernel_rfl) (by kernel_rfl) (fun _ _ _ h => h) (Or.inl ⟨by rfl, ?hy7⟩) (by trivial) (by rfl) ?rest7
        case hy7 => first | (intro w hSw; go_simp; done) | (intro w hSw; go_simp; with_reducible rfl)
        try simp only [Act.put, List.setIfInBounds_toArray, List.set_cons_zero, List.set_cons_succ]
        refine takeD (i := 2) (v := ?v8) (some 28) rfl (by kernel_rfl) (by kernel_rfl) (by kernel_rfl) (fun _ _ _ h => h) (Or.inl ⟨by rfl, ?hy8⟩) (by trivial) (by rfl) ?rest8
        case hy8 => first | (intro w hSw; go_simp; done) | (intro w hSw; go_simp; with_reducible rfl)
        try simp only [Act.put, List.setIfInBounds_toArray, List.set_cons_zero, List.set_cons_succ]
        refine wpAnyH_ready (rs := [1, 3]) (by kernel_rfl) (by simp) ?_
        refine AllReadyH.cons rfl (fun K9 hK => ?_) (AllReadyH.cons rfl (fun K9 hK => ?_) AllReadyH.nil)
        · have clv : w7.cell? ⟨w.heap.size + 1, 3, none⟩ = some (.slice la M.length lc) := HM7.out.box.cell 3
          go_simp
          refine hK.out _ _ trivial (fun _ => ?_)
          clear hK K9 clv
          try simp only [Act.put, List.setIfInBounds_toArray, List.set_cons_zero, List.set_cons_succ]
          refine wpAnyH_ready (rs := [3]) (by kernel_rfl) (by simp) ?_
          refine AllReadyH.cons rfl (fun K9 hK => ?_) AllReadyH.nil
          go_simp
          refine (HVC.out _ HDR.out).mono ?_
          rintro e w8 ⟨rfl, hr8, hf8⟩
          have HM8 := hide ((HM7.out.below HDR.out).go hr8 hf8)
          simp only [vagg]
          refine hK.out _ _ trivial (fun _ => ?_)
          clear hK K9 hr8 hf8
          try simp only [Act.put, List.setIfInBounds_toArray, List.set_cons_zero, List.set_cons_succ]
          refine wpAnyH_ready (rs := [4]) (by kernel_rfl) (by simp) ?_
          refine AllReadyH.cons rfl (fun K9 hK => ?_) AllReadyH.nil
          go_simp
          have hbl := bel w8 (.cells #[.int .i64 xk, .string xs, xa, xl] 27)
          have hbx := BoxC.new w8 27 #[.int .i64 xk, .string xs, xa, xl]
          have HM9 := hide (HM8.out.below hbl)
          refine hK.out _ _ trivial (fun _ => ?_)
          clear hK K9 hbl
          try simp only [Act.put, List.setIfInBounds_toArray, List.set_cons_zero, List.set_cons_succ]
          generalize hB : w8.heap.size = B at *
          generalize hw9 : w8.alloc (.cells #[.int .i64 xk, .string xs, xa, xl] 27) = w9 at *
          have HBX := hide hbx
          clear hbx hw9
          refine wpAnyH_ready (rs := [5]) (by kernel_rfl) (by simp) ?_
          refine AllReadyH.cons rfl (fun K9 hK => ?_) AllReadyH.nil
          refine wp_appV _ (.tmp 27) (.tmp 30) rfl (w.heap.size + 3) (.slice la M.length lc) M rfl HM9.out.vs B _ (xk, xs, xa, xl) rfl HBX.out HXO.out (by have := HML.out; omega) (by have := HM9.out.set.lt; omega) ?_
          intro lv' wa hown hgrow hrow
          obtain ⟨va', vn', vc', rfl⟩ := hown.slice
          have hm5 := HM9.out.putV hgrow hown
          have n1 : some (w.heap.size + 1) ≠ (.slice la M.length lc : Value).ownBlock := fun e => by have := (HM9.out.vs.lt _ e.symm).1; omega
          have lV4 : w.heap.size + 1 < wa.heap.size := (HM9.out.box.kept hgrow n1).lt
          have cV4 : wa.cell? ⟨w.heap.size + 1, 3, none⟩ = some (.slice la M.length lc) := (HM9.out.box.kept hgrow n1).cell 3
          have fV4 : wa.frozen? ⟨w.heap.size + 1, 3, none⟩ = false := (HM9.out.box.kept hgrow n1).frozen 3
          have HM5 := hide hm5
          refine hK.out _ _ trivial (fun _ => ?_)
          clear hK K9 hown hgrow hrow hm5 n1
          try simp only [Act.put, List.setIfInBounds_toArray, List.set_cons_zero, List.set_cons_succ]
          refine takeD (i := 6) (v := ?v9) (some 32) rfl (by kernel_rfl) (by kernel_rfl) (by kernel_rfl) (fun _ _ _ h => h) (Or.inl ⟨by rfl, ?hy9⟩) (by trivial) (by rfl) ?rest9
          case hy9 => first | (intro w hSw; go_simp; done) | (intro w hSw; go_simp; with_reducible rfl)
          try simp only [Act.put, List.setIfInBounds_toArray, List.set_cons_zero, List.set_cons_succ]
          refine wpAnyH_ready (rs := [7]) (by kernel_rfl) (by simp) ?_
          refine AllReadyH.cons rfl (fun K9 hK => ?_) AllReadyH.nil
          go_simp
          refine hK.out _ _ trivial (fun _ => ?_)
          clear hK K9
          try simp only [Act.put, List.setIfInBounds_toArray, List.set_cons_zero, List.set_cons_succ]
          refine wpAnyH_done (by kernel_rfl) ?_ _
          go_wp2
          go_roundg n
          case measure => omega
          case rel => exact HNX.out _ _ HM5.out
        · go_simp
          refine (HVC.out _ HDR.out).mono ?_
          rintro e w8 ⟨rfl, hr8, hf8⟩
          have HM8 := hide ((HM7.out.below HDR.out).go hr8 hf8)
          simp only [vagg]
          refine hK.out _ _ trivial (fun _ => ?_)
          clear hK K9 hr8 hf8
          try simp only [Act.put, List.setIfInBounds_toArray, List.set_cons_zero, List.set_cons_succ]
          refine wpAnyH_ready (rs := [1, 4]) (by kernel_rfl) (by simp) ?_
          refine AllReadyH.cons rfl (fun K9 hK => ?_) (AllReadyH.cons rfl (fun K9 hK => ?_) AllReadyH.nil)
          · have clv : w8.cell? ⟨w.heap.size + 1, 3, none⟩ = some (.slice la M.length lc) := HM8.out.box.cell 3
            go_simp
            refine hK.out _ _ trivial (fun _ => ?_)
            clear hK K9 clv
            try simp only [Act.put, List.setIfInBounds_toArray, List.set_cons_zero, List.set_cons_succ]
            refine wpAnyH_ready (rs := [4]) (by kernel_rfl) (by simp) ?_
            refine AllReadyH.cons rfl (fun K9 hK => ?_) AllReadyH.nil
            go_simp
            have hbl := bel w8 (.cells #[.int .i64 xk, .string xs, xa, xl] 27)
            have hbx := BoxC.new w8 27 #[.int .i64 xk, .string xs, xa, xl]
            have HM9 := hide (HM8.out.below hbl)
            refine hK.out _ _ trivial (fun _ => ?_)
            clear hK K9 hbl
            try simp only [Act.put, List.setIfInBounds_toArray, List.set_cons_zero, List.set_cons_succ]
            generalize hB : w8.heap.size = B at *
            generalize hw9 : w8.alloc (.cells #[.int .i64 xk, .string xs, xa, xl] 27) = w9 at *
            have HBX := hide hbx
            clear hbx hw9
            refine wpAnyH_ready (rs := [5]) (by kernel_rfl) (by simp) ?_
            refine AllReadyH.cons rfl (fun K9 hK => ?_) AllReadyH.nil
            refine wp_appV _ (.tmp 27) (.tmp 30) rfl (w.heap.size + 3) (.slice la M.length lc) M rfl HM9.out.vs B _ (xk, xs, xa, xl) rfl HBX.out HXO.out (by have := HML.out; omega) (by have := HM9.out.set.lt; omega) ?_
            intro lv' wa hown hgrow hrow
            obtain ⟨va', vn', vc', rfl⟩ := hown.slice
            have hm5 := HM9.out.putV hgrow hown
            have n1 : some (w.heap.size + 1) ≠ (.slice la M.length lc : Value).ownBlock := fun e => by have := (HM9.out.vs.lt _ e.symm).1; omega
            have lV4 : w.heap.size + 1 < wa.heap.size := (HM9.out.box.kept hgrow n1).lt
            have cV4 : wa.cell? ⟨w.heap.size + 1, 3, none⟩ = some (.slice la M.length lc) := (HM9.out.box.kept hgrow n1).cell 3
            have fV4 : wa.frozen? ⟨w.heap.size + 1, 3, none⟩ = false := (HM9.out.box.kept hgrow n1).frozen 3
            have HM5 := hide hm5
            refine hK.out _ _ trivial (fun _ => ?_)
            clear hK K9 hown hgrow hrow hm5 n1
            try simp only [Act.put, List.setIfInBounds_toArray, List.set_cons_zero, List.set_cons_succ]
            refine takeD (i := 6) (v := ?v10) (some 32) rfl (by kernel_rfl) (by kernel_rfl) (by kernel_rfl) (fun _ _ _ h => h) (Or.inl ⟨by rfl, ?hy10⟩) (by trivial) (by rfl) ?rest10
            case hy10 => first | (intro w hSw; go_simp; done) | (intro w hSw; go_simp; with_reducible rfl)
            try simp only [Act.put, List.setIfInBounds_toArray, List.set_cons_zero, List.set_cons_succ]
            refine wpAnyH_ready (rs := [7]) (by kernel_rfl) (by simp) ?_
            refine AllReadyH.cons rfl (fun K9 hK => ?_) AllReadyH.nil
            go_simp
            refine hK.out _ _ trivial (fun _ => ?_)
            clear hK K9
            try simp only [Act.put, List.setIfInBounds_toArray, List.set_cons_zero, List.set_cons_succ]
            refine wpAnyH_done (by kernel_rfl) ?_ _
            go_wp2
            go_roundg n
            case measure => omega
            case rel => exact HNX.out _ _ HM5.out
          · go_simp
            have hbl := bel w8 (.cells #[.int .i64 xk, .string xs, xa, xl] 27)
            have hbx := BoxC.new w8 27 #[.int .i64 xk, .string xs, xa, xl]
            have HM9 := hide (HM8.out.below hbl)
            refine hK.out _ _ trivial (fun _ => ?_)
            clear hK K9 hbl
            try simp only [Act.put, List.setIfInBounds_toArray, List.set_cons_zero, List.set_cons_succ]
            generalize hB : w8.heap.size = B at *
            generalize hw9 : w8.alloc (.cells #[.int .i64 xk, .string xs, xa, xl] 27) = w9 at *
            have HBX := hide hbx
            clear hbx hw9
            refine wpAnyH_ready (rs := [1]) (by kernel_rfl) (by simp) ?_
            refine AllReadyH.cons rfl (fun K9 hK => ?_) AllReadyH.nil
            have clv : w9.cell? ⟨w.heap.size + 1, 3, none⟩ = some (.slice la M.length lc) := HM9.out.box.cell 3
            go_simp
            refine hK.out _ _ trivial (fun _ => ?_)
            clear hK K9 clv
            try simp only [Act.put, List.setIfInBounds_toArray, List.set_cons_zero, List.set_cons_succ]
            refine wpAnyH_ready (rs := [5]) (by kernel_rfl) (by simp) ?_
            refine AllReadyH.cons rfl (fun K9 hK => ?_) AllReadyH.nil
            refine wp_appV _ (.tmp 27) (.tmp 30) rfl (w.heap.size + 3) (.slice la M.length lc) M rfl HM9.out.vs B _ (xk, xs, xa, xl) rfl HBX.out HXO.out (by have := HML.out; omega) (by have := HM9.out.set.lt; omega) ?_
            intro lv' wa hown hgrow hrow
            obtain ⟨va', vn', vc', rfl⟩ := hown.slice
            have hm5 := HM9.out.putV hgrow hown
            have n1 : some (w.heap.size + 1) ≠ (.slice la M.length lc : Value).ownBlock := fun e => by have := (HM9.out.vs.lt _ e.symm).1; omega
            have lV4 : w.heap.size + 1 < wa.heap.size := (HM9.out.box.kept hgrow n1).lt
            have cV4 : wa.cell? ⟨w.heap.size + 1, 3, none⟩ = some (.slice la M.length lc) := (HM9.out.box.kept hgrow n1).cell 3
            have fV4 : wa.frozen? ⟨w.heap.size + 1, 3, none⟩ = false := (HM9.out.box.kept hgrow n1).frozen 3
            have HM5 := hide hm5
            refine hK.out _ _ trivial (fun _ => ?_)
            clear hK K9 hown hgrow hrow hm5 n1
            try simp only [Act.put, List.setIfInBounds_toArray, List.set_cons_zero, List.set_cons_succ]
            refine takeD (i := 6) (v := ?v11) (some 32) rfl (by kernel_rfl) (by kernel_rfl) (by kernel_rfl) (fun _ _ _ h => h) (Or.inl ⟨by rfl, ?hy11⟩) (by trivial) (by rfl) ?rest11
            case hy11 => first | (intro w hSw; go_simp; done) | (intro w hSw; go_simp; with_reducible rfl)
            try simp only [Act.put, List.setIfInBounds_toArray, List.set_cons_zero, List.set_cons_succ]
            refine wpAnyH_ready (rs := [7]) (by kernel_rfl) (by simp) ?_
            refine AllReadyH.cons rfl (fun K9 hK => ?_) AllReadyH.nil
            go_simp
            refine hK.out _ _ trivial (fun _ => ?_)
            clear hK K9
            try simp only [Act.put, List.setIfInBounds_toArray, List.set_cons_zero, List.set_cons_succ]
            refine wpAnyH_done (by kernel_rfl) ?_ _
            go_wp2
            go_roundg n
            case measure => omega
            case rel => exact HNX.out _ _ HM5.out

end Go.Proofs.YtbdpmpepmjpadaaGreatDoor

namespace Go.Proofs.YtbdpmpepmjpadaaGreatDoor
set_option linter.unusedVariables false
set_option linter.unusedSimpArgs false
set_option maxRecDepth 100000
open Go Go.RowKit Go.Shelf Go.Lib

/-- A tree that was read: it lies in new memory. -/
def TreeJ (T0 : JT) (z : Nat) (w : World) (R : Nat) (sv : Value) (d : Nat) (e : Ending) (w' : World) : Prop :=
  ∃ x : JC, e = .returned (vagg x) ∧ TIn w' (fun b => w.heap.size ≤ b) x T0 ∧ AtJ w R sv z d w'
def flatT (x : JC) : JT := .mk x.1 x.2.1 [] []
def Flat (x : JC) : Prop := x.2.2.1 = .slice none 0 0 ∧ x.2.2.2 = .slice none 0 0
theorem flat_in (W : World) (S : Nat → Prop) {x : JC} (h : Flat x) : TIn W S x (flatT x) := by
  obtain ⟨k, s, kv, lv⟩ := x
  obtain ⟨h1, h2⟩ := h
  simp only at h1 h2
  subst h1 h2
  exact .mk k s (.slice none 0 0) none 0 [] [] (fun _ => (0, ⟨#[]⟩, .slice none 0 0, .slice none 0 0)) ⟨none, 0, rfl, fun j hj => by simp at hj⟩ (fun i hi => by simp at hi) (fun i hi => by simp at hi) (fun i hi => by simp at hi)
theorem own_strs {n : Nat} {W : World} {v : Value} {K : List ByteArray} (h : OwnS n W v K) : StrsS W (fun b => n ≤ b) v K := by
  obtain ⟨ao, c, rfl, _⟩ := h.len
  refine ⟨ao, c, rfl, fun j hj => ?_⟩
  obtain ⟨g, rfl, hx⟩ := h.cell (List.getElem?_eq_getElem hj)
  refine ⟨g, 0, rfl, (h.lt g rfl).1, ?_⟩
  rw [Nat.zero_add, hx]
  simp [nthS, hj]
theorem own_tree {n : Nat} {W : World} {kv lv : Value} {K : List ByteArray} {M : List JC} (k : Int) (s : ByteArray) (hk : StrsS W (fun b => n ≤ b) kv K) (hv : OwnV n W lv M) (hM : ∀ x ∈ M, Flat x) : TIn W (fun b => n ≤ b) (k, s, kv, lv) (.mk k s K (M.map flatT)) := by
  obtain ⟨la, lc, rfl, _⟩ := hv.len
  have hl : (M.map flatT).length = M.length := by simp
  have hex : ∀ i, i < M.length → M[i]? = some (M[i]?.getD (0, ⟨#[]⟩, .slice none 0 0, .slice none 0 0)) := fun i h => by
    rw [List.getElem?_eq_getElem h]; rfl
  have hfl : ∀ i, i < M.length → Flat (M[i]?.getD (0, ⟨#[]⟩, .slice none 0 0, .slice none 0 0)) := fun i h => hM _ (List.mem_of_getElem? (hex i h))
  rw [← hl]
  refine .mk k s kv la lc K (M.map flatT) (fun i => M[i]?.getD (0, ⟨#[]⟩, .slice none 0 0, .slice none 0 0)) hk (fun i hi => ?_) (fun i hi => ?_) (fun i hi => ?_)
  · rw [hl] at hi
    obtain ⟨g, rfl, hc⟩ := hv.cell (hex i hi)
    refine ⟨g, 0, rfl, (hv.lt g rfl).1, fun r hr => ?_⟩
    rw [Nat.zero_add]
    exact hc r hr
  · rw [hl] at hi
    obtain ⟨h1, h2⟩ := hfl i hi
    exact ⟨⟨_, _, _, h1⟩, ⟨_, _, _, h2⟩⟩
  · have hi' : i < M.length := by rw [hl] at hi; exact hi
    have h := flat_in W (fun b => n ≤ b) (hfl i hi')
    have e : (M.map flatT)[i] = flatT (M[i]?.getD (0, ⟨#[]⟩, .slice none 0 0, .slice none 0 0)) := by
      rw [List.getElem_map, List.getElem?_eq_getElem hi']
      rfl
    rw [e]
    exact h

set_option maxHeartbeats 4000000 in
theorem nested_obj (w : World) (R p d : Nat) (ao : Option Addr) (cap : Nat) (T : List Nat) (T0 : JT) (z : Nat) (hr : RdJ w R (.slice ao T.length cap) p d) (hT : TxJ w R ao cap T) (hd : d < 64) (hp : p < T.length)
    (hA : ∀ W, RdJ W R (.slice ao T.length cap) (p + 1) (d + 1) → TxJ W R ao cap T → Calls Tryz.prog 69 #[.pointer (some ⟨R, 0, none⟩)] W (TreeJ T0 z W R (.slice ao T.length cap) (d + 1))) :
    Calls Tryz.prog 67 #[.pointer (some ⟨R, 0, none⟩), .func (.func 69) #[.pointer (some ⟨R, 0, none⟩)] #[]] w (TreeJ T0 z w R (.slice ao T.length cap) d) := by
  have hRw := hr.lt
  have hb0 := bel w (.cells jv0 27)
  have hx0 := BoxC.new w 27 jv0
  unfold jv0 at hb0 hx0
  have hr0 := hr.below hb0
  have hT0 := hT.fr (Fr.of hb0)
  generalize hw0 : w.alloc (.cells #[.int .i64 0, .string ⟨#[]⟩, .slice none 0 0, .slice none 0 0] 27) = w0 at *
  obtain ⟨p1, hp1⟩ : ∃ p1, p + 1 = p1 := ⟨_, rfl⟩
  obtain ⟨d1, hd1⟩ : ∃ d1, d + 1 = d1 := ⟨_, rfl⟩
  rw [hp1, hd1] at hA
  have e1 : (p : Int) + 1 = (p1 : Int) := by omega
  have e2 : (d : Int) + 1 = (d1 : Int) := by omega
  have e3 : (d1 : Int) - 1 = (d : Int) := by omega
  have g1 : (p1 : Int) ≤ 1000000000 := by have := hT.len; omega
  have g2 : (d1 : Int) ≤ 1000000000 := by omega
  have g3 : ((d : Int) == 64) = false := beq_eq_false_iff_ne.2 (by omega)
  have c1 : w0.cell? ⟨R, 1, none⟩ = some (.int .i64 (p : Int)) := hr0.cell 1
  have c2 : w0.cell? ⟨R, 2, none⟩ = some (.int .i64 (d : Int)) := hr0.cell 2
  have f1 := hr0.frozen 1
  have f2 := hr0.frozen 2
  have lR := hr0.lt
  have hra : RdJ ((w0.setCell ⟨R, 1, none⟩ (.int .i64 (p1 : Int))).setCell ⟨R, 2, none⟩ (.int .i64 (d1 : Int))) R (.slice ao T.length cap) p1 d1 := (BoxC.set hr0 1 _).set 2 _
  have hfa : Fr R none w0 ((w0.setCell ⟨R, 1, none⟩ (.int .i64 (p1 : Int))).setCell ⟨R, 2, none⟩ (.int .i64 (d1 : Int))) := ((Fr.refl R none w0).set 1 _).set 2 _
  have hxa := (hx0.fr hfa (by omega) (by simp))
  have HCA := hide (hA _ hra (hT0.fr hfa))
  have HW0 := hide hw0
  have HFA := hide (Fr.after hb0 hfa)
  have HXA := hide hxa
  have HRW := hide hRw
  clear hr hT hd hp hA hb0 hx0 hr0 hT0 hw0 hp1 hd1 hra hfa hxa hRw
  go_enter Tryz.func67, Tryz.ntmps67
  go_upto_region 1 with fail
  rw [HW0.out]
  clear HW0
  go_wp2_with fail
  refine HCA.out.mono ?_
  rintro e w1 ⟨⟨xk, xs, xK, xL⟩, rfl, hT0, hr1, hf⟩
  obtain ⟨h4, h5⟩ := hT0.sl
  simp only at h4 h5
  obtain ⟨ua, un, uc, rfl⟩ := h4
  obtain ⟨va, vn, vc, rfl⟩ := h5
  unfold vagg
  simp only
  have hx1 := HXA.out.fr hf (by have := HRW.out; omega) (by simp)
  have hf1 := HFA.out.trans hf (.inl rfl)
  have hb2 := bel w1 (.cells #[.int .i64 xk, .string xs, .slice ua un uc, .slice va vn vc] 27)
  have hv2 := BoxC.new w1 27 #[.int .i64 xk, .string xs, .slice ua un uc, .slice va vn vc]
  have hT2 := hT0.bel hb2
  have hsz0 : ((w0.setCell ⟨R, 1, none⟩ (.int .i64 (p1 : Int))).setCell ⟨R, 2, none⟩ (.int .i64 (d1 : Int))).heap.size = w0.heap.size := by rw [World.size_setCell, World.size_setCell]
  have hlt0 : w.heap.size < ((w0.setCell ⟨R, 1, none⟩ (.int .i64 (p1 : Int))).setCell ⟨R, 2, none⟩ (.int .i64 (d1 : Int))).heap.size := HXA.out.lt
  generalize ((w0.setCell ⟨R, 1, none⟩ (.int .i64 (p1 : Int))).setCell ⟨R, 2, none⟩ (.int .i64 (d1 : Int))).heap.size = n0 at *
  have hr2 := hr1.below hb2
  have hf2 := hf1.then hb2
  have hx2 := hx1.below hb2
  have hrw := HRW.out
  generalize hB : w1.heap.size = B at *
  generalize hw2 : w1.alloc (.cells #[.int .i64 xk, .string xs, .slice ua un uc, .slice va vn vc] 27) = w2 at *
  have c2 : w2.cell? ⟨R, 2, none⟩ = some (.int .i64 (d1 : Int)) := hr2.cell 2
  have f2 := hr2.frozen 2
  have lR2 := hr2.lt
  have hBw := hx1.lt
  rw [hB] at hBw
  have hr3 : RdJ (w2.setCell ⟨R, 2, none⟩ (.int .i64 (d : Int))) R (.slice ao T.length cap) z d := BoxC.set hr2 2 _
  have hf3 : Fr R none w (w2.setCell ⟨R, 2, none⟩ (.int .i64 (d : Int))) := hf2.set 2 _
  have hx3 := hx2.other (show w.heap.size ≠ R by omega) 2 (.int .i64 (d : Int))
  have hv3 := hv2.other (show B ≠ R by omega) 2 (.int .i64 (d : Int))
  have HW2 := hide hw2
  have HBB := hide hB
  have HR3 := hide hr3
  have HF3 := hide hf3
  have HX3 := hide hx3
  have HT2 := hide hT2
  have HLT0 := hide hlt0
  have hne1 : ¬ R = w.heap.size := by omega
  have hne2 : ¬ R = B := by omega
  have hne3 : ¬ w.heap.size = B := by omega
  have v0 := hv3.cell 0
  have v1 := hv3.cell 1
  have v2 := hv3.cell 2
  have v3 := hv3.cell 3
  have lV := hv3.lt
  have x0 := hx3.cell 0
  have x1 := hx3.cell 1
  have x2 := hx3.cell 2
  have x3 := hx3.cell 3
  have y0 := hx3.frozen 0
  have y1 := hx3.frozen 1
  have y2 := hx3.frozen 2
  have y3 := hx3.frozen 3
  have lX := hx3.lt
  simp only [List.getElem?_toArray, List.getElem?_cons_zero, List.getElem?_cons_succ, Nat.reduceAdd] at v0 v1 v2 v3 x0 x1 x2 x3
  clear hT0 hT2 hlt0 hsz0 hr1 hf hx1 hf1 hb2 hv2 hr2 hf2 hx2 hw2 hr3 hf3 hx3 hv3 hB hrw hBw
  go_upto_region 6 with fail
  rw [HW2.out, HBB.out]
  clear HW2 HBB
  go_wp2
  refine bodyPost_ret (results_jv rfl rfl (resJ_v HX3.out (.int .i64 xk) (.string xs) (.slice ua un uc) (.slice va vn vc))) rfl ?_
  refine ⟨(xk, xs, .slice ua un uc, .slice va vn vc), rfl, HT2.out.keep fun b hs _ => ?_, put4 (t := 0) (cs := #[]) (Nat.le_refl _) HRW.out HR3.out HF3.out _ _ _ _⟩
  have hs' : n0 ≤ b := hs
  have h1 := HLT0.out
  have h2 := HRW.out
  refine ⟨by show w.heap.size ≤ b; omega, ?_⟩
  have hne : b ≠ w.heap.size := by omega
  rw [Below.heap_setCell _ ⟨w.heap.size, 3, none⟩ _ b hne, Below.heap_setCell _ ⟨w.heap.size, 2, none⟩ _ b hne, Below.heap_setCell _ ⟨w.heap.size, 1, none⟩ _ b hne, Below.heap_setCell _ ⟨w.heap.size, 0, none⟩ _ b hne, Below.heap_setCell _ ⟨R, 2, none⟩ _ b (by show b ≠ R; omega)]

set_option maxHeartbeats 4000000 in
theorem value_obj (w : World) (R q d : Nat) (ao : Option Addr) (cap : Nat) (T : List Nat) (T0 : JT) (z : Nat) (hr : RdJ w R (.slice ao T.length cap) q d) (hT : TxJ w R ao cap T) (hq : q ≤ T.length) (hlt : blEnd T q < T.length) (hc : nth T (blEnd T q) = 123) (hd : d < 64)
    (hA : ∀ W, RdJ W R (.slice ao T.length cap) (blEnd T q + 1) (d + 1) → TxJ W R ao cap T → Calls Tryz.prog 69 #[.pointer (some ⟨R, 0, none⟩)] W (TreeJ T0 z W R (.slice ao T.length cap) (d + 1))) :
    Calls Tryz.prog 48 #[.pointer (some ⟨R, 0, none⟩)] w (TreeJ T0 z w R (.slice ao T.length cap) d) := by
  have hmf : ∀ (fn : Fn) (first cap : Array Value) (w : World), (Instr.makeFunc fn first cap).run Tryz.prog w = .ok (.func fn first cap) w := fun _ _ _ _ => rfl
  have hRw := hr.lt
  have hb0 := bel w (.cells jv0 27)
  have hx0 := BoxC.new w 27 jv0
  unfold jv0 at hb0 hx0
  have hr0 := hr.below hb0
  have hT0 := hT.fr (Fr.of hb0)
  generalize hw0 : w.alloc (.cells #[.int .i64 0, .string ⟨#[]⟩, .slice none 0 0, .slice none 0 0] 27) = w0 at *
  have HS := hide (skipBlanks_calls w0 R q d ao cap T hr0 hT0 hq)
  generalize blEnd T q = b at *
  have HW0 := hide hw0
  have HB0 := hide hb0
  have HT0 := hide hT0
  have HX0 := hide hx0
  have HRW := hide hRw
  have HLT := hide hlt
  have HD := hide hd
  have HA := hide hA
  have HCC := hide hc
  clear hr hT hq hb0 hx0 hr0 hT0 hw0 hRw hlt hd hA hc
  go_enter Tryz.func48, Tryz.ntmps48
  go_wp2_with fail
  rw [HW0.out]
  clear HW0
  refine HS.out.mono ?_
  rintro e w1 ⟨rfl, hr1, _, hf1⟩
  have hx1 := HX0.out.fr hf1 (by have := HRW.out; omega) (by simp)
  have HT1 := hide (HT0.out.fr hf1)
  have HF1 := hide (Fr.after HB0.out hf1)
  have HR1 := hide hr1
  have HX1 := hide hx1
  clear hf1 hx1 HS HT0 HX0 HB0 hr1
  have HN := hide (next_some w1 R b d ao cap T HR1.out HT1.out HLT.out)
  rw [HCC.out] at HN
  go_wp2_with fail
  refine HN.out.mono ?_
  rintro e w2 ⟨rfl, hB⟩
  have HX2 := hide (HX1.out.below hB)
  have HF2 := hide (HF1.out.then hB)
  have HR2 := hide (HR1.out.below hB)
  have HT2 := hide (HT1.out.fr (Fr.of hB))
  clear hB HX1 HR1 HT1 HF1 HN
  have HC := hide (nested_obj w2 R b d ao cap T T0 z HR2.out HT2.out HD.out HLT.out HA.out)
  go_wp2_with fail
  refine HC.out.mono ?_
  rintro e w3 ⟨⟨xk, xs, xK, xL⟩, rfl, hT3, hr3, hf3⟩
  obtain ⟨h4, h5⟩ := hT3.sl
  simp only at h4 h5
  obtain ⟨ua, un, uc, rfl⟩ := h4
  obtain ⟨va, vn, vc, rfl⟩ := h5
  unfold vagg
  simp only
  have hx3 := HX2.out.fr hf3 (by have := HRW.out; omega) (by simp)
  have HF3 := hide (HF2.out.trans hf3 (.inl rfl))
  have HR3 := hide hr3
  have HX3 := hide hx3
  have HT3 := hide hT3
  have HLT0 := hide HX2.out.lt
  have x0 : w3.cell? ⟨w.heap.size, 0, none⟩ = some (.int .i64 0) := hx3.cell 0
  have x1 : w3.cell? ⟨w.heap.size, 1, none⟩ = some (.string ⟨#[]⟩) := hx3.cell 1
  have x2 : w3.cell? ⟨w.heap.size, 2, none⟩ = some (.slice none 0 0) := hx3.cell 2
  have x3 : w3.cell? ⟨w.heap.size, 3, none⟩ = some (.slice none 0 0) := hx3.cell 3
  have y0 := hx3.frozen 0
  have y1 := hx3.frozen 1
  have y2 := hx3.frozen 2
  have y3 := hx3.frozen 3
  have lX := hx3.lt
  clear hr3 hf3 hx3 HX2 HF2 HR2 HT2 hT3
  go_wp2
  refine bodyPost_ret (results_jv rfl rfl (resJ_v HX3.out (.int .i64 xk) (.string xs) (.slice ua un uc) (.slice va vn vc))) rfl ?_
  refine ⟨(xk, xs, .slice ua un uc, .slice va vn vc), rfl, HT3.out.keep fun b hs _ => ?_, put4 (t := 0) (cs := #[]) (Nat.le_refl _) HRW.out HR3.out HF3.out _ _ _ _⟩
  have hs' : w2.heap.size ≤ b := hs
  have h1 := HLT0.out
  refine ⟨by show w.heap.size ≤ b; omega, ?_⟩
  have hne : b ≠ w.heap.size := by omega
  rw [Below.heap_setCell _ ⟨w.heap.size, 3, none⟩ _ b hne, Below.heap_setCell _ ⟨w.heap.size, 2, none⟩ _ b hne, Below.heap_setCell _ ⟨w.heap.size, 1, none⟩ _ b hne, Below.heap_setCell _ ⟨w.heap.size, 0, none⟩ _ b hne]

set_option maxHeartbeats 4000000 in
theorem value_str (w : World) (R q d : Nat) (ao : Option Addr) (cap : Nat) (T : List Nat) (y : Nat) (hr : RdJ w R (.slice ao T.length cap) q d) (hT : TxJ w R ao cap T) (hq : q ≤ T.length) (hlt : blEnd T q < T.length) (hc : nth T (blEnd T q) = 34) (hA : blEnd T q + 1 ≤ y ∧ y < T.length ∧ nth T y = 34 ∧ ∀ j, blEnd T q + 1 ≤ j → j < y → 32 ≤ nth T j ∧ nth T j ≠ 34 ∧ nth T j ≠ 92) :
    Calls Tryz.prog 48 #[.pointer (some ⟨R, 0, none⟩)] w (ValJ (.ok (4, strOf (midT T (blEnd T q + 1) y), .slice none 0 0, .slice none 0 0) (y + 1)) w R (.slice ao T.length cap) d) := by
  have hmf : ∀ (fn : Fn) (first cap : Array Value) (w : World), (Instr.makeFunc fn first cap).run Tryz.prog w = .ok (.func fn first cap) w := fun _ _ _ _ => rfl
  have hRw := hr.lt
  have hb0 := bel w (.cells jv0 27)
  have hx0 := BoxC.new w 27 jv0
  unfold jv0 at hb0 hx0
  have hr0 := hr.below hb0
  have hT0 := hT.fr (Fr.of hb0)
  generalize hw0 : w.alloc (.cells #[.int .i64 0, .string ⟨#[]⟩, .slice none 0 0, .slice none 0 0] 27) = w0 at *
  have HS := hide (skipBlanks_calls w0 R q d ao cap T hr0 hT0 hq)
  generalize blEnd T q = b at *
  have HW0 := hide hw0
  have HB0 := hide hb0
  have HT0 := hide hT0
  have HX0 := hide hx0
  have HRW := hide hRw
  have HLT := hide hlt
  have HA := hide hA
  have HCC := hide hc
  clear hr hT hq hb0 hx0 hr0 hT0 hw0 hRw hlt hA hc
  go_enter Tryz.func48, Tryz.ntmps48
  go_wp2_with fail
  rw [HW0.out]
  clear HW0
  refine HS.out.mono ?_
  rintro e w1 ⟨rfl, hr1, _, hf1⟩
  have hx1 := HX0.out.fr hf1 (by have := HRW.out; omega) (by simp)
  have HT1 := hide (HT0.out.fr hf1)
  have HF1 := hide (Fr.after HB0.out hf1)
  have HR1 := hide hr1
  have HX1 := hide hx1
  clear hf1 hx1 HS HT0 HX0 HB0 hr1
  have HN := hide (next_some w1 R b d ao cap T HR1.out HT1.out HLT.out)
  rw [HCC.out] at HN
  go_wp2_with fail
  refine HN.out.mono ?_
  rintro e w2 ⟨rfl, hB⟩
  have HX2 := hide (HX1.out.below hB)
  have HF2 := hide (HF1.out.then hB)
  have HR2 := hide (HR1.out.below hB)
  have HT2 := hide (HT1.out.fr (Fr.of hB))
  clear hB HX1 HR1 HT1 HF1 HN
  obtain ⟨k1, k2, k3, k4⟩ := HA.out
  have HC := hide (quoted_ok w2 R b y d ao cap T HR2.out HT2.out HCC.out k1 k2 k3 k4)
  clear k1 k2 k3 k4
  generalize strOf (midT T (b + 1) y) = st at *
  go_wp2_with fail
  refine HC.out.mono ?_
  rintro e w3 ⟨rfl, hr3, hf3⟩
  have hx3 := HX2.out.fr hf3 (by have := HRW.out; omega) (by simp)
  have HF3 := hide (HF2.out.trans hf3 (.inl rfl))
  have HR3 := hide hr3
  have HX3 := hide hx3
  have x0 : w3.cell? ⟨w.heap.size, 0, none⟩ = some (.int .i64 0) := hx3.cell 0
  have x1 : w3.cell? ⟨w.heap.size, 1, none⟩ = some (.string ⟨#[]⟩) := hx3.cell 1
  have x2 : w3.cell? ⟨w.heap.size, 2, none⟩ = some (.slice none 0 0) := hx3.cell 2
  have x3 : w3.cell? ⟨w.heap.size, 3, none⟩ = some (.slice none 0 0) := hx3.cell 3
  have y0 := hx3.frozen 0
  have y1 := hx3.frozen 1
  have y2 := hx3.frozen 2
  have y3 := hx3.frozen 3
  have lX := hx3.lt
  clear hr3 hf3 hx3 HX2 HF2 HR2 HT2
  go_wp2
  refine bodyPost_ret (results_jv rfl rfl (resJ_v HX3.out (.int .i64 4) (.string st) (.slice none 0 0) (.slice none 0 0))) rfl ?_
  exact ⟨rfl, put4 (t := 0) (cs := #[]) (Nat.le_refl _) HRW.out HR3.out HF3.out _ _ _ _⟩

end Go.Proofs.YtbdpmpepmjpadaaGreatDoor

namespace Go.Proofs.YtbdpmpepmjpadaaGreatDoor
set_option linter.unusedVariables false
set_option linter.unusedSimpArgs false
set_option maxRecDepth 100000
open Go Go.RowKit Go.Shelf Go.Lib

def kLine : ByteArray := ⟨#[108, 105, 110, 101]⟩
def kChar : ByteArray := ⟨#[99, 104, 97, 114, 97, 99, 116, 101, 114]⟩
def kStart : ByteArray := ⟨#[115, 116, 97, 114, 116]⟩
def kEnd : ByteArray := ⟨#[101, 110, 100]⟩
def numT (n : Int) : JT := .mk 3 (strOf (itoaT n)) [] []
def posT (a b : Int) : JT := .mk 6 ⟨#[]⟩ [kLine, kChar] [numT a, numT b]
def rangeT (a b c d : Int) : JT := .mk 6 ⟨#[]⟩ [kStart, kEnd] [posT a b, posT c d]
def Few (n : Int) : Prop := -999999999 ≤ n ∧ n ≤ 999999999
theorem clJ_num (n : Int) : clJ (numT n) = numT n := by
  unfold numT
  rw [clJ_eq]
  simp [sP, kP, lP, clJs]
theorem clJ_pos (a b : Int) : clJ (posT a b) = posT a b := by
  unfold posT
  rw [clJ_eq]
  simp [sP, kP, lP, clJs, clJ_num]
theorem itoa_len {n : Int} (h : Few n) : (itoaT n).length ≤ 100 := by
  have h1 := (int_some itoaT_lt (int_itoa h.1 h.2)).2.2.1
  have h2 := (restT_length (itoaT n)).1
  split at h2 <;> omega
theorem num_lt {n : Int} (h : Few n) : LtT (numT n) := .mk 3 _ [] [] (by simp) (by simp) (fun _ => by rw [strOf_size]; have := itoa_len h; omega) (fun i hi => by simp at hi)
theorem two_lt {k1 k2 : ByteArray} {A B : JT} (h1 : LtT A) (h2 : LtT B) : LtT (.mk 6 ⟨#[]⟩ [k1, k2] [A, B]) := .mk 6 ⟨#[]⟩ _ _ (by simp) (by simp) (by decide) (fun i hi => by
  match i, hi with
  | 0, _ => exact h1
  | 1, _ => exact h2)
theorem pos_lt {a b : Int} (h1 : Few a) (h2 : Few b) : LtT (posT a b) := two_lt (num_lt h1) (num_lt h2)
theorem range_lt {a b c d : Int} (h1 : Few a) (h2 : Few b) (h3 : Few c) (h4 : Few d) : LtT (rangeT a b c d) := two_lt (pos_lt h1 h2) (pos_lt h3 h4)
/-- Two pairs in a new block. -/
theorem pairs_two {W : World} {B : Nat} {S : Nat → Prop} {k1 k2 : ByteArray} {x y : JC} {A C : JT} (hb : BoxC W B 85 (pair5 k1 x ++ pair5 k2 y).toArray) (hx : TIn W S x A) (hy : TIn W S y C) (h1 : LtT A) (h2 : LtT C) :
    PairsT W S (.slice (some ⟨B, 0, none⟩) 2 2) [k1, k2] (fun i => if i = 0 then x else y) [A, C] := by
  refine ⟨some ⟨B, 0, none⟩, 2, rfl, rfl, fun i hi => ?_⟩
  match i, hi with
  | 0, _ =>
    refine ⟨B, 0, A, rfl, fun r hr => ?_, rfl, hx, h1⟩
    have := hb.cell r
    rw [show 0 + (0 * 5 + r) = r by omega, this, List.getElem?_toArray]
    exact List.getElem?_append_left (by simpa [pair5] using hr)
  | 1, _ =>
    refine ⟨B, 0, C, rfl, fun r hr => ?_, rfl, hy, h2⟩
    have := hb.cell (5 + r)
    rw [show 0 + (1 * 5 + r) = 5 + r by omega, this, List.getElem?_toArray, List.getElem?_append_right (by simp [pair5])]
    simp [pair5, nthS]
/-- A tree that is answered, in new memory. -/
def NewT (T : JT) (w : World) (e : Ending) (w' : World) : Prop := ∃ y : JC, e = .returned (vagg y) ∧ Below w.heap.size w w' ∧ TIn w' (fun b => w.heap.size ≤ b) y T
theorem num_in (W : World) (S : Nat → Prop) (n : Int) : TIn W S (nC (strOf (itoaT n))) (numT n) := flat_in W S (x := nC (strOf (itoaT n))) ⟨rfl, rfl⟩

end Go.Proofs.YtbdpmpepmjpadaaGreatDoor

namespace Go.Proofs.YtbdpmpepmjpadaaGreatDoor
set_option linter.unusedVariables false
set_option linter.unusedSimpArgs false
set_option maxRecDepth 100000
open Go Go.RowKit Go.Shelf Go.Lib

theorem results_pt2 {fn : Func} {i k : Tmp} (h : fn.results = #[.cell i 59, .tmp k]) {tmps : Array Value} {W : World} {b : Nat} {x y : Value} {t : TypeId} {ev : Value} (hp : tmps.getD i undef = .pointer (some ⟨b, 0, none⟩)) (he : tmps.getD k undef = ev) (T : BoxC W b t #[x, y]) :
    (results fn tmps).run Tryz.prog W = .ok (.tuple #[.agg #[x, y], ev]) W := by
  have c0 : W.cell? ⟨b, 0, none⟩ = some x := T.cell 0
  have c1 : W.cell? ⟨b, 1, none⟩ = some y := T.cell 1
  have hp' : tmps[i]?.getD undef = .pointer (some ⟨b, 0, none⟩) := by simpa using hp
  have he' : tmps[k]?.getD undef = ev := by simpa using he
  simp [results, h, hp', he', go_sem, c0, c1]
theorem results_pt3 {fn : Func} {i j k : Tmp} (h : fn.results = #[.cell i 59, .cell j 59, .tmp k]) {tmps : Array Value} {W : World} {b b' : Nat} {x y x' y' : Value} {t t' : TypeId} {ev : Value} (hp : tmps.getD i undef = .pointer (some ⟨b, 0, none⟩)) (hq : tmps.getD j undef = .pointer (some ⟨b', 0, none⟩)) (he : tmps.getD k undef = ev) (T : BoxC W b t #[x, y]) (T' : BoxC W b' t' #[x', y']) :
    (results fn tmps).run Tryz.prog W = .ok (.tuple #[.agg #[x, y], .agg #[x', y'], ev]) W := by
  have c0 : W.cell? ⟨b, 0, none⟩ = some x := T.cell 0
  have c1 : W.cell? ⟨b, 1, none⟩ = some y := T.cell 1
  have c2 : W.cell? ⟨b', 0, none⟩ = some x' := T'.cell 0
  have c3 : W.cell? ⟨b', 1, none⟩ = some y' := T'.cell 1
  have hp' : tmps[i]?.getD undef = .pointer (some ⟨b, 0, none⟩) := by simpa using hp
  have hq' : tmps[j]?.getD undef = .pointer (some ⟨b', 0, none⟩) := by simpa using hq
  have he' : tmps[k]?.getD undef = ev := by simpa using he
  simp [results, h, hp', hq', he', go_sem, c0, c1, c2, c3]
theorem num_is {W : World} {S : Nat → Prop} {y : JC} {n : Int} (h : TIn W S y (numT n)) : ∃ ka kn kc la ln lc, y = (3, strOf (itoaT n), .slice ka kn kc, .slice la ln lc) := by
  obtain ⟨h1, h2⟩ := h.sl
  cases h with
  | mk k s kv la lc K L xs hK hc hsl ht =>
    simp only at h1 h2
    obtain ⟨ka, kn, kc, rfl⟩ := h1
    exact ⟨ka, kn, kc, la, _, lc, rfl⟩
theorem int_num (w : World) {n : Int} (h : Few n) (ka la : Option Addr) (kn kc ln lc : Nat) (hE : ErrS w) :
    Calls Tryz.prog 52 #[.agg #[.int .i64 3, .string (strOf (itoaT n)), .slice ka kn kc, .slice la ln lc]] w fun e w' => e = .returned (.tuple #[.int .i64 n, .bool true]) ∧ Below w.heap.size w w' := by
  have hj := jint_any w 3 (itoaT n) itoaT_lt (by have := itoa_len h; omega) ka la kn kc ln lc hE
  unfold vagg at hj
  simp only at hj
  refine hj.mono ?_
  rintro e w' ⟨rfl, hb⟩
  refine ⟨?_, hb⟩
  unfold intJ
  rw [if_pos rfl, int_itoa h.1 h.2]
  rfl

set_option maxHeartbeats 8000000 in
theorem whole_ok (w : World) {S : Nat → Prop} {x : JC} {T : JT} (key : ByteArray) (n : Int) (hn : Few n) (hx : TIn w S x T) (hl : LtT T) (hg : getJ T key = some (numT n)) (hE : ErrS w) :
    Calls Tryz.prog 44 #[vagg x, .string key] w fun e w' => e = .returned (.tuple #[.int .i64 n, .bool true]) ∧ Below w.heap.size w w' := by
  obtain ⟨hs2, hs3⟩ := hx.sl
  obtain ⟨k, s, kv, lv⟩ := x
  obtain ⟨ka, kn, kc, rfl⟩ := hs2
  obtain ⟨la, ln, lc, rfl⟩ := hs3
  have hb := bel w (.cells #[.int .i64 k, .string s, .slice ka kn kc, .slice la ln lc] 27)
  have hp := BoxC.new w 27 #[.int .i64 k, .string s, .slice ka kn kc, .slice la ln lc]
  generalize hw0 : w.alloc (.cells #[.int .i64 k, .string s, .slice ka kn kc, .slice la ln lc] 27) = w0 at *
  have HGT := hide (get_any key w0 (hx.bel hb) hl)
  rw [hg] at HGT
  have HES := hide (hE.below hb)
  have HFN := hide hn
  unfold vagg at HGT ⊢
  simp only at HGT ⊢
  have v0 : w0.cell? ⟨w.heap.size, 0, none⟩ = some (.int .i64 k) := hp.cell 0
  have v1 : w0.cell? ⟨w.heap.size, 1, none⟩ = some (.string s) := hp.cell 1
  have v2 : w0.cell? ⟨w.heap.size, 2, none⟩ = some (.slice ka kn kc) := hp.cell 2
  have v3 : w0.cell? ⟨w.heap.size, 3, none⟩ = some (.slice la ln lc) := hp.cell 3
  have HW0 := hide hw0
  have HB1 := hide hb
  clear hw0 hp hb hx hl hg hE hn
  go_enter Tryz.func44, Tryz.ntmps44
  go_upto_region 1 with fail
  rw [HW0.out]
  clear HW0
  go_wp2_with fail
  refine HGT.out.mono ?_
  rintro e w1 ⟨y, rfl, hb1, hT⟩
  rw [Option.map_some, Option.getD_some, clJ_num] at hT
  obtain ⟨qa, qn, qc, ra, rn, rc, rfl⟩ := num_is hT
  simp only [vagg, Option.isSome_some]
  have HBA := hide hb1
  clear v0 v1 v2 v3 hT hb1 HGT
  have hb2 := bel w1 (.cells #[.int .i64 3, .string (strOf (itoaT n)), .slice qa qn qc, .slice ra rn rc] 27)
  have hx2 := BoxC.new w1 27 #[.int .i64 3, .string (strOf (itoaT n)), .slice qa qn qc, .slice ra rn rc]
  have HB2 := hide (HBA.out.trans (hb2.mono HBA.out.size))
  have HIT : Hid (∀ W, Below w0.heap.size w0 W → Calls Tryz.prog 52 #[.agg #[.int .i64 3, .string (strOf (itoaT n)), .slice qa qn qc, .slice ra rn rc]] W fun e w' => e = .returned (.tuple #[.int .i64 n, .bool true]) ∧ Below W.heap.size W w') := fun W hW => int_num W HFN.out qa ra qn qc rn rc (HES.out.below hW)
  clear hb2 HBA
  generalize strOf (itoaT n) = sn at *
  go_upto_region 2 with fail
  generalize w1.alloc (.cells #[.int .i64 3, .string sn, .slice qa qn qc, .slice ra rn rc] 27) = w2 at *
  have u0 := hx2.cell 0
  have u1 := hx2.cell 1
  have u2 := hx2.cell 2
  have u3 := hx2.cell 3
  simp only [List.getElem?_toArray, List.getElem?_cons_zero, List.getElem?_cons_succ] at u0 u1 u2 u3
  clear hx2
  go_wp2_with fail
  refine (HIT.out w2 HB2.out).mono ?_
  rintro e w3 ⟨rfl, hb3⟩
  have HB3 := hide (HB1.out.trans ((HB2.out.trans (hb3.mono HB2.out.size)).mono HB1.out.size))
  clear hb3 u0 u1 u2 u3
  go_wp2
  go_ret2
  exact ⟨rfl, HB3.out⟩

set_option maxHeartbeats 8000000 in
theorem position_ok (w : World) {S : Nat → Prop} {x : JC} {T : JT} (a b : Int) (ha : Few a) (hbf : Few b) (hx : TIn w S x T) (hl : LtT T) (hg1 : getJ T kLine = some (numT a)) (hg2 : getJ T kChar = some (numT b)) (hE : ErrS w) :
    Calls Tryz.prog 19 #[vagg x] w fun e w' => e = .returned (.tuple #[.agg #[.int .i64 a, .int .i64 b], .bool true]) ∧ Below w.heap.size w w' := by
  obtain ⟨hs2, hs3⟩ := hx.sl
  obtain ⟨k, s, kv, lv⟩ := x
  obtain ⟨ka, kn, kc, rfl⟩ := hs2
  obtain ⟨la, ln, lc, rfl⟩ := hs3
  have hb : Below w.heap.size w ((w.alloc (.cells #[.int .i64 k, .string s, .slice ka kn kc, .slice la ln lc] 27)).alloc (.cells #[.int .i64 0, .int .i64 0] 59)) := (bel w _).alloc (by simp) _
  have hp := (BoxC.new w 27 #[.int .i64 k, .string s, .slice ka kn kc, .slice la ln lc]).alloc (.cells #[.int .i64 0, .int .i64 0] 59)
  have hq := BoxC.new (w.alloc (.cells #[.int .i64 k, .string s, .slice ka kn kc, .slice la ln lc] 27)) 59 #[.int .i64 0, .int .i64 0]
  rw [World.size_alloc] at hq
  generalize hw0 : (w.alloc (.cells #[.int .i64 k, .string s, .slice ka kn kc, .slice la ln lc] 27)).alloc (.cells #[.int .i64 0, .int .i64 0] 59) = w0 at *
  have HLC := hide (fun W (hW : Below w0.heap.size w0 W) => whole_ok W kLine a ha ((hx.bel hb).bel hW) hl hg1 ((hE.below hb).below hW))
  have HCC := hide (fun W (hW : Below w0.heap.size w0 W) => whole_ok W kChar b hbf ((hx.bel hb).bel hW) hl hg2 ((hE.below hb).below hW))
  unfold vagg kLine at HLC
  unfold vagg kChar at HCC
  unfold vagg
  simp only at HLC HCC ⊢
  have HPV := hide hp
  have HQ := hide hq
  have HB : Hid (Below w0.heap.size w0 w0) := Below.refl _ _
  have HW0 := hide hw0
  have HB1 := hide hb
  clear hw0 hp hq hb hx hl hg1 hg2 hE ha hbf
  have v0 : w0.cell? ⟨w.heap.size, 0, none⟩ = some (.int .i64 k) := (HPV.out.below HB.out).cell 0
  have v1 : w0.cell? ⟨w.heap.size, 1, none⟩ = some (.string s) := (HPV.out.below HB.out).cell 1
  have v2 : w0.cell? ⟨w.heap.size, 2, none⟩ = some (.slice ka kn kc) := (HPV.out.below HB.out).cell 2
  have v3 : w0.cell? ⟨w.heap.size, 3, none⟩ = some (.slice la ln lc) := (HPV.out.below HB.out).cell 3
  go_enter Tryz.func19, Tryz.ntmps19
  go_upto_region 1 with fail
  rw [HW0.out]
  clear HW0
  go_wp2_with fail
  refine (HLC.out w0 HB.out).mono ?_
  rintro e w1 ⟨rfl, hb1⟩
  have HB := hide hb1
  clear hb1 v0 v1 v2 v3 HLC
  have v0 : w1.cell? ⟨w.heap.size, 0, none⟩ = some (.int .i64 k) := (HPV.out.below HB.out).cell 0
  have v1 : w1.cell? ⟨w.heap.size, 1, none⟩ = some (.string s) := (HPV.out.below HB.out).cell 1
  have v2 : w1.cell? ⟨w.heap.size, 2, none⟩ = some (.slice ka kn kc) := (HPV.out.below HB.out).cell 2
  have v3 : w1.cell? ⟨w.heap.size, 3, none⟩ = some (.slice la ln lc) := (HPV.out.below HB.out).cell 3
  go_wp2_with fail
  refine (HCC.out w1 HB.out).mono ?_
  rintro e w2 ⟨rfl, hb9⟩
  have HB2 := hide (HB.out.trans (hb9.mono HB.out.size))
  have hq2 := HQ.out.below HB2.out
  have z0 := hq2.cell 0
  have z1 := hq2.cell 1
  simp only [List.getElem?_toArray, List.getElem?_cons_zero, List.getElem?_cons_succ] at z0 z1
  have y0 := hq2.frozen 0
  have y1 := hq2.frozen 1
  have lX := hq2.lt
  have HQ2 := hide hq2
  clear hb9 v0 v1 v2 v3 HCC hq2
  go_wp2
  refine bodyPost_ret (results_pt2 rfl rfl rfl ((HQ2.out.set 0 (.int .i64 a)).set 1 (.int .i64 b))) rfl ?_
  exact ⟨rfl, ((HB1.out.trans (HB2.out.mono HB1.out.size)).setCell (p := ⟨w.heap.size + 1, 0, none⟩) (Nat.le_succ _) _).setCell (p := ⟨w.heap.size + 1, 1, none⟩) (Nat.le_succ _) _⟩

theorem get_line (a b : Int) : getJ (posT a b) kLine = some (numT a) := by
  unfold getJ posT
  simp [fndK]
theorem get_char (a b : Int) : getJ (posT a b) kChar = some (numT b) := by
  unfold getJ posT
  simp [fndK, show kLine ≠ kChar by decide]
theorem get_start (a b c d : Int) : getJ (rangeT a b c d) kStart = some (posT a b) := by
  unfold getJ rangeT
  simp [fndK]
theorem get_end (a b c d : Int) : getJ (rangeT a b c d) kEnd = some (posT c d) := by
  unfold getJ rangeT
  simp [fndK, show kStart ≠ kEnd by decide]

set_option maxHeartbeats 8000000 in
theorem range_ok (w : World) {S : Nat → Prop} {x : JC} (a b c d : Int) (ha : Few a) (hbf : Few b) (hc : Few c) (hd : Few d) (hx : TIn w S x (rangeT a b c d)) (hE : ErrS w) :
    Calls Tryz.prog 21 #[vagg x] w fun e w' => e = .returned (.tuple #[.agg #[.int .i64 a, .int .i64 b], .agg #[.int .i64 c, .int .i64 d], .bool true]) ∧ Below w.heap.size w w' := by
  obtain ⟨hs2, hs3⟩ := hx.sl
  obtain ⟨k, s, kv, lv⟩ := x
  obtain ⟨ka, kn, kc, rfl⟩ := hs2
  obtain ⟨la, ln, lc, rfl⟩ := hs3
  have hb : Below w.heap.size w (((w.alloc (.cells #[.int .i64 k, .string s, .slice ka kn kc, .slice la ln lc] 27)).alloc (.cells #[.int .i64 0, .int .i64 0] 59)).alloc (.cells #[.int .i64 0, .int .i64 0] 59)) := ((bel w _).alloc (by simp) _).alloc (by simp only [World.size_alloc]; omega) _
  have hp := ((BoxC.new w 27 #[.int .i64 k, .string s, .slice ka kn kc, .slice la ln lc]).alloc (.cells #[.int .i64 0, .int .i64 0] 59)).alloc (.cells #[.int .i64 0, .int .i64 0] 59)
  have hqa := (BoxC.new (w.alloc (.cells #[.int .i64 k, .string s, .slice ka kn kc, .slice la ln lc] 27)) 59 #[.int .i64 0, .int .i64 0]).alloc (.cells #[.int .i64 0, .int .i64 0] 59)
  have hqb := BoxC.new ((w.alloc (.cells #[.int .i64 k, .string s, .slice ka kn kc, .slice la ln lc] 27)).alloc (.cells #[.int .i64 0, .int .i64 0] 59)) 59 #[.int .i64 0, .int .i64 0]
  rw [World.size_alloc] at hqa
  rw [World.size_alloc, World.size_alloc] at hqb
  generalize hw0 : ((w.alloc (.cells #[.int .i64 k, .string s, .slice ka kn kc, .slice la ln lc] 27)).alloc (.cells #[.int .i64 0, .int .i64 0] 59)).alloc (.cells #[.int .i64 0, .int .i64 0] 59) = w0 at *
  have HG1 := hide (fun W (h : TIn W S (k, s, .slice ka kn kc, .slice la ln lc) (rangeT a b c d)) => by
    have h := get_any kStart W h (range_lt ha hbf hc hd)
    rw [get_start] at h
    exact h)
  have HG2 := hide (fun W (h : TIn W S (k, s, .slice ka kn kc, .slice la ln lc) (rangeT a b c d)) => by
    have h := get_any kEnd W h (range_lt ha hbf hc hd)
    rw [get_end] at h
    exact h)
  have HP1 := hide (fun W S' y (h : TIn W S' y (posT a b)) (hw : Below w.heap.size w W) => position_ok W a b ha hbf h (pos_lt ha hbf) (get_line a b) (get_char a b) (hE.below hw))
  have HP2 := hide (fun W S' y (h : TIn W S' y (posT c d)) (hw : Below w.heap.size w W) => position_ok W c d hc hd h (pos_lt hc hd) (get_line c d) (get_char c d) (hE.below hw))
  unfold vagg kStart at HG1
  unfold vagg kEnd at HG2
  unfold vagg at HP1 HP2 ⊢
  simp only at HG1 HG2 HP1 HP2 ⊢
  have HPV := hide hp
  have HQA := hide hqa
  have HQB := hide hqb
  have HXT := hide (hx.bel hb)
  have HW0 := hide hw0
  have HB := hide hb
  clear hw0 hp hqa hqb hb hx hE ha hbf hc hd
  have v0 : w0.cell? ⟨w.heap.size, 0, none⟩ = some (.int .i64 k) := HPV.out.cell 0
  have v1 : w0.cell? ⟨w.heap.size, 1, none⟩ = some (.string s) := HPV.out.cell 1
  have v2 : w0.cell? ⟨w.heap.size, 2, none⟩ = some (.slice ka kn kc) := HPV.out.cell 2
  have v3 : w0.cell? ⟨w.heap.size, 3, none⟩ = some (.slice la ln lc) := HPV.out.cell 3
  go_enter Tryz.func21, Tryz.ntmps21
  go_upto_region 1 with fail
  rw [HW0.out]
  clear HW0
  go_wp2_with fail
  refine (HG1.out w0 HXT.out).mono ?_
  rintro e w1 ⟨⟨pk, ps, pK, pL⟩, rfl, hb9, hT⟩
  rw [Option.map_some, Option.getD_some, clJ_pos] at hT
  obtain ⟨h4, h5⟩ := hT.sl
  simp only at h4 h5
  obtain ⟨pa, pn, pc, rfl⟩ := h4
  obtain ⟨pd, pe, pf, rfl⟩ := h5
  simp only [vagg, Option.isSome_some]
  have HTp := hide hT
  have HSZp : Hid (w.heap.size + 1 + 1 < w0.heap.size) := HQB.out.lt
  have HLp : Hid (w.heap.size + 1 + 1 < w1.heap.size) := Nat.lt_of_lt_of_le HSZp.out hb9.size
  clear v0 v1 v2 v3 hT
  have HB9 := hide (HB.out.trans (hb9.mono HB.out.size))
  clear HB
  have HB := HB9
  clear HB9
  have HPV9 := hide (HPV.out.below hb9)
  clear HPV
  have HPV := HPV9
  clear HPV9
  have HQA9 := hide (HQA.out.below hb9)
  clear HQA
  have HQA := HQA9
  clear HQA9
  have HQB9 := hide (HQB.out.below hb9)
  clear HQB
  have HQB := HQB9
  clear HQB9
  have HXT9 := hide (HXT.out.bel hb9)
  clear HXT
  have HXT := HXT9
  clear HXT9
  clear hb9
  have hb9 := bel w1 (.cells #[.int .i64 pk, .string ps, .slice pa pn pc, .slice pd pe pf] 27)
  have HBp := hide (BoxC.new w1 27 #[.int .i64 pk, .string ps, .slice pa pn pc, .slice pd pe pf])
  have HB9 := hide (HB.out.trans (hb9.mono HB.out.size))
  clear HB
  have HB := HB9
  clear HB9
  have HPV9 := hide (HPV.out.below hb9)
  clear HPV
  have HPV := HPV9
  clear HPV9
  have HQA9 := hide (HQA.out.below hb9)
  clear HQA
  have HQA := HQA9
  clear HQA9
  have HQB9 := hide (HQB.out.below hb9)
  clear HQB
  have HQB := HQB9
  clear HQB9
  have HXT9 := hide (HXT.out.bel hb9)
  clear HXT
  have HXT := HXT9
  clear HXT9
  have HTp9 := hide (HTp.out.bel hb9)
  clear HTp
  have HTp := HTp9
  clear HTp9
  clear hb9
  go_upto_region 2 with fail
  generalize w1.heap.size = Bp at *
  generalize w1.alloc (.cells #[.int .i64 pk, .string ps, .slice pa pn pc, .slice pd pe pf] 27) = w2 at *
  have v0 : w2.cell? ⟨w.heap.size, 0, none⟩ = some (.int .i64 k) := HPV.out.cell 0
  have v1 : w2.cell? ⟨w.heap.size, 1, none⟩ = some (.string s) := HPV.out.cell 1
  have v2 : w2.cell? ⟨w.heap.size, 2, none⟩ = some (.slice ka kn kc) := HPV.out.cell 2
  have v3 : w2.cell? ⟨w.heap.size, 3, none⟩ = some (.slice la ln lc) := HPV.out.cell 3
  go_wp2_with fail
  refine (HG2.out w2 HXT.out).mono ?_
  rintro e w3 ⟨⟨qk, qs, qK, qL⟩, rfl, hb9, hT⟩
  rw [Option.map_some, Option.getD_some, clJ_pos] at hT
  obtain ⟨h4, h5⟩ := hT.sl
  simp only at h4 h5
  obtain ⟨qa, qn, qc, rfl⟩ := h4
  obtain ⟨qd, qe, qf, rfl⟩ := h5
  simp only [vagg, Option.isSome_some]
  have HTq := hide hT
  have HSZq : Hid (w.heap.size + 1 + 1 < w2.heap.size) := HQB.out.lt
  have HLq : Hid (w.heap.size + 1 + 1 < w3.heap.size) := Nat.lt_of_lt_of_le HSZq.out hb9.size
  clear v0 v1 v2 v3 hT
  have HB9 := hide (HB.out.trans (hb9.mono HB.out.size))
  clear HB
  have HB := HB9
  clear HB9
  have HPV9 := hide (HPV.out.below hb9)
  clear HPV
  have HPV := HPV9
  clear HPV9
  have HQA9 := hide (HQA.out.below hb9)
  clear HQA
  have HQA := HQA9
  clear HQA9
  have HQB9 := hide (HQB.out.below hb9)
  clear HQB
  have HQB := HQB9
  clear HQB9
  have HXT9 := hide (HXT.out.bel hb9)
  clear HXT
  have HXT := HXT9
  clear HXT9
  have HTp9 := hide (HTp.out.bel hb9)
  clear HTp
  have HTp := HTp9
  clear HTp9
  have HBp9 := hide (HBp.out.below hb9)
  clear HBp
  have HBp := HBp9
  clear HBp9
  clear hb9
  have hb9 := bel w3 (.cells #[.int .i64 qk, .string qs, .slice qa qn qc, .slice qd qe qf] 27)
  have HBq := hide (BoxC.new w3 27 #[.int .i64 qk, .string qs, .slice qa qn qc, .slice qd qe qf])
  have HB9 := hide (HB.out.trans (hb9.mono HB.out.size))
  clear HB
  have HB := HB9
  clear HB9
  have HPV9 := hide (HPV.out.below hb9)
  clear HPV
  have HPV := HPV9
  clear HPV9
  have HQA9 := hide (HQA.out.below hb9)
  clear HQA
  have HQA := HQA9
  clear HQA9
  have HQB9 := hide (HQB.out.below hb9)
  clear HQB
  have HQB := HQB9
  clear HQB9
  have HXT9 := hide (HXT.out.bel hb9)
  clear HXT
  have HXT := HXT9
  clear HXT9
  have HTp9 := hide (HTp.out.bel hb9)
  clear HTp
  have HTp := HTp9
  clear HTp9
  have HBp9 := hide (HBp.out.below hb9)
  clear HBp
  have HBp := HBp9
  clear HBp9
  have HTq9 := hide (HTq.out.bel hb9)
  clear HTq
  have HTq := HTq9
  clear HTq9
  clear hb9
  go_upto_region 3 with fail
  generalize w3.heap.size = Bq at *
  generalize w3.alloc (.cells #[.int .i64 qk, .string qs, .slice qa qn qc, .slice qd qe qf] 27) = w4 at *
  have v0 := HBp.out.cell 0
  have v1 := HBp.out.cell 1
  have v2 := HBp.out.cell 2
  have v3 := HBp.out.cell 3
  simp only [List.getElem?_toArray, List.getElem?_cons_zero, List.getElem?_cons_succ] at v0 v1 v2 v3
  go_wp2_with fail
  refine (HP1.out w4 _ _ HTp.out HB.out).mono ?_
  rintro e w5 ⟨rfl, hb9⟩
  clear v0 v1 v2 v3
  have HB9 := hide (HB.out.trans (hb9.mono HB.out.size))
  clear HB
  have HB := HB9
  clear HB9
  have HQA9 := hide (HQA.out.below hb9)
  clear HQA
  have HQA := HQA9
  clear HQA9
  have HQB9 := hide (HQB.out.below hb9)
  clear HQB
  have HQB := HQB9
  clear HQB9
  have HTq9 := hide (HTq.out.bel hb9)
  clear HTq
  have HTq := HTq9
  clear HTq9
  have HBq9 := hide (HBq.out.below hb9)
  clear HBq
  have HBq := HBq9
  clear HBq9
  clear hb9
  have z0 := HQA.out.cell 0
  have z1 := HQA.out.cell 1
  simp only [List.getElem?_toArray, List.getElem?_cons_zero, List.getElem?_cons_succ] at z0 z1
  have y0 := HQA.out.frozen 0
  have y1 := HQA.out.frozen 1
  have lX := HQA.out.lt
  have HQA2 : Hid (BoxC ((w5.setCell ⟨w.heap.size + 1, 0, none⟩ (.int .i64 a)).setCell ⟨w.heap.size + 1, 1, none⟩ (.int .i64 b)) (w.heap.size + 1) 59 #[.int .i64 a, .int .i64 b]) := (HQA.out.set 0 _).set 1 _
  have HQB2 := hide ((HQB.out.other (show w.heap.size + 1 + 1 ≠ w.heap.size + 1 by omega) 0 (.int .i64 a)).other (show w.heap.size + 1 + 1 ≠ w.heap.size + 1 by omega) 1 (.int .i64 b))
  have HBC : Hid (Below w.heap.size w ((w5.setCell ⟨w.heap.size + 1, 0, none⟩ (.int .i64 a)).setCell ⟨w.heap.size + 1, 1, none⟩ (.int .i64 b))) := (HB.out.setCell (p := ⟨w.heap.size + 1, 0, none⟩) (Nat.le_succ _) _).setCell (p := ⟨w.heap.size + 1, 1, none⟩) (Nat.le_succ _) _
  have HTq2 := hide (HTq.out.keep (W' := (w5.setCell ⟨w.heap.size + 1, 0, none⟩ (.int .i64 a)).setCell ⟨w.heap.size + 1, 1, none⟩ (.int .i64 b)) (S' := fun _ => True) (fun b' hs _ => by
    have hs' : w2.heap.size ≤ b' := hs
    have hl := HSZq.out
    have hne : b' ≠ w.heap.size + 1 := by omega
    exact ⟨trivial, by rw [Below.heap_setCell _ ⟨w.heap.size + 1, 1, none⟩ _ b' hne, Below.heap_setCell _ ⟨w.heap.size + 1, 0, none⟩ _ b' hne]⟩))
  have hlq : w.heap.size + 1 < Bq := by
    have h1 := HLq.out
    omega
  have HBq2 := hide ((HBq.out.other (show Bq ≠ w.heap.size + 1 by omega) 0 (.int .i64 a)).other (show Bq ≠ w.heap.size + 1 by omega) 1 (.int .i64 b))
  clear HQA HQB HB HTq HBq hlq HBp HTp
  have HQA := HQA2
  have HQB := HQB2
  have HB := HBC
  have HTq := HTq2
  have HBq := HBq2
  clear HQA2 HQB2 HBC HTq2 HBq2
  go_upto_region 4 with fail
  generalize (w5.setCell ⟨w.heap.size + 1, 0, none⟩ (.int .i64 a)).setCell ⟨w.heap.size + 1, 1, none⟩ (.int .i64 b) = w6 at *
  clear z0 z1 y0 y1 lX
  have v0 := HBq.out.cell 0
  have v1 := HBq.out.cell 1
  have v2 := HBq.out.cell 2
  have v3 := HBq.out.cell 3
  simp only [List.getElem?_toArray, List.getElem?_cons_zero, List.getElem?_cons_succ] at v0 v1 v2 v3
  go_wp2_with fail
  refine (HP2.out w6 _ _ HTq.out HB.out).mono ?_
  rintro e w7 ⟨rfl, hb9⟩
  clear v0 v1 v2 v3
  have HB9 := hide (HB.out.trans (hb9.mono HB.out.size))
  clear HB
  have HB := HB9
  clear HB9
  have HQA9 := hide (HQA.out.below hb9)
  clear HQA
  have HQA := HQA9
  clear HQA9
  have HQB9 := hide (HQB.out.below hb9)
  clear HQB
  have HQB := HQB9
  clear HQB9
  clear hb9 HTq HBq
  have z0 := HQB.out.cell 0
  have z1 := HQB.out.cell 1
  simp only [List.getElem?_toArray, List.getElem?_cons_zero, List.getElem?_cons_succ] at z0 z1
  have y0 := HQB.out.frozen 0
  have y1 := HQB.out.frozen 1
  have lX := HQB.out.lt
  have HQB2 : Hid (BoxC ((w7.setCell ⟨w.heap.size + 1 + 1, 0, none⟩ (.int .i64 c)).setCell ⟨w.heap.size + 1 + 1, 1, none⟩ (.int .i64 d)) (w.heap.size + 1 + 1) 59 #[.int .i64 c, .int .i64 d]) := (HQB.out.set 0 _).set 1 _
  have HQA2 := hide ((HQA.out.other (show w.heap.size + 1 ≠ w.heap.size + 1 + 1 by omega) 0 (.int .i64 c)).other (show w.heap.size + 1 ≠ w.heap.size + 1 + 1 by omega) 1 (.int .i64 d))
  have HBC : Hid (Below w.heap.size w ((w7.setCell ⟨w.heap.size + 1 + 1, 0, none⟩ (.int .i64 c)).setCell ⟨w.heap.size + 1 + 1, 1, none⟩ (.int .i64 d))) := (HB.out.setCell (p := ⟨w.heap.size + 1 + 1, 0, none⟩) (by show w.heap.size ≤ w.heap.size + 1 + 1; omega) _).setCell (p := ⟨w.heap.size + 1 + 1, 1, none⟩) (by show w.heap.size ≤ w.heap.size + 1 + 1; omega) _
  clear HQA HQB HB
  have HQA := HQA2
  have HQB := HQB2
  have HB := HBC
  clear HQA2 HQB2 HBC
  go_upto_region 7 with fail
  generalize (w7.setCell ⟨w.heap.size + 1 + 1, 0, none⟩ (.int .i64 c)).setCell ⟨w.heap.size + 1 + 1, 1, none⟩ (.int .i64 d) = w8 at *
  clear z0 z1 y0 y1 lX
  refine wp_region_held_drew (S := fun X0 : World => X0.cell? ⟨w.heap.size + 1, 0, none⟩ = some (.int .i64 a) ∧ X0.cell? ⟨w.heap.size + 1, 1, none⟩ = some (.int .i64 b) ∧ X0.cell? ⟨w.heap.size + 1 + 1, 0, none⟩ = some (.int .i64 c) ∧ X0.cell? ⟨w.heap.size + 1 + 1, 1, none⟩ = some (.int .i64 d)) (by kernel_rfl) ⟨HQA.out.cell 0, HQA.out.cell 1, HQB.out.cell 0, HQB.out.cell 1⟩ (fun hHeld => ?_)
  have HQA2 : Hid (BoxC w8.drew (w.heap.size + 1) 59 #[.int .i64 a, .int .i64 b]) := HQA.out
  have HQB2 : Hid (BoxC w8.drew (w.heap.size + 1 + 1) 59 #[.int .i64 c, .int .i64 d]) := HQB.out
  have HB2 : Hid (Below w.heap.size w w8.drew) := HB.out.drew
  clear HQA HQB HB
  generalize w8.drew = w9 at *
  have HS : Hid (w9.cell? ⟨w.heap.size + 1, 0, none⟩ = some (.int .i64 a) ∧ w9.cell? ⟨w.heap.size + 1, 1, none⟩ = some (.int .i64 b) ∧ w9.cell? ⟨w.heap.size + 1 + 1, 0, none⟩ = some (.int .i64 c) ∧ w9.cell? ⟨w.heap.size + 1 + 1, 1, none⟩ = some (.int .i64 d)) := ⟨HQA2.out.cell 0, HQA2.out.cell 1, HQB2.out.cell 0, HQB2.out.cell 1⟩
  refine takeD (i := 0) (v := ?v1) (some 39) rfl (by kernel_rfl) (by kernel_rfl) (by kernel_rfl) (fun _ _ _ h => h) (Or.inl ⟨by rfl, ?hy1⟩) (HS.out) (by rfl) ?rest1
  case hy1 => first | (intro w hSw; (try dsimp only at hSw); obtain ⟨s0, s1, s2, s3⟩ := hSw; go_simp; done) | (intro w hSw; (try dsimp only at hSw); obtain ⟨s0, s1, s2, s3⟩ := hSw; go_simp; with_reducible rfl)
  try simp only [Act.put, List.setIfInBounds_toArray, List.set_cons_zero, List.set_cons_succ, vagg]
  refine takeD (i := 1) (v := ?v2) (some 40) rfl (by kernel_rfl) (by kernel_rfl) (by kernel_rfl) (fun _ _ _ h => h) (Or.inl ⟨by rfl, ?hy2⟩) (HS.out) (by rfl) ?rest2
  case hy2 => first | (intro w hSw; (try dsimp only at hSw); obtain ⟨s0, s1, s2, s3⟩ := hSw; go_simp; done) | (intro w hSw; (try dsimp only at hSw); obtain ⟨s0, s1, s2, s3⟩ := hSw; go_simp; with_reducible rfl)
  try simp only [Act.put, List.setIfInBounds_toArray, List.set_cons_zero, List.set_cons_succ, vagg]
  have HQA3 : Hid (BoxC ((w9.setCell ⟨w.heap.size + 1, 0, none⟩ (.int .i64 a)).setCell ⟨w.heap.size + 1, 1, none⟩ (.int .i64 b)) (w.heap.size + 1) 59 #[.int .i64 a, .int .i64 b]) := (HQA2.out.set 0 _).set 1 _
  have HQB3 := hide ((HQB2.out.other (show w.heap.size + 1 + 1 ≠ w.heap.size + 1 by omega) 0 (.int .i64 a)).other (show w.heap.size + 1 + 1 ≠ w.heap.size + 1 by omega) 1 (.int .i64 b))
  have HBC : Hid (Below w.heap.size w ((w9.setCell ⟨w.heap.size + 1, 0, none⟩ (.int .i64 a)).setCell ⟨w.heap.size + 1, 1, none⟩ (.int .i64 b))) := (HB2.out.setCell (p := ⟨w.heap.size + 1, 0, none⟩) (Nat.le_succ _) _).setCell (p := ⟨w.heap.size + 1, 1, none⟩) (Nat.le_succ _) _
  have z0 := HQA2.out.cell 0
  have z1 := HQA2.out.cell 1
  simp only [List.getElem?_toArray, List.getElem?_cons_zero, List.getElem?_cons_succ] at z0 z1
  have y0 := HQA2.out.frozen 0
  have y1 := HQA2.out.frozen 1
  have lX := HQA2.out.lt
  refine wpAnyH_ready (rs := [2]) (by kernel_rfl) (by simp) ?_
  refine AllReadyH.cons rfl (fun K9 hK => ?_) AllReadyH.nil
  go_simp
  refine hK.out _ _ ⟨HQA3.out.cell 0, HQA3.out.cell 1, HQB3.out.cell 0, HQB3.out.cell 1⟩ (fun _ => ?_)
  clear hK K9 HQA2 HQB2 HB2 HS z0 z1 y0 y1 lX
  try simp only [Act.put, List.setIfInBounds_toArray, List.set_cons_zero, List.set_cons_succ, vagg]
  generalize (w9.setCell ⟨w.heap.size + 1, 0, none⟩ (.int .i64 a)).setCell ⟨w.heap.size + 1, 1, none⟩ (.int .i64 b) = wa at *
  have HQB4 : Hid (BoxC ((wa.setCell ⟨w.heap.size + 1 + 1, 0, none⟩ (.int .i64 c)).setCell ⟨w.heap.size + 1 + 1, 1, none⟩ (.int .i64 d)) (w.heap.size + 1 + 1) 59 #[.int .i64 c, .int .i64 d]) := (HQB3.out.set 0 _).set 1 _
  have HQA4 := hide ((HQA3.out.other (show w.heap.size + 1 ≠ w.heap.size + 1 + 1 by omega) 0 (.int .i64 c)).other (show w.heap.size + 1 ≠ w.heap.size + 1 + 1 by omega) 1 (.int .i64 d))
  have HBD : Hid (Below w.heap.size w ((wa.setCell ⟨w.heap.size + 1 + 1, 0, none⟩ (.int .i64 c)).setCell ⟨w.heap.size + 1 + 1, 1, none⟩ (.int .i64 d))) := (HBC.out.setCell (p := ⟨w.heap.size + 1 + 1, 0, none⟩) (by show w.heap.size ≤ w.heap.size + 1 + 1; omega) _).setCell (p := ⟨w.heap.size + 1 + 1, 1, none⟩) (by show w.heap.size ≤ w.heap.size + 1 + 1; omega) _
  have z0 := HQB3.out.cell 0
  have z1 := HQB3.out.cell 1
  simp only [List.getElem?_toArray, List.getElem?_cons_zero, List.getElem?_cons_succ] at z0 z1
  have y0 := HQB3.out.frozen 0
  have y1 := HQB3.out.frozen 1
  have lX := HQB3.out.lt
  refine wpAnyH_ready (rs := [3]) (by kernel_rfl) (by simp) ?_
  refine AllReadyH.cons rfl (fun K9 hK => ?_) AllReadyH.nil
  go_simp
  refine hK.out _ _ ⟨HQA4.out.cell 0, HQA4.out.cell 1, HQB4.out.cell 0, HQB4.out.cell 1⟩ (fun _ => ?_)
  clear hK K9 z0 z1 y0 y1 lX
  try simp only [Act.put, List.setIfInBounds_toArray, List.set_cons_zero, List.set_cons_succ, vagg]
  have HS : Hid (((wa.setCell ⟨w.heap.size + 1 + 1, 0, none⟩ (.int .i64 c)).setCell ⟨w.heap.size + 1 + 1, 1, none⟩ (.int .i64 d)).cell? ⟨w.heap.size + 1, 0, none⟩ = some (.int .i64 a) ∧ ((wa.setCell ⟨w.heap.size + 1 + 1, 0, none⟩ (.int .i64 c)).setCell ⟨w.heap.size + 1 + 1, 1, none⟩ (.int .i64 d)).cell? ⟨w.heap.size + 1, 1, none⟩ = some (.int .i64 b) ∧ ((wa.setCell ⟨w.heap.size + 1 + 1, 0, none⟩ (.int .i64 c)).setCell ⟨w.heap.size + 1 + 1, 1, none⟩ (.int .i64 d)).cell? ⟨w.heap.size + 1 + 1, 0, none⟩ = some (.int .i64 c) ∧ ((wa.setCell ⟨w.heap.size + 1 + 1, 0, none⟩ (.int .i64 c)).setCell ⟨w.heap.size + 1 + 1, 1, none⟩ (.int .i64 d)).cell? ⟨w.heap.size + 1 + 1, 1, none⟩ = some (.int .i64 d)) := ⟨HQA4.out.cell 0, HQA4.out.cell 1, HQB4.out.cell 0, HQB4.out.cell 1⟩
  refine takeD (i := 4) (v := ?v3) (some 4) rfl (by kernel_rfl) (by kernel_rfl) (by kernel_rfl) (fun _ _ _ h => h) (Or.inl ⟨by rfl, ?hy3⟩) (HS.out) (by rfl) ?rest3
  case hy3 => first | (intro w hSw; (try dsimp only at hSw); obtain ⟨s0, s1, s2, s3⟩ := hSw; go_simp; done) | (intro w hSw; (try dsimp only at hSw); obtain ⟨s0, s1, s2, s3⟩ := hSw; go_simp; with_reducible rfl)
  try simp only [Act.put, List.setIfInBounds_toArray, List.set_cons_zero, List.set_cons_succ, vagg]
  refine wpAnyH_done (by kernel_rfl) ?_ _
  go_wp2
  refine bodyPost_ret (results_pt3 rfl rfl rfl rfl HQA4.out HQB4.out) rfl ?_
  exact ⟨rfl, HBD.out⟩


end Go.Proofs.YtbdpmpepmjpadaaGreatDoor
