/- Sums (layer 11), text 1: LnPure, LnRow, LnMem, LnOne, LnDel, LnShelf, LnSort, BigRef, BigSigned, BigLaw0, BigRef2, BigLaw2, LnTidy, LnTidy2, LnTerm, LnRange, LnNorm, LnVars. -/
import Derived.Test.YtkdhcpfmlelfcaaDoorBigMem
import Derived.Laws.AppendOwn
import Derived.ArgAppend
import Derived.Maps.AppendAt
import Derived.Lib.AppendZeros
import Derived.Lib.OwnKind
import Derived.BigQuiet
import Derived.Test.YtkdhcpfmlelfcaaDoorBigOps
import Derived.Lib.SliceRun
import Derived.Laws.CopyRow
import Derived.StillTailTactics
import Derived.Shelf.SlSortCmp.SmallK
import Derived.Shelf.SlicesG.Cmp
import Derived.Shelf.SlicesE.Clone
import Derived.Shelf.SlicesQ.IndexFunc
import Derived.Shelf.SlGeneric
import Derived.Shelf.Strings.Builder1
import Derived.Shelf.Small.Bits
import Derived.Shelf.Small.Wraps
import Derived.Shelf.Strings.BuilderF
import Derived.Shelf.Strings.BuilderK
import Derived.Shelf.Strconv.Itoa0
import Derived.Shelf.Strconv.Itoa1
import Derived.Shelf.LaysM
import Derived.Shelf.Strconv.Itoa2
import Derived.Shelf.Strconv.Itoa3
import Derived.Shelf.Strings.BuilderCap
import Derived.Shelf.Slices.SearchI
import Derived.Test.YtkdhcpfmlelfcaaDoorProg
import Derived.Test.YtkdhcpfmlelfcaaDoorBigText
import Derived.Test.YtkdhcpfmlelfcaaDoorBound10
import Derived.Test.YtkdhcpfmlelfcaaDoorRGcd
import Derived.Test.YtkdhcpfmlelfcaaDoorRMul
import Derived.Test.YtkdhcpfmlelfcaaDoorFrom1
import Derived.Deep.RegionHeld3
import Derived.Laws.MakeOwn
import Derived.Test.YtkdhcpfmlelfcaaDoorBRows
namespace Go.Proofs.YtkdhcpfmlelfcaaDoor
set_option linter.unusedVariables false
set_option linter.unusedSimpArgs false
open Go Go.RowKit Go.Shelf Go.Lib

theorem pl_add {x y : Int} {k : Nat} (h : x.natAbs < R ^ k) (g : y.natAbs < R ^ k) : (x + y).natAbs < R ^ (k + 1) := by
  have h1 := Int.natAbs_add_le x y
  have h2 : R ^ (k + 1) = R ^ k * R := rfl
  have h3 : 2 ≤ R := by rw [R_eq]; decide
  have h4 := Nat.mul_le_mul_left (R ^ k) h3
  omega

/-- Parts: variables with their numbers. -/
abbrev Ps := List (Int × Int)
/-- How many times a variable is there. -/
def cf (v : Int) : Ps → Int
  | [] => 0
  | p :: r => (if p.1 = v then p.2 else 0) + cf v r
/-- The one form: rising, none 0 times. -/
def NF (l : Ps) : Prop := l.Pairwise (fun a b => a.1 < b.1) ∧ ∀ p ∈ l, p.2 ≠ 0

theorem cf_nil (v : Int) : cf v [] = 0 := rfl
theorem cf_cons (v : Int) (p : Int × Int) (r : Ps) : cf v (p :: r) = (if p.1 = v then p.2 else 0) + cf v r := rfl
theorem cf_append (v : Int) (a b : Ps) : cf v (a ++ b) = cf v a + cf v b := by
  induction a with
  | nil => simp [cf]
  | cons p r ih => simp only [List.cons_append, cf_cons, ih]; omega
theorem cf_none {v : Int} {l : Ps} (h : ∀ p ∈ l, p.1 ≠ v) : cf v l = 0 := by
  induction l with
  | nil => rfl
  | cons p r ih =>
    rw [cf_cons, if_neg (h p (by simp)), ih (fun q hq => h q (by simp [hq]))]
    rfl
theorem cf_perm {a b : Ps} (h : a.Perm b) (v : Int) : cf v a = cf v b := by
  induction h with
  | nil => rfl
  | cons x _ ih => rw [cf_cons, cf_cons, ih]
  | swap x y l => simp only [cf_cons]; omega
  | trans _ _ h1 h2 => rw [h1, h2]
theorem cf_scale (v n : Int) (l : Ps) : cf v (l.map fun p => (p.1, p.2 * n)) = cf v l * n := by
  induction l with
  | nil => simp [cf]
  | cons p r ih =>
    rw [List.map_cons, cf_cons, cf_cons, ih, Int.add_mul]
    by_cases h : p.1 = v
    · simp [h]
    · simp [h]
theorem cf_without (v u : Int) (l : Ps) : cf u (l.filter fun p => decide (p.1 ≠ v)) = if u = v then 0 else cf u l := by
  induction l with
  | nil => simp [cf]
  | cons p r ih =>
    by_cases h : p.1 = v
    · rw [List.filter_cons_of_neg (by simp [h]), ih, cf_cons]
      by_cases hu : u = v
      · simp [hu]
      · rw [if_neg hu, if_neg hu, if_neg (by omega)]; omega
    · rw [List.filter_cons_of_pos (by simp [h]), cf_cons, ih, cf_cons]
      by_cases hu : u = v
      · rw [if_pos hu, if_pos hu, if_neg (by omega)]; rfl
      · rw [if_neg hu, if_neg hu]
theorem cf_nonzero (u : Int) (l : Ps) : cf u (l.filter fun p => decide (p.2 ≠ 0)) = cf u l := by
  induction l with
  | nil => rfl
  | cons p r ih =>
    by_cases h : p.2 = 0
    · rw [List.filter_cons_of_neg (by simp [h]), ih, cf_cons, h]; split <;> omega
    · rw [List.filter_cons_of_pos (by simp [h]), cf_cons, cf_cons, ih]

theorem NF.tail {p : Int × Int} {r : Ps} (h : NF (p :: r)) : NF r := ⟨(List.pairwise_cons.1 h.1).2, fun q hq => h.2 q (by simp [hq])⟩
theorem NF.head {p : Int × Int} {r : Ps} (h : NF (p :: r)) : ∀ q ∈ r, p.1 < q.1 := (List.pairwise_cons.1 h.1).1
theorem NF.cf_head {p : Int × Int} {r : Ps} (h : NF (p :: r)) : cf p.1 (p :: r) = p.2 := by
  rw [cf_cons, if_pos rfl, cf_none (fun q hq => by have := h.head q hq; omega)]; omega
theorem NF.nil : NF [] := ⟨List.Pairwise.nil, fun p hp => by cases hp⟩
theorem nf_unique : ∀ {a b : Ps}, NF a → NF b → (∀ v, cf v a = cf v b) → a = b
  | [], [], _, _, _ => rfl
  | [], q :: s, ha, hb, h => by
    have h1 := h q.1
    rw [hb.cf_head] at h1
    exact absurd h1.symm (hb.2 q (by simp))
  | p :: r, [], ha, hb, h => by
    have h1 := h p.1
    rw [ha.cf_head] at h1
    exact absurd h1 (ha.2 p (by simp))
  | p :: r, q :: s, ha, hb, h => by
    have hp := ha.2 p (by simp)
    have hq := hb.2 q (by simp)
    have e1 : p.1 = q.1 := by
      rcases Int.lt_trichotomy p.1 q.1 with hlt | he | hlt
      · have h1 := h p.1
        rw [ha.cf_head, cf_cons, if_neg (by omega), cf_none (fun x hx => by have := hb.head x hx; omega)] at h1
        omega
      · exact he
      · have h1 := h q.1
        rw [hb.cf_head, cf_cons, if_neg (by omega), cf_none (fun x hx => by have := ha.head x hx; omega)] at h1
        omega
    have e2 : p.2 = q.2 := by
      have h1 := h p.1
      rw [ha.cf_head, e1, hb.cf_head] at h1
      exact h1
    have e3 : p = q := Prod.ext e1 e2
    subst e3
    have : r = s := nf_unique ha.tail hb.tail (fun v => by
      have h1 := h v
      rw [cf_cons, cf_cons] at h1
      omega)
    rw [this]

theorem nf_mem {l : Ps} (h : NF l) {p : Int × Int} (hp : p ∈ l) : cf p.1 l = p.2 := by
  induction l with
  | nil => cases hp
  | cons q r ih =>
    rcases List.mem_cons.1 hp with rfl | hp
    · exact h.cf_head
    · rw [cf_cons, if_neg (by have := h.head p hp; omega), ih h.tail hp]; omega
theorem cf_bound {k : Nat} {l : Ps} (h : ∀ p ∈ l, p.2.natAbs < R ^ k) (v : Int) : (cf v l).natAbs < R ^ (k + l.length) := by
  induction l with
  | nil => show (0 : Int).natAbs < R ^ (k + 0); exact Nat.pow_pos R_pos
  | cons p r ih =>
    have h1 := ih (fun q hq => h q (by simp [hq]))
    have h2 : (if p.1 = v then p.2 else 0).natAbs < R ^ (k + r.length) := by
      split
      · exact lt_up (h p (by simp)) (by omega)
      · exact Nat.pow_pos R_pos
    rw [cf_cons, List.length_cons, ← Nat.add_assoc]
    exact pl_add h2 h1
theorem nf_filter {l : Ps} (f : Int × Int → Bool) (h : NF l) : NF (l.filter f) := ⟨h.1.filter _, fun p hp => h.2 p ((List.mem_filter.1 hp).1)⟩
theorem nf_scale {l : Ps} {n : Int} (h : NF l) (hn : n ≠ 0) : NF (l.map fun p => (p.1, p.2 * n)) := by
  refine ⟨List.pairwise_map.2 h.1, fun p hp => ?_⟩
  obtain ⟨q, hq, rfl⟩ := List.mem_map.1 hp
  exact Int.mul_ne_zero (h.2 q hq) hn
theorem nf_length {a b : Ps} (ha : NF a) (h : ∀ v, cf v a = cf v b) : a.length ≤ b.length := by
  induction a generalizing b with
  | nil => simp
  | cons p r ih =>
    have hp := ha.2 p (by simp)
    have h1 := ih (b := b.filter fun q => decide (q.1 ≠ p.1)) ha.tail (fun v => by
      rw [cf_without]
      by_cases hv : v = p.1
      · rw [if_pos hv, hv]
        exact cf_none (fun q hq => by have := ha.head q hq; omega)
      · rw [if_neg hv, ← h v, cf_cons, if_neg (by omega)]; omega)
    have h2 : (b.filter fun q => decide (q.1 ≠ p.1)).length < b.length := by
      apply Nat.lt_of_le_of_ne (List.length_filter_le _ _)
      intro e
      have h3 := List.length_filter_eq_length_iff.1 e
      have h4 : cf p.1 b = 0 := cf_none (fun q hq => by simpa using h3 q hq)
      rw [← h p.1, ha.cf_head] at h4
      exact hp h4
    rw [List.length_cons]
    omega

/-- A sum's value without its number. -/
def ev (f : Int → Int) : Ps → Int
  | [] => 0
  | p :: r => p.2 * f p.1 + ev f r
theorem ev_cons (f : Int → Int) (p : Int × Int) (r : Ps) : ev f (p :: r) = p.2 * f p.1 + ev f r := rfl
theorem ev_append (f : Int → Int) (a b : Ps) : ev f (a ++ b) = ev f a + ev f b := by
  induction a with
  | nil => simp [ev]
  | cons p r ih => simp only [List.cons_append, ev_cons, ih]; omega
theorem ev_scale (f : Int → Int) (n : Int) (l : Ps) : ev f (l.map fun p => (p.1, p.2 * n)) = ev f l * n := by
  induction l with
  | nil => simp [ev]
  | cons p r ih =>
    rw [List.map_cons, ev_cons, ev_cons, ih, Int.add_mul]
    congr 1
    show p.2 * n * f p.1 = p.2 * f p.1 * n
    rw [Int.mul_assoc, Int.mul_comm n, Int.mul_assoc]
theorem ev_split (f : Int → Int) (v : Int) (l : Ps) : ev f l = cf v l * f v + ev f (l.filter fun p => decide (p.1 ≠ v)) := by
  induction l with
  | nil => simp [ev, cf]
  | cons p r ih =>
    by_cases h : p.1 = v
    · rw [List.filter_cons_of_neg (by simp [h]), ev_cons, ih, cf_cons, if_pos h, Int.add_mul, h, Int.add_assoc]
    · rw [List.filter_cons_of_pos (by simp [h]), ev_cons, ev_cons, ih, cf_cons, if_neg h, Int.zero_add]
      omega
theorem ev_zero (f : Int → Int) : ∀ (n : Nat) (l : Ps), l.length ≤ n → (∀ v, cf v l = 0) → ev f l = 0
  | _, [], _, _ => rfl
  | 0, p :: r, hn, _ => by simp at hn
  | n + 1, p :: r, hn, h => by
    rw [ev_split f p.1, h p.1, Int.zero_mul, Int.zero_add]
    refine ev_zero f n _ ?_ (fun v => by rw [cf_without]; (split; rfl; exact h v))
    rw [List.filter_cons_of_neg (by simp)]
    have := List.length_filter_le (fun q : Int × Int => decide (q.1 ≠ p.1)) r
    simp only [List.length_cons] at hn
    omega
theorem ev_same (f : Int → Int) {a b : Ps} (h : ∀ v, cf v a = cf v b) : ev f a = ev f b := by
  have h1 := ev_zero f (a ++ b.map fun p : Int × Int => (p.1, p.2 * (-1))).length (a ++ b.map fun p : Int × Int => (p.1, p.2 * (-1))) (Nat.le_refl _) (fun v => by rw [cf_append, cf_scale, h v]; omega)
  rw [ev_append, ev_scale] at h1
  omega

end Go.Proofs.YtkdhcpfmlelfcaaDoor

namespace Go.Proofs.YtkdhcpfmlelfcaaDoor
set_option linter.unusedVariables false
set_option linter.unusedSimpArgs false
open Go

/-- A row of one's own, with nothing but noughts behind its end. -/
def OwnZ (W : World) (base : Nat) (e : TypeId) (z : Value) (v : Value) (n : Nat) (xs : List Value) : Prop :=
  W.ownsRow base e z.cells.size v n xs ∧ ∀ g i u, v.ownBlock = some g → n * z.cells.size ≤ i → W.cell? ⟨g, i, none⟩ = some u → u ∈ z.cells.toList

/-- What a row's growth keeps. -/
def KeptZ (w w' : World) (z : Value) (row : Option Nat) (len : Nat) : Prop :=
  ∀ (a : Addr) (u : Value), w.cell? a = some u → (u ∉ z.cells.toList ∨ row ≠ some a.block ∨ a.off < len) → w'.cell? a = some u

theorem mem_zeroCells {z : Array Value} {n i : Nat} {u : Value} (h : (Builtin.zeroCells z n)[i]? = some u) : u ∈ z.toList := by
  unfold Builtin.zeroCells at h
  obtain ⟨hi, he⟩ := Array.getElem?_eq_some_iff.1 h
  simp only [Array.size_map, Array.size_range] at hi
  simp only [Array.getElem_map, Array.getElem_range] at he
  have h0 : 0 < z.size := by
    rcases Nat.eq_zero_or_pos z.size with e | e
    · rw [e, Nat.mul_zero] at hi; omega
    · exact e
  have h1 : i % z.size < z.size := Nat.mod_lt _ h0
  rw [getElem!_pos z _ h1] at he
  rw [← he]
  simp

theorem ownZ_nil (W : World) (base : Nat) (e : TypeId) (z : Value) : OwnZ W base e z (.slice none 0 0) 0 [] :=
  ⟨World.ownsRow_nil _ _ _ _, fun g i u h => by simp [Value.ownBlock] at h⟩

theorem cell_alloc_old {w : World} {o : Obj} {a : Addr} {u : Value} (h : w.cell? a = some u) : (w.alloc o).cell? a = some u := by
  have hb : a.block < w.heap.size := by
    unfold World.cell? at h
    rcases Nat.lt_or_ge a.block w.heap.size with hl | hl
    · exact hl
    · rw [Array.getElem?_eq_none hl] at h; simp at h
  rw [World.cell?_of_block (heap_alloc_old w o a.block hb)]
  exact h

theorem run_appZ {P : Program} (w : World) (base : Nat) (t ty e : TypeId) (i : TypeInfo) (z : Value) (bytes : Nat) (ht : P.underlying t = some (.slice e)) (hi : P.info? e = some i) (hz : i.zero = some z)
    (hsize : i.size = z.cells.size) (hby : i.bytes = bytes) (hsz : 0 < z.cells.size)
    (v : Value) (n : Nat) (xs : List Value) (hown : OwnZ w base e z v n xs)
    (a : Addr) (m c : Nat) (news : List Value) (hl : news.length = m * z.cells.size) (hnews : ∀ j u, news[j]? = some u → w.cell? (a.add j) = some u) (h1 : ∀ u ∈ news, u.oneCell' = true)
    (h63 : n + m ≤ maxLen) (hbytes : (n + m) * bytes ≤ 140737488355328) (hbase : base ≤ w.heap.size) :
    ∃ v' w', (Builtin.append_ #[t, t] ty #[v, .slice (some a) m c]).run P w = .ok v' w' ∧ OwnZ w' base e z v' (n + m) (xs ++ news) ∧ w.grownBy w' v.ownBlock ∧
      (v'.ownBlock = v.ownBlock ∨ v'.ownBlock = some w.heap.size) ∧ KeptZ w w' z v.ownBlock (n * z.cells.size) := by
  subst hby
  have hsmall : n + m ≤ 9223372036854775807 := by simp only [maxLen] at h63; omega
  have hlen : (xs ++ news).length = (n + m) * z.cells.size := by rw [List.length_append, hown.1.1, hl, Nat.add_mul]
  have hxl := hown.1.1
  -- what the growing arm leaves
  have grown : ∀ (old : Nat), old < n + m → ∀ (row : Option Nat),
      OwnZ (w.drew.alloc (.cells (xs.toArray ++ news.toArray ++ Builtin.zeroCells z.cells (grownCap w (n + m) old e - (n + m))) e)) base e z
        (.slice (some ⟨w.heap.size, 0, none⟩) (n + m) (grownCap w (n + m) old e)) (n + m) (xs ++ news) ∧
      w.grownBy (w.drew.alloc (.cells (xs.toArray ++ news.toArray ++ Builtin.zeroCells z.cells (grownCap w (n + m) old e - (n + m))) e)) row ∧
      KeptZ w (w.drew.alloc (.cells (xs.toArray ++ news.toArray ++ Builtin.zeroCells z.cells (grownCap w (n + m) old e - (n + m))) e)) z v.ownBlock (n * z.cells.size) := by
    intro old ho row
    have hge := grownCap_ge w (n + m) old e
    have hcm : grownCap w (n + m) old e ≤ maxLen := grownCap_le_maxLen w (n + m) old e h63
    refine ⟨⟨⟨hlen, .inr ⟨w.heap.size, _, _, rfl, hbase, heap_alloc_new w.drew _, hge, hcm, ?_, ?_⟩⟩, ?_⟩, ⟨rfl, rfl, rfl, by simp, fun k hk _ => heap_alloc_old w.drew _ k hk⟩, ?_⟩
    · simp only [Array.size_append, List.size_toArray, size_zeroCells, hxl, hl, ← Nat.add_mul]
      congr 1
      omega
    · simp only [Array.toList_append, List.append_assoc]
      rw [← List.append_assoc, ← hlen]
      exact List.take_left
    · intro g j u hg hj hc
      simp only [Value.ownBlock, Option.some.injEq] at hg
      subst hg
      have hc2 : (xs.toArray ++ news.toArray ++ Builtin.zeroCells z.cells (grownCap w (n + m) old e - (n + m)))[j]? = some u := by
        have h2 := heap_alloc_new w.drew (.cells (xs.toArray ++ news.toArray ++ Builtin.zeroCells z.cells (grownCap w (n + m) old e - (n + m))) e)
        unfold World.cell? at hc
        rw [show (w.drew).heap.size = w.heap.size from rfl] at h2
        simp only [h2] at hc
        simpa using hc
      rw [Array.getElem?_append_right (by simp only [Array.size_append, List.size_toArray]; rw [← List.length_append, hlen]; exact hj)] at hc2
      exact mem_zeroCells hc2
    · intro ad u hc _
      exact cell_alloc_old (w := w.drew) hc
  rcases hown.1.2 with ⟨rfl, rfl⟩ | ⟨g, cap, cur, rfl, hbg, hg, hnc, hcm, hcs, htake⟩
  · have hx : xs = [] := List.eq_nil_of_length_eq_zero (by simpa using hxl)
    subst hx
    by_cases hm : m = 0
    · subst hm
      have hn : news = [] := List.eq_nil_of_length_eq_zero (by simpa using hl)
      subst hn
      refine ⟨.slice none 0 0, w, ?_, ownZ_nil w base e z, ⟨rfl, rfl, rfl, Nat.le_refl _, fun _ _ _ => rfl⟩, Or.inl rfl, fun a u h _ => h⟩
      simp [Builtin.append_, run_underlying ht, sizeOf, typeInfo, hi, Builtin.lenOf, Builtin.firstCells, loadCells, loadCellsFrom]
    · have hr := run_append_nil (P := P) w t ty e i z ht hi hz a m c news (by rw [hsize]; exact hl) hnews (by omega) (by omega) (by have hb := hbytes; simp only [Nat.zero_add] at hb; omega)
      have hgr := grown 0 (by omega) (Value.ownBlock (.slice none 0 0))
      simp only [Nat.zero_add, List.nil_append, Array.empty_append] at hgr ⊢
      exact ⟨_, _, hr, hgr.1, hgr.2.1, Or.inr rfl, by simpa using hgr.2.2⟩
  · by_cases hroom : n + m ≤ cap
    · have hfit : n * i.size + news.length ≤ cur.size := by rw [hl, hcs, hsize, ← Nat.add_mul]; exact Nat.mul_le_mul_right _ hroom
      have hr := run_append_room (P := P) w t ty e i ht hi g n cap cur hg a m c news (by rw [hsize]; exact hl) hnews h1 hroom hfit
      rw [hsize] at hr
      have hcl : (cur.toList.take (n * z.cells.size) ++ news).length = (n + m) * z.cells.size := by rw [htake]; exact hlen
      have hcell : ∀ j, (w.setRow g (cur.toList.take (n * z.cells.size) ++ news ++ cur.toList.drop (n * z.cells.size + news.length)).toArray).cell? ⟨g, j, none⟩ = (cur.toList.take (n * z.cells.size) ++ news ++ cur.toList.drop (n * z.cells.size + news.length))[j]? := by
        intro j
        have h2 := setRow_heap w g cur (cur.toList.take (n * z.cells.size) ++ news ++ cur.toList.drop (n * z.cells.size + news.length)).toArray e (0, 0) hg
        unfold World.cell?
        simp only [h2]
        simp
      have hold : ∀ j, w.cell? ⟨g, j, none⟩ = cur.toList[j]? := by
        intro j
        unfold World.cell?
        simp only [hg]
        simp
      have hdrop : ∀ j, (n + m) * z.cells.size ≤ j → (cur.toList.take (n * z.cells.size) ++ news ++ cur.toList.drop (n * z.cells.size + news.length))[j]? = cur.toList[j]? := by
        intro j hj
        rw [List.getElem?_append_right (by rw [hcl]; exact hj), hcl, List.getElem?_drop]
        congr 1
        rw [hl, ← Nat.add_mul]
        omega
      refine ⟨_, _, hr, ⟨⟨hlen, .inr ⟨g, cap, _, rfl, hbg, setRow_heap w g cur _ e _ hg, hroom, hcm, ?_, ?_⟩⟩, ?_⟩, ⟨rfl, rfl, rfl, by simp, fun k _ hk => setRow_other w g k _ (fun e => hk (by simp [Value.ownBlock, e]))⟩, Or.inl rfl, ?_⟩
      · simp only [List.size_toArray, List.length_append, List.length_take, List.length_drop, Array.length_toList]
        rw [hsize] at hfit
        omega
      · rw [htake, ← hlen]
        exact List.take_left
      · intro g' j u hg' hj hc
        simp only [Value.ownBlock, Option.some.injEq] at hg'
        subst hg'
        rw [hcell, hdrop j hj, ← hold] at hc
        exact hown.2 g j u rfl (Nat.le_trans (Nat.mul_le_mul_right _ (Nat.le_add_right n m)) hj) hc
      · intro ad u hc hcase
        by_cases hb : ad.block = g
        · obtain ⟨ab, ao, asp⟩ := ad
          have hs : asp = none := World.cell?_spot hc
          subst hs
          simp only at hb
          subst hb
          have hlt : ao < n * z.cells.size := by
            rcases Nat.lt_or_ge ao (n * z.cells.size) with h | h
            · exact h
            · rcases hcase with h2 | h2 | h2
              · exact absurd (hown.2 ab ao u rfl h hc) h2
              · exact absurd rfl h2
              · exact absurd h2 (by simp only; omega)
          rw [hcell]
          rw [hold] at hc
          rw [List.append_assoc, List.getElem?_append_left (by simp only [List.length_take, Array.length_toList]; have : ao < cur.size := by (have := (List.getElem?_eq_some_iff.1 hc).1; simpa using this)
                                                               omega), List.getElem?_take, if_pos hlt]
          exact hc
        · rw [World.cell?_of_block (setRow_other w g ad.block _ hb)]
          exact hc
    · have holds : ∀ j u, xs[j]? = some u → w.cell? ((⟨g, 0, none⟩ : Addr).add j) = some u := hown.1.cells (g := g) rfl
      have hr := run_append_grow (P := P) w t ty e i z ht hi hz ⟨g, 0, none⟩ n cap xs (by rw [hsize]; exact hxl) holds a m c news (by rw [hsize]; exact hl) hnews (by omega) (by omega) (growslice_fits (by omega) hbytes)
      have hgr := grown cap (by omega) (Value.ownBlock (.slice (some ⟨g, 0, none⟩) n cap))
      exact ⟨_, _, hr, hgr.1, hgr.2.1, Or.inr rfl, hgr.2.2⟩

end Go.Proofs.YtkdhcpfmlelfcaaDoor

namespace Go.Proofs.YtkdhcpfmlelfcaaDoor
set_option linter.unusedVariables false
set_option linter.unusedSimpArgs false
set_option maxRecDepth 100000
open Go Go.RowKit Go.Shelf Go.Lib

theorem infoPart : (Tryd.prog.info? 31).map (fun i => (i.zero, i.size, i.bytes)) = some (some (.agg #[.int .i64 0, .bool false, .slice none 0 0]), 3, 40) := by kernel_rfl

/-- A part: its variable, its number's sign and limbs, and the number. -/
abbrev Pt := Int × Bool × Value × Int
def ptCells (m : Pt) : List Value := [.int .i64 m.1, .bool m.2.1, m.2.2.1]
def pcells (M : List Pt) : List Value := M.flatMap ptCells
def pt (m : Pt) : Int × Int := (m.1, m.2.2.2)
def ps (M : List Pt) : Ps := M.map pt
def Rng (v : Int) : Prop := -9223372036854775808 ≤ v ∧ v ≤ 9223372036854775807
def GoodA (W : World) (M : List Pt) : Prop := ∀ m ∈ M, Rng m.1 ∧ BArg W (.agg #[.bool m.2.1, m.2.2.1]) m.2.2.2
def GoodR (W : World) (M : List Pt) : Prop := ∀ m ∈ M, Rng m.1 ∧ BRes W (.agg #[.bool m.2.1, m.2.2.1]) m.2.2.2
/-- Numbers are less than so many limbs. -/
def Bnd (k : Nat) (l : Ps) : Prop := ∀ p ∈ l, p.2.natAbs < R ^ k

theorem pcells_nil : pcells [] = [] := rfl
theorem pcells_cons (m : Pt) (M : List Pt) : pcells (m :: M) = ptCells m ++ pcells M := rfl
theorem pcells_append (A B : List Pt) : pcells (A ++ B) = pcells A ++ pcells B := by simp [pcells]
theorem pcells_length (M : List Pt) : (pcells M).length = M.length * 3 := by
  induction M with
  | nil => rfl
  | cons m M ih => rw [pcells_cons, List.length_append, ih, List.length_cons]; simp only [ptCells, List.length_cons, List.length_nil]; omega
theorem pcells_get : ∀ (M : List Pt) (j : Nat) (m : Pt), M[j]? = some m → ∀ i, i < 3 → (pcells M)[j * 3 + i]? = (ptCells m)[i]? := by
  intro M
  induction M with
  | nil => intro j t h; simp at h
  | cons a l ih =>
    intro j t h i hi
    have el : (ptCells a).length = 3 := rfl
    rw [pcells_cons]
    cases j with
    | zero =>
      simp at h
      subst h
      rw [List.getElem?_append_left (by omega)]
      congr 1
      omega
    | succ j =>
      rw [List.getElem?_append_right (by omega), el, show (j + 1) * 3 + i - 3 = j * 3 + i by omega]
      exact ih j t (by simpa using h) i hi

/-- The cells of a part. -/
def CellsP (W : World) (b o : Nat) (m : Pt) : Prop := W.cell? ⟨b, o, none⟩ = some (.int .i64 m.1) ∧ W.cell? ⟨b, o + 1, none⟩ = some (.bool m.2.1) ∧ W.cell? ⟨b, o + 2, none⟩ = some m.2.2.1
/-- A row of parts. -/
def RowP (W : World) (v : Value) (M : List Pt) : Prop :=
  ∃ ao cap, v = .slice ao M.length cap ∧ M.length ≤ cap ∧ cap ≤ maxLen ∧ ∀ j m, M[j]? = some m → ∃ b o, ao = some ⟨b, o, none⟩ ∧ CellsP W b (o + j * 3) m

theorem block_ltP {W : World} {b o : Nat} {m : Pt} (h : CellsP W b o m) : b < W.heap.size := block_lt_of_cell h.1
theorem CellsP.keep {W W' : World} {b o : Nat} {m : Pt} (h : CellsP W b o m) (hk : ∀ (a : Addr) u, W.cell? a = some u → a.block = b → W'.cell? a = some u) : CellsP W' b o m :=
  ⟨hk _ _ h.1 rfl, hk _ _ h.2.1 rfl, hk _ _ h.2.2 rfl⟩
theorem CellsP.below {W W' : World} {b o : Nat} {m : Pt} (h : CellsP W b o m) (hb : Below W.heap.size W W') : CellsP W' b o m :=
  h.keep (fun a u hc e => (hb.cell (p := a) (by rw [e]; exact block_ltP h)).trans hc)
theorem CellsP.below' {n : Nat} {W W' : World} {b o : Nat} {m : Pt} (h : CellsP W b o m) (hb : Below n W W') (hn : b < n := by assumption) : CellsP W' b o m :=
  h.keep (fun a u hc e => (hb.cell (p := a) (by rw [e]; exact hn)).trans hc)
theorem RowP.below {W W' : World} {v : Value} {M : List Pt} (h : RowP W v M) (hb : Below W.heap.size W W') : RowP W' v M := by
  obtain ⟨ao, cap, e, h1, h2, h3⟩ := h
  refine ⟨ao, cap, e, h1, h2, fun j m hj => ?_⟩
  obtain ⟨b, o, e2, hc⟩ := h3 j m hj
  exact ⟨b, o, e2, hc.below hb⟩
theorem GoodA.below {W W' : World} {M : List Pt} (h : GoodA W M) (hb : Below W.heap.size W W') : GoodA W' M := fun m hm => ⟨(h m hm).1, (h m hm).2.below hb⟩
theorem GoodR.below {W W' : World} {M : List Pt} (h : GoodR W M) (hb : Below W.heap.size W W') : GoodR W' M := fun m hm => ⟨(h m hm).1, (h m hm).2.below hb⟩

/-- All limbs in memory are kept. -/
def K32 (W W' : World) : Prop := ∀ (a : Addr) (x : Int), W.cell? a = some (.int .u32 x) → W'.cell? a = some (.int .u32 x)
theorem K32.refl (W : World) : K32 W W := fun _ _ h => h
theorem K32.trans {A B C : World} (h : K32 A B) (k : K32 B C) : K32 A C := fun a x hx => k a x (h a x hx)
theorem K32.of {W W' : World} (hb : Below W.heap.size W W') : K32 W W' := fun a x h => (hb.cell (p := a) (block_lt_of_cell h)).trans h
theorem Limbs.k32 {W W' : World} {v : Value} {zs : List Nat} (h : Limbs W v zs) (hk : K32 W W') : Limbs W' v zs := by
  obtain ⟨ao, cap, e, h1, h2, h3, h4⟩ := h
  refine ⟨ao, cap, e, h1, h2, h3, fun j hj => ?_⟩
  obtain ⟨bb, off, e2, hc⟩ := h4 j hj
  exact ⟨bb, off, e2, hk _ _ hc⟩
theorem BArg.k32 {W W' : World} {v : Value} {z : Int} (h : BArg W v z) (hk : K32 W W') : BArg W' v z := by
  obtain ⟨neg, mv, n, h1, ⟨xs, h2, h3⟩, h4⟩ := h
  exact ⟨neg, mv, n, h1, ⟨xs, h2.k32 hk, h3⟩, h4⟩
theorem BRes.k32 {W W' : World} {v : Value} {z : Int} (h : BRes W v z) (hk : K32 W W') : BRes W' v z := by
  obtain ⟨mv, h1, ⟨xs, h2, h3⟩⟩ := h
  exact ⟨mv, h1, ⟨xs, h2.k32 hk, h3⟩⟩
theorem GoodA.k32 {W W' : World} {M : List Pt} (h : GoodA W M) (hk : K32 W W') : GoodA W' M := fun m hm => ⟨(h m hm).1, (h m hm).2.k32 hk⟩
theorem GoodR.k32 {W W' : World} {M : List Pt} (h : GoodR W M) (hk : K32 W W') : GoodR W' M := fun m hm => ⟨(h m hm).1, (h m hm).2.k32 hk⟩

/-- The nought of a part. -/
def zPart : Value := .agg #[.int .i64 0, .bool false, .slice none 0 0]
theorem zPart_size : zPart.cells.size = 3 := rfl
/-- A row of parts of one's own. -/
def OwnP (n₀ : Nat) (W : World) (v : Value) (M : List Pt) : Prop := OwnZ W n₀ 31 zPart v M.length (pcells M)
theorem OwnP.nil (n₀ : Nat) (W : World) : OwnP n₀ W (.slice none 0 0) [] := ownZ_nil _ _ _ _
theorem OwnP.len {n₀ : Nat} {W : World} {v : Value} {M : List Pt} (h : OwnP n₀ W v M) : ∃ ao cap, v = .slice ao M.length cap ∧ M.length ≤ cap ∧ cap ≤ maxLen := by
  rcases h.1.2 with ⟨hv, hn⟩ | ⟨g, cap, cur, hv, hg, hh, hc1, hc2, hc3⟩
  · exact ⟨none, 0, by rw [hv, hn], by omega, by simp [maxLen]⟩
  · exact ⟨_, _, hv, hc1, hc2⟩
theorem OwnP.row {n₀ : Nat} {W : World} {v : Value} {M : List Pt} (h : OwnP n₀ W v M) : RowP W v M := by
  rcases h.1.2 with ⟨hv, hn⟩ | ⟨g, cap, cur, hv, hg, hh, hc1, hc2, hc3⟩
  · refine ⟨none, 0, by rw [hv, hn], by omega, by simp [maxLen], fun j t hj => ?_⟩
    have : M = [] := List.length_eq_zero_iff.1 hn
    rw [this] at hj
    simp at hj
  · subst hv
    refine ⟨some ⟨g, 0, none⟩, cap, rfl, hc1, hc2, fun j m hj => ⟨g, 0, rfl, ?_⟩⟩
    have hlt : j < M.length := (List.getElem?_eq_some_iff.1 hj).1
    have c := fun i (hi : i < 3) => (h.1.cellAt (j * 3 + i) (by rw [zPart_size]; omega)).trans (pcells_get M j m hj i hi)
    simp only [Nat.zero_add]
    exact ⟨c 0 (by omega), c 1 (by omega), c 2 (by omega)⟩
theorem OwnP.lt {n₀ : Nat} {W : World} {v : Value} {M : List Pt} (h : OwnP n₀ W v M) {j : Nat} (hj : v.ownBlock = some j) : n₀ ≤ j ∧ j < W.heap.size := World.ownsRow.lt h.1 j hj
theorem OwnP.block {n₀ : Nat} {W W' : World} {v : Value} {M : List Pt} (h : OwnP n₀ W v M) (hk : ∀ k, v.ownBlock = some k → W'.heap[k]? = W.heap[k]?) : OwnP n₀ W' v M := by
  refine ⟨⟨h.1.1, ?_⟩, fun g i u hg hi hc => ?_⟩
  · rcases h.1.2 with hn | ⟨g, cap, cur, hv, h1, h2, h3⟩
    · exact .inl hn
    · exact .inr ⟨g, cap, cur, hv, h1, (hk g (by rw [hv]; rfl)).trans h2, h3⟩
  · rw [World.cell?_of_block (a := ⟨g, i, none⟩) (hk g hg)] at hc
    exact h.2 g i u hg hi hc
theorem OwnP.below {n₀ : Nat} {W W' : World} {v : Value} {M : List Pt} (h : OwnP n₀ W v M) (hb : Below W.heap.size W W') : OwnP n₀ W' v M :=
  h.block (fun k hk => hb.block k (h.lt hk).2)

theorem keptZ_k32 {w w' : World} {row : Option Nat} {len : Nat} (h : KeptZ w w' zPart row len) : K32 w w' := fun a x hc => h a _ hc (.inl (by simp [zPart, Value.cells]))

/-- Appending parts to a row of one's own. -/
theorem run_appP (w : World) (n₀ : Nat) (ty : TypeId) (v : Value) (M : List Pt) (hown : OwnP n₀ w v M) (xv : Value) (N : List Pt) (hN : RowP w xv N) (hone : ∀ m ∈ N, m.2.2.1.oneCell' = true) (hl : M.length + N.length ≤ 1048576) (hbase : n₀ ≤ w.heap.size) :
    ∃ v' w', (Builtin.append_ #[25, 25] ty #[v, xv]).run Tryd.prog w = .ok v' w' ∧ OwnP n₀ w' v' (M ++ N) ∧ w.grownBy w' v.ownBlock ∧ (v'.ownBlock = v.ownBlock ∨ v'.ownBlock = some w.heap.size) ∧ K32 w w' := by
  obtain ⟨i0, hi, hz0, hz1, hz2⟩ := info_parts infoPart
  obtain ⟨ao, cap, rfl, h1, h2, h3⟩ := hN
  cases ao with
  | none =>
    have hd0 : N = [] := by
      cases N with
      | nil => rfl
      | cons y r => obtain ⟨b, off, e, _⟩ := h3 0 y rfl; cases e
    subst hd0
    refine ⟨v, w, ?_, by rw [List.append_nil]; exact hown, ⟨rfl, rfl, rfl, Nat.le_refl _, fun _ _ _ => rfl⟩, .inl rfl, K32.refl _⟩
    rcases hown.1.2 with ⟨rfl, h0⟩ | ⟨g, cp, cur, rfl, _, _, hnc, _⟩
    · simp [Builtin.append_, run_underlying Tryd.underlying25, sizeOf, typeInfo, hi, Builtin.lenOf, Builtin.firstCells]
    · simp [Builtin.append_, run_underlying Tryd.underlying25, sizeOf, typeInfo, hi, Builtin.lenOf, Builtin.firstCells, hnc, storeCells]
  | some ad =>
    by_cases hN0 : N = []
    · subst hN0
      obtain ⟨v', w', hr, ho, hg, ha, hk⟩ := run_appZ (P := Tryd.prog) w n₀ 25 ty 31 i0 zPart 40 Tryd.underlying25 hi hz0 hz1 hz2 (by decide) v M.length (pcells M) hown ad 0 cap [] rfl (fun j u h => by simp at h) (fun u h => by cases h) (by unfold maxLen; simp at hl; omega) (by simp at hl; omega) hbase
      exact ⟨v', w', hr, by rw [List.append_nil]; unfold OwnP; simpa using ho, hg, ha, keptZ_k32 hk⟩
    · have had : ad.spot = none := by
        obtain ⟨y, r, rfl⟩ : ∃ y r, N = y :: r := by cases N with | nil => exact absurd rfl hN0 | cons y r => exact ⟨y, r, rfl⟩
        obtain ⟨b, off, e, _⟩ := h3 0 y rfl
        cases e
        rfl
      have hq1 : ∀ (j : Nat) (u : Value), (pcells N)[j]? = some u → w.cell? (ad.add j) = some u := by
        intro j u hj
        have hjl : j < N.length * 3 := by rw [← pcells_length]; exact (List.getElem?_eq_some_iff.1 hj).1
        have hq : j / 3 < N.length := by omega
        obtain ⟨b, off, e, hc⟩ := h3 (j / 3) N[j / 3] (List.getElem?_eq_getElem hq)
        cases e
        have hget := pcells_get N (j / 3) N[j / 3] (List.getElem?_eq_getElem hq) (j % 3) (Nat.mod_lt _ (by decide))
        rw [show j / 3 * 3 + j % 3 = j by omega, hj] at hget
        rw [addr_add]
        have h3' : j % 3 = 0 ∨ j % 3 = 1 ∨ j % 3 = 2 := by omega
        rcases h3' with e | e | e
        · rw [e] at hget
          rw [show off + j = off + j / 3 * 3 by omega, hc.1, hget]; rfl
        · rw [e] at hget
          rw [show off + j = off + j / 3 * 3 + 1 by omega, hc.2.1, hget]; rfl
        · rw [e] at hget
          rw [show off + j = off + j / 3 * 3 + 2 by omega, hc.2.2, hget]; rfl
      have hq2 : ∀ u ∈ pcells N, u.oneCell' = true := by
        intro u hu
        obtain ⟨m, hm, hu2⟩ := List.mem_flatMap.1 hu
        simp only [ptCells, List.mem_cons, List.mem_nil_iff, or_false] at hu2
        rcases hu2 with rfl | rfl | rfl
        · rfl
        · rfl
        · exact hone m hm
      obtain ⟨v', w', hr, ho, hg, ha, hk⟩ := run_appZ (P := Tryd.prog) w n₀ 25 ty 31 i0 zPart 40 Tryd.underlying25 hi hz0 hz1 hz2 (by decide) v M.length (pcells M) hown ad N.length cap (pcells N) (pcells_length N) hq1 hq2 (by unfold maxLen; omega) (by omega) hbase
      exact ⟨v', w', hr, by unfold OwnP; rw [List.length_append, pcells_append]; exact ho, hg, ha, keptZ_k32 hk⟩

end Go.Proofs.YtkdhcpfmlelfcaaDoor

namespace Go.Proofs.YtkdhcpfmlelfcaaDoor
set_option linter.unusedVariables false
set_option linter.unusedSimpArgs false
set_option maxRecDepth 100000
open Go Go.RowKit Go.Shelf Go.Lib

theorem bdrewN {n : Nat} {w W : World} (h : Below n w W) (k : Nat) : Below n w (W.drewN k) := by
  induction k with
  | zero => exact h
  | succ k ih => exact ih.drew
theorem wrapN {z : Int} (h1 : 0 ≤ z) (h2 : z ≤ 9223372036854775807) : IntKind.i64.wrap z = z := by
  simp [IntKind.wrap, IntKind.signed, IntKind.bits]
  omega

theorem limbs_same {W : World} {v : Value} {xs ys : List Nat} (h : Limbs W v xs) (k : Limbs W v ys) : xs = ys := by
  obtain ⟨ao, cap, rfl, h1, h2, h3, h4⟩ := h
  obtain ⟨bo, dap, e, k1, k2, k3, k4⟩ := k
  simp only [Value.slice.injEq] at e
  obtain ⟨rfl, hl, rfl⟩ := e
  apply List.ext_getElem hl
  intro i hi hj
  obtain ⟨b, o, e1, c1⟩ := h4 i hi
  obtain ⟨b', o', e2, c2⟩ := k4 i hj
  cases e1
  cases e2
  rw [c1] at c2
  simp only [Option.some.injEq, Value.int.injEq, true_and] at c2
  simp only [nth, List.getElem?_eq_getElem hi, List.getElem?_eq_getElem hj, Option.getD_some] at c2
  omega

/-- The first so many parts are in the one form. -/
def One (W : World) (M : List Pt) (k : Nat) : Prop := NF (ps (M.take k)) ∧ GoodR W (M.take k)
theorem one_zero (W : World) (M : List Pt) : One W M 0 := ⟨by simp [ps]; exact NF.nil, fun m hm => by simp at hm⟩
theorem one_down {W : World} {M : List Pt} {j k : Nat} (h : One W M k) (hj : j ≤ k) : One W M j := by
  have e : M.take j = (M.take k).take j := by rw [List.take_take, Nat.min_eq_left hj]
  constructor
  · unfold One at h
    rw [e]
    unfold ps
    rw [List.map_take]
    exact ⟨h.1.1.sublist (List.take_sublist _ _), fun p hp => h.1.2 p (List.mem_of_mem_take hp)⟩
  · intro m hm
    rw [e] at hm
    exact h.2 m (List.mem_of_mem_take hm)
theorem one_step {W : World} {M : List Pt} {k : Nat} {m : Pt} (h : One W M k) (hm : M[k]? = some m) (h1 : Rng m.1 ∧ BRes W (.agg #[.bool m.2.1, m.2.2.1]) m.2.2.2) (h0 : m.2.2.2 ≠ 0) (hu : ∀ k1 m1, k = k1 + 1 → M[k1]? = some m1 → m1.1 < m.1) : One W M (k + 1) := by
  have hlt : k < M.length := (List.getElem?_eq_some_iff.1 hm).1
  have et : M.take (k + 1) = M.take k ++ [m] := by rw [List.take_add_one, hm]; rfl
  refine ⟨⟨?_, ?_⟩, ?_⟩
  · rw [et]
    unfold ps
    rw [List.map_append]
    refine List.pairwise_append.2 ⟨h.1.1, by simp, fun a ha b hb => ?_⟩
    simp only [List.map_cons, List.map_nil, List.mem_singleton] at hb
    subst hb
    show a.1 < m.1
    cases k with
    | zero => simp at ha
    | succ k =>
      have hk : k < M.length := by omega
      have hl := hu k M[k] rfl (List.getElem?_eq_getElem hk)
      have e2 : M.take (k + 1) = M.take k ++ [M[k]] := by rw [List.take_add_one, List.getElem?_eq_getElem hk]; rfl
      rw [e2, List.map_append] at ha
      rcases List.mem_append.1 ha with ha | ha
      · have hp := h.1.1
        rw [e2] at hp
        unfold ps at hp
        rw [List.map_append] at hp
        have := (List.pairwise_append.1 hp).2.2 a ha (pt M[k]) (by simp)
        have e3 : (pt M[k]).1 = M[k].1 := rfl
        omega
      · simp only [List.map_cons, List.map_nil, List.mem_singleton] at ha
        subst ha
        exact hl
  · intro p hp
    rw [et] at hp
    unfold ps at hp
    rw [List.map_append] at hp
    rcases List.mem_append.1 hp with hp | hp
    · exact h.1.2 p hp
    · simp only [List.map_cons, List.map_nil, List.mem_singleton] at hp
      subst hp
      exact h0
  · intro x hx
    rw [et] at hx
    rcases List.mem_append.1 hx with hx | hx
    · exact h.2 x hx
    · simp only [List.mem_singleton] at hx
      subst hx
      exact h1

theorem tl_last : ∀ {xs : List Nat}, xs ≠ [] → nth xs (xs.length - 1) ≠ 0 → tl xs = xs.length
  | [], h, _ => absurd rfl h
  | [x], _, h => by
    have : x ≠ 0 := by simpa [nth] using h
    simp [tl, this]
  | x :: y :: r, _, h => by
    have h1 : tl (y :: r) = (y :: r).length := tl_last (by simp) (by
      have e : nth (x :: y :: r) ((x :: y :: r).length - 1) = nth (y :: r) ((y :: r).length - 1) := by simp [nth]
      rw [e] at h
      exact h)
    have h2 : tl (x :: y :: r) = if tl (y :: r) = 0 then (if x = 0 then 0 else 1) else tl (y :: r) + 1 := rfl
    rw [h2, h1, if_neg (by simp)]
    simp
theorem last_tl : ∀ {xs : List Nat}, xs ≠ [] → tl xs = xs.length → nth xs (xs.length - 1) ≠ 0
  | [], h, _ => absurd rfl h
  | [x], _, h => by
    intro e
    have : x = 0 := by simpa [nth] using e
    simp [tl, this] at h
  | x :: y :: r, _, h => by
    have h2 : tl (x :: y :: r) = if tl (y :: r) = 0 then (if x = 0 then 0 else 1) else tl (y :: r) + 1 := rfl
    have h1 : tl (y :: r) = (y :: r).length := by
      rw [h2] at h
      by_cases h0 : tl (y :: r) = 0
      · rw [if_pos h0] at h
        simp only [List.length_cons] at h
        split at h <;> omega
      · rw [if_neg h0] at h
        simp only [List.length_cons] at h ⊢
        omega
    have e : nth (x :: y :: r) ((x :: y :: r).length - 1) = nth (y :: r) ((y :: r).length - 1) := by simp [nth]
    rw [e]
    exact last_tl (by simp) h1

/-- A part's number, as it lies there, is in its one form if its last limb isn't 0. -/
theorem top_res {W : World} {neg : Bool} {mv : Value} {xs : List Nat} {z : Int} (h : Limbs W mv xs) (hz : z = sgn neg (val R xs)) (h0 : xs ≠ []) (ht : nth xs (xs.length - 1) ≠ 0) : BRes W (.agg #[.bool neg, mv]) z ∧ z ≠ 0 := by
  have hc : Canon R xs := ⟨h.small, tl_last h0 ht⟩
  have hv : val R xs ≠ 0 := fun e => h0 (hc.val_zero R_pos e)
  have := bres_mk (W := W) (mv := mv) (n := val R xs) ⟨xs, h, hc, rfl⟩ neg neg (by simp [hv])
  rw [← hz] at this
  refine ⟨this, ?_⟩
  rw [hz]
  unfold sgn
  split <;> omega

/-- And only so. -/
theorem res_top {W : World} {M : List Pt} {k : Nat} {m : Pt} {xs : List Nat} (h : One W M (k + 1)) (hm : M[k]? = some m) (hx : Limbs W m.2.2.1 xs) : xs ≠ [] ∧ nth xs (xs.length - 1) ≠ 0 := by
  have hmem : m ∈ M.take (k + 1) := by
    rw [List.take_add_one, hm]
    simp
  obtain ⟨_, mv, e, ys, hy, hc, hv⟩ := h.2 m hmem
  have e2 : mv = m.2.2.1 := by
    simp only [Value.agg.injEq, Array.mk.injEq, List.cons.injEq, and_true] at e
    exact e.2.symm
  subst e2
  obtain rfl := limbs_same hx hy
  have hz : m.2.2.2 ≠ 0 := h.1.2 (pt m) (List.mem_map.2 ⟨m, hmem, rfl⟩)
  have h0 : xs ≠ [] := by
    rintro rfl
    have : val R [] = 0 := rfl
    omega
  exact ⟨h0, last_tl h0 hc.2⟩
theorem one_rising {W : World} {M : List Pt} {k : Nat} {m m1 : Pt} (h : One W M (k + 2)) (h1 : M[k]? = some m1) (hm : M[k + 1]? = some m) : m1.1 < m.1 := by
  have hp := h.1.1
  have e : M.take (k + 2) = M.take k ++ [m1, m] := by
    rw [show k + 2 = (k + 1) + 1 from rfl, List.take_add_one, List.take_add_one, h1, hm]
    simp
  rw [e] at hp
  unfold ps at hp
  rw [List.map_append] at hp
  have := (List.pairwise_append.1 hp).2.1
  simp only [List.map_cons, List.map_nil, List.pairwise_cons, List.mem_singleton, forall_eq] at this
  exact this.1

def IsoR (w : World) (M : List Pt) (b : Bool) : Prop := b = true ↔ One w M M.length
def IsoE (w : World) (M : List Pt) (e : Ending) (w' : World) : Prop := ∃ b, e = .returned (.bool b) ∧ IsoR w M b ∧ Below w.heap.size w w'

set_option maxHeartbeats 8000000 in
theorem iso_calls {w : World} {v : Value} {M : List Pt} (hr : RowP w v M) (hg : GoodA w M) (hlm : M.length ≤ 1048576) :
    Calls Tryd.prog 37 #[v] w fun e w' => IsoE w M e w' := by
  obtain ⟨ao, cap, rfl, h1, h2, h3⟩ := hr
  have H3 := hide h3
  have HG := hide hg
  clear h3 hg
  generalize hLn : M.length = Ln at *
  have HLN := hide hLn
  clear hLn
  go_enter Tryd.func37, Tryd.ntmps37
  go_wp2
  go_loopw [8] (fun iv wr => ∃ k : Nat, k ≤ Ln ∧ iv = .int .i64 (k : Int) ∧ One w M k ∧ Below w.heap.size w wr) (fun iv _ => Ln - (RowKit.intOf iv).toNat)
  case atStart => exact ⟨0, Nat.zero_le _, rfl, one_zero w M, Below.refl _ _⟩
  case round =>
    obtain ⟨k, hk, rfl, ho, hb⟩ := hrel
    have HO := hide ho
    have HB := hide hb
    clear ho hb
    by_cases hlt : k < Ln
    · obtain ⟨⟨vr, neg, mv, z⟩, hm⟩ : ∃ m, M[k]? = some m := ⟨_, List.getElem?_eq_getElem (by rw [HLN.out]; exact hlt)⟩
      obtain ⟨b, o, rfl, hc⟩ := H3.out k _ hm
      have hc' := hc.below HB.out
      obtain ⟨c0, c1, c2⟩ := hc'
      dsimp only at c0 c1 c2
      obtain ⟨hrg, neg', mv', n, e, ⟨xs, hx, hxl, rfl⟩, hz⟩ := HG.out _ (List.mem_of_getElem? hm)
      dsimp only at hrg e hz
      obtain ⟨rfl, rfl⟩ : neg = neg' ∧ mv = mv' := by
        simp only [Value.agg.injEq, Array.mk.injEq, List.cons.injEq, and_true, Value.bool.injEq] at e
        exact e
      clear e
      have HX := hide hx
      obtain ⟨ma, mc, rfl, x1, x2, x3, x4⟩ := hx
      have HM := hide hm
      have HZ := hide hz
      have HR := hide hrg
      have HC := hide hc
      clear hm hz hrg hc x3
      have d1 : (k : Int) < (Ln : Int) := by omega
      have d0 : (0 : Int) ≤ (k : Int) := by omega
      have lb : b < wr.heap.size := block_lt_of_cell c0
      have HNO : Hid (∀ P : Prop, (One w M (k + 1) → P) → (One w M M.length → P)) := fun P f h => f (one_down h (by rw [HLN.out]; omega))
      by_cases hL : xs.length = 0
      · rw [hL] at c2
        have HXN := hide (List.eq_nil_of_length_eq_zero hL)
        clear hL x4
        go_wp2
        go_quiet (fail)
        go_wp2
        go_ret
        exact ⟨false, rfl, ⟨fun h => (by cases h), HNO.out _ (fun h => absurd HXN.out (res_top h HM.out HX.out).1)⟩, bdrewN (HB.out.alloc HB.out.size _) _⟩
      · obtain ⟨t, ht⟩ : ∃ t, xs.length = t + 1 := ⟨xs.length - 1, by omega⟩
        obtain ⟨mb, mo, rfl, cx⟩ := x4 t (by omega)
        have hT : IntKind.i64.wrap ((xs.length : Int) - 1) = (t : Int) := by
          rw [wrapN (by omega) (by omega)]
          omega
        have t0 : (0 : Int) ≤ (t : Int) := by omega
        have t1 : (t : Int) < (xs.length : Int) := by omega
        have t2 : decide ((t : Int) < 0) = false := decide_eq_false (by omega)
        have cw : wr.cell? ⟨mb, mo + t, none⟩ = some (.int .u32 ((nth xs t : Nat) : Int)) := (HB.out.cell (p := ⟨mb, mo + t, none⟩) (block_lt_of_cell cx)).trans cx
        have lm : mb < wr.heap.size := block_lt_of_cell cw
        have HT := hide ht
        clear x4 cx ht hL
        by_cases hn0 : nth xs t = 0
        · rw [hn0] at cw
          have HN0 := hide hn0
          clear hn0
          go_wp2
          go_quiet (fail)
          go_wp2
          go_ret
          refine ⟨false, rfl, ⟨fun h => (by cases h), HNO.out _ (fun h => ?_)⟩, bdrewN (HB.out.alloc HB.out.size _) _⟩
          have := (res_top h HM.out HX.out).2
          rw [HT.out] at this
          exact absurd HN0.out this
        · have q1 : (((nth xs t : Nat) : Int) == 0) = false := beq_eq_false_iff_ne.2 (by omega)
          have HRES : Hid (BRes w (.agg #[.bool neg, .slice (some ⟨mb, mo, none⟩) xs.length mc]) z ∧ z ≠ 0) := top_res HX.out HZ.out (by
            intro e
            have := HT.out
            rw [e] at this
            simp at this) (by rw [HT.out]; exact hn0)
          have HN0 := hide hn0
          clear hn0
          generalize ((nth xs t : Nat) : Int) = xv at *
          by_cases hk0 : k = 0
          · have g1 : decide (0 < k) = false := decide_eq_false (by omega)
            have HK0 := hide hk0
            clear hk0
            go_wp2
            go_quiet (fail)
            go_wp2
            go_roundw
            case rel => exact ⟨k + 1, by omega, by go_num, one_step HO.out HM.out ⟨HR.out, HRES.out.1⟩ HRES.out.2 (fun k1 m1 e _ => absurd e (by rw [HK0.out]; omega)), bdrewN (HB.out.alloc HB.out.size _) _⟩
            case measure => simp [RowKit.intOf]; omega
          · obtain ⟨k1, hk1⟩ : ∃ k1, k = k1 + 1 := ⟨k - 1, by omega⟩
            have g1 : decide (0 < k) = true := decide_eq_true (by omega)
            have hW : IntKind.i64.wrap ((k : Int) - 1) = (k1 : Int) := by
              rw [wrapN (by omega) (by omega)]
              omega
            have e1 : (k1 : Int) < (Ln : Int) := by omega
            have e0 : (0 : Int) ≤ (k1 : Int) := by omega
            obtain ⟨⟨vr1, neg1, mv1, z1⟩, hm1⟩ : ∃ m, M[k1]? = some m := ⟨_, List.getElem?_eq_getElem (by rw [HLN.out]; omega)⟩
            obtain ⟨b', o', e', hc1⟩ := H3.out k1 _ hm1
            cases e'
            have f0 := (hc1.below HB.out).1
            dsimp only at f0
            have HM1 := hide hm1
            have HK1 := hide hk1
            clear hm1 hc1 hk1 hk0
            by_cases hge : vr ≤ vr1
            · have g2 : decide (vr ≤ vr1) = true := decide_eq_true hge
              have HGE := hide hge
              clear hge
              go_wp2
              go_quiet (fail)
              go_wp2
              go_ret
              refine ⟨false, rfl, ⟨fun h => (by cases h), HNO.out _ (fun h => ?_)⟩, bdrewN (HB.out.alloc HB.out.size _) _⟩
              have e2 := HK1.out
              subst e2
              have h5 := one_rising h HM1.out HM.out
              have h6 := HGE.out
              simp only at h5
              omega
            · have g2 : decide (vr ≤ vr1) = false := decide_eq_false hge
              have HGE := hide hge
              clear hge
              go_wp2
              go_quiet (fail)
              go_wp2
              go_roundw
              case rel =>
                refine ⟨k + 1, by omega, by go_num, one_step HO.out HM.out ⟨HR.out, HRES.out.1⟩ HRES.out.2 (fun k2 m2 e h2 => ?_), bdrewN (HB.out.alloc HB.out.size _) _⟩
                have e3 : k2 = k1 := by have := HK1.out; omega
                subst e3
                have h4 := HM1.out
                rw [h4] at h2
                cases h2
                have := HGE.out
                show vr1 < vr
                omega
              case measure => simp [RowKit.intOf]; omega
    · obtain rfl : k = Ln := by omega
      have d1 : ¬ (k : Int) < (k : Int) := by omega
      go_wp2
      go_ret
      exact ⟨true, rfl, ⟨fun _ => by rw [HLN.out]; exact HO.out, fun _ => rfl⟩, HB.out⟩

end Go.Proofs.YtkdhcpfmlelfcaaDoor

namespace Go.Proofs.YtkdhcpfmlelfcaaDoor
set_option linter.unusedVariables false
set_option linter.unusedSimpArgs false
set_option maxRecDepth 100000
open Go Go.RowKit Go.Shelf Go.Lib

/-- All is as it was below a block, and so are all limbs. -/
def Fr32 (n : Nat) (W W' : World) : Prop := Below n W W' ∧ K32 W W'
theorem Fr32.refl (n : Nat) (W : World) : Fr32 n W W := ⟨Below.refl _ _, K32.refl _⟩
theorem Fr32.trans {n : Nat} {A B C : World} (h : Fr32 n A B) (k : Fr32 n B C) : Fr32 n A C := ⟨h.1.trans k.1, h.2.trans k.2⟩
theorem Fr32.of {n : Nat} {W W' : World} (h : Below W.heap.size W W') (hn : n ≤ W.heap.size) : Fr32 n W W' := ⟨h.mono hn, K32.of h⟩

theorem ptCells_one {m : Pt} (h : m.2.2.1.oneCell' = true) : ∀ u ∈ ptCells m, u.oneCell' = true := by
  intro u hu
  simp only [ptCells, List.mem_cons, List.mem_nil_iff, or_false] at hu
  rcases hu with rfl | rfl | rfl
  · rfl
  · rfl
  · exact h
theorem not32 {m : Pt} {i : Nat} {u : Value} (hs : ∃ a L c, m.2.2.1 = .slice a L c) (h : (ptCells m)[i]? = some u) (x : Int) : u ≠ .int .u32 x := by
  obtain ⟨a, L, c, e⟩ := hs
  have hm := List.mem_of_getElem? h
  simp only [ptCells, List.mem_cons, List.mem_nil_iff, or_false] at hm
  rintro rfl
  rw [e] at hm
  simp at hm
/-- The limbs of all parts are slices. -/
def Sl (M : List Pt) : Prop := ∀ m ∈ M, ∃ a L c, m.2.2.1 = .slice a L c
theorem GoodA.sl {W : World} {M : List Pt} (h : GoodA W M) : Sl M := fun m hm => by
  obtain ⟨_, neg, mv, n, e, ha, _⟩ := h m hm
  have e2 : m.2.2.1 = mv := by
    simp only [Value.agg.injEq, Array.mk.injEq, List.cons.injEq, and_true] at e
    exact e.2
  rw [e2]
  exact ha.shape
theorem GoodR.sl {W : World} {M : List Pt} (h : GoodR W M) : Sl M := fun m hm => by
  obtain ⟨_, mv, e, ha⟩ := h m hm
  have e2 : m.2.2.1 = mv := by
    simp only [Value.agg.injEq, Array.mk.injEq, List.cons.injEq, and_true] at e
    exact e.2
  rw [e2]
  obtain ⟨a, L, c, e3, _⟩ := ha.shape
  exact ⟨a, L, c, e3⟩
theorem Sl.one {M : List Pt} (h : Sl M) : ∀ m ∈ M, m.2.2.1.oneCell' = true := fun m hm => by
  obtain ⟨a, L, c, e⟩ := h m hm
  rw [e]
  rfl

theorem pcells_set : ∀ (M : List Pt) (i : Nat) (m : Pt), pcells (M.set i m) = (((pcells M).set (i * 3) (.int .i64 m.1)).set (i * 3 + 1) (.bool m.2.1)).set (i * 3 + 2) m.2.2.1 := by
  intro M
  induction M with
  | nil => intro i m; simp [pcells]
  | cons a l ih =>
    intro i m
    cases i with
    | zero => simp [pcells_cons, ptCells]
    | succ i =>
      rw [List.set_cons_succ, pcells_cons, ih, pcells_cons, show (i + 1) * 3 = i * 3 + 3 by omega]
      simp [ptCells]

/-- A part of one's own row is put anew. -/
theorem OwnP.put {n₀ : Nat} {W : World} {g cap : Nat} {M : List Pt} (h : OwnP n₀ W (.slice (some ⟨g, 0, none⟩) M.length cap) M) (hs : Sl M) {i : Nat} (hi : i < M.length) (m : Pt) {o0 o1 o2 : Nat} (e0 : o0 = i * 3) (e1 : o1 = i * 3 + 1) (e2 : o2 = i * 3 + 2) :
    OwnP n₀ (((W.setCell ⟨g, o0, none⟩ (.int .i64 m.1)).setCell ⟨g, o1, none⟩ (.bool m.2.1)).setCell ⟨g, o2, none⟩ m.2.2.1) (.slice (some ⟨g, 0, none⟩) M.length cap) (M.set i m) ∧
    Fr32 n₀ W (((W.setCell ⟨g, o0, none⟩ (.int .i64 m.1)).setCell ⟨g, o1, none⟩ (.bool m.2.1)).setCell ⟨g, o2, none⟩ m.2.2.1) := by
  subst e0 e1 e2
  have hrow := h.row
  have hlt := h.lt (j := g) rfl
  rcases h.1.2 with ⟨hv, hn⟩ | ⟨g', cp, cur, hv, h1, h2, h3, h4, h5, h6⟩
  · cases hv
  · cases hv
    have g1 := heap_setCell_same W g (i * 3) _ _ (.int .i64 m.1) h2
    have g2 := heap_setCell_same _ g (i * 3 + 1) _ _ (.bool m.2.1) g1
    have g3 := heap_setCell_same _ g (i * 3 + 2) _ _ m.2.2.1 g2
    have hcl : ∀ r, r < 3 → ∃ u, W.cell? ⟨g, i * 3 + r, none⟩ = some u ∧ ∀ x, u ≠ .int .u32 x := by
      intro r hr
      have hM : M[i]? = some M[i] := List.getElem?_eq_getElem hi
      have hc := (h.1.cellAt (j := i * 3 + r) (by rw [zPart_size]; omega)).trans (pcells_get M i M[i] hM r hr)
      have hl : r < (ptCells M[i]).length := hr
      refine ⟨(ptCells M[i])[r], hc.trans (List.getElem?_eq_getElem hl), fun x => not32 (hs _ (List.getElem_mem hi)) (List.getElem?_eq_getElem hl) x⟩
    have hk : K32 W (((W.setCell ⟨g, i * 3, none⟩ (.int .i64 m.1)).setCell ⟨g, i * 3 + 1, none⟩ (.bool m.2.1)).setCell ⟨g, i * 3 + 2, none⟩ m.2.2.1) := by
      intro a x hx
      have hne : ∀ r, r < 3 → (⟨g, i * 3 + r, none⟩ : Addr) ≠ a := by
        rintro r hr rfl
        obtain ⟨u, hu, hn⟩ := hcl r hr
        rw [hu] at hx
        cases hx
        exact hn x rfl
      have hne0 := hne 0 (by omega)
      rw [Nat.add_zero] at hne0
      rw [World.cell?_setCell_other _ _ _ _ (hne 2 (by omega)), World.cell?_setCell_other _ _ _ _ (hne 1 (by omega)), World.cell?_setCell_other _ _ _ _ hne0]
      exact hx
    have hb : Below n₀ W (((W.setCell ⟨g, i * 3, none⟩ (.int .i64 m.1)).setCell ⟨g, i * 3 + 1, none⟩ (.bool m.2.1)).setCell ⟨g, i * 3 + 2, none⟩ m.2.2.1) :=
      (((Below.refl n₀ W).setCell (p := ⟨g, i * 3, none⟩) h1 _).setCell (p := ⟨g, i * 3 + 1, none⟩) h1 _).setCell (p := ⟨g, i * 3 + 2, none⟩) h1 _
    refine ⟨⟨⟨?_, .inr ⟨g, cap, _, by rw [List.length_set], h1, g3, by rw [List.length_set]; exact h3, h4, ?_, ?_⟩⟩, ?_⟩, hb, hk⟩
    · rw [pcells_length]; rfl
    · simp only [Array.size_setIfInBounds]
      exact h5
    · rw [List.length_set]
      simp only [Array.toList_setIfInBounds]
      rw [List.take_set, List.take_set, List.take_set, h6, pcells_set]
    · intro g' j u hg hj hc
      simp only [Value.ownBlock, Option.some.injEq] at hg
      subst hg
      rw [List.length_set, zPart_size] at hj
      rw [World.cell?_setCell_other _ _ _ _ (by intro e; simp only [Addr.mk.injEq] at e; omega), World.cell?_setCell_other _ _ _ _ (by intro e; simp only [Addr.mk.injEq] at e; omega), World.cell?_setCell_other _ _ _ _ (by intro e; simp only [Addr.mk.injEq] at e; omega)] at hc
      exact h.2 g j u rfl (by rw [zPart_size]; exact hj) hc

/-- The first part of which something holds. -/
def IdxR (M : List Pt) (p : Pt → Bool) (r : Int) : Prop :=
  (r = -1 ∧ ∀ m ∈ M, p m = false) ∨ ∃ (k : Nat) (m : Pt), r = (k : Int) ∧ M[k]? = some m ∧ p m = true ∧ ∀ m' ∈ M.take k, p m' = false
def IdxE (w : World) (M : List Pt) (p : Pt → Bool) (e : Ending) (w' : World) : Prop := ∃ r, e = .returned (.int .i64 r) ∧ IdxR M p r ∧ Below w.heap.size w w'

/-- What is asked of a function value that tells of parts. -/
structure Tells (g : Nat) (lb : Array Value) (M : List Pt) (p : Pt → Bool) (n₀ : Nat) (I : World → Prop) : Prop where
  enters : ∀ args w, (callFunc g args).run Tryd.prog w = .ok (.enter g args) w
  keep : ∀ W W', I W → Fr32 n₀ W W' → I W'
  tells : ∀ W, I W → ∀ m ∈ M, Calls Tryd.prog g (#[.agg #[.int .i64 m.1, .bool m.2.1, m.2.2.1]] ++ lb) W fun e W' => e = .returned (.bool (p m)) ∧ Below W.heap.size W W'

theorem take_all_false {M : List Pt} {p : Pt → Bool} {k : Nat} {m : Pt} (h : ∀ m' ∈ M.take k, p m' = false) (hm : M[k]? = some m) (hp : p m = false) : ∀ m' ∈ M.take (k + 1), p m' = false := by
  intro m' hm'
  rw [List.take_add_one, hm] at hm'
  rcases List.mem_append.1 hm' with h1 | h1
  · exact h m' h1
  · simp at h1
    rw [h1]
    exact hp

set_option maxHeartbeats 4000000 in
theorem idx_calls {w : World} {v : Value} {M : List Pt} {g : Nat} {lb : Array Value} {p : Pt → Bool} {n₀ : Nat} {I : World → Prop} (ht : Tells g lb M p n₀ I) (hr : RowP w v M) (hlm : M.length ≤ 1048576) (hI : I w) (hn : n₀ ≤ w.heap.size) :
    Calls Tryd.prog 46 #[v, .func (.func g) #[] lb] w fun e w' => IdxE w M p e w' := by
  obtain ⟨ao, cap, rfl, h1, h2, h3⟩ := hr
  have H3 := hide h3
  have eg := ht.enters
  have HT := hide ht
  have HI := hide hI
  clear h3 ht hI
  generalize hLn : M.length = Ln at *
  have HLN := hide hLn
  clear hLn
  go_enter Tryd.func46, Tryd.ntmps46
  go_wp2
  go_loopw [8] (fun iv wr => ∃ k : Nat, k ≤ Ln ∧ iv = .int .i64 (k : Int) ∧ Below w.heap.size w wr ∧ (∀ m' ∈ M.take k, p m' = false)) (fun iv _ => Ln - (RowKit.intOf iv).toNat)
  case atStart => exact ⟨0, Nat.zero_le _, rfl, Below.refl _ _, fun m hm => by simp at hm⟩
  case round =>
    obtain ⟨k, hk, rfl, hb, ha⟩ := hrel
    have HB := hide hb
    have HA := hide ha
    clear hb ha
    by_cases hlt : k < Ln
    · obtain ⟨⟨vr, neg, mv, z⟩, hm⟩ : ∃ m, M[k]? = some m := ⟨_, List.getElem?_eq_getElem (by rw [HLN.out]; exact hlt)⟩
      obtain ⟨b, o, rfl, hc⟩ := H3.out k _ hm
      obtain ⟨c0, c1, c2⟩ := hc.below HB.out
      dsimp only at c0 c1 c2
      have hcall := HT.out.tells wr (HT.out.keep w wr HI.out (Fr32.of HB.out hn)) _ (List.mem_of_getElem? hm)
      dsimp only at hcall
      have HM := hide hm
      clear hm hc
      have d1 : (k : Int) < (Ln : Int) := by omega
      have d0 : (0 : Int) ≤ (k : Int) := by omega
      cases hq : p (vr, neg, mv, z) with
      | true =>
        rw [hq] at hcall
        have HQ := hide hq
        clear hq
        go_wp2_with (go_at_fn g; refine hcall.mono ?_; rintro e w' ⟨rfl, hb'⟩)
        go_ret
        exact ⟨_, rfl, .inr ⟨k, _, rfl, HM.out, HQ.out, HA.out⟩, bafter HB.out hb' (Nat.le_refl _)⟩
      | false =>
        rw [hq] at hcall
        have HQ := hide hq
        clear hq
        go_wp2_with (go_at_fn g; refine hcall.mono ?_; rintro e w' ⟨rfl, hb'⟩)
        go_roundw
        case rel => exact ⟨k + 1, by omega, by go_num, bafter HB.out hb' (Nat.le_refl _), take_all_false HA.out HM.out HQ.out⟩
        case measure => simp [RowKit.intOf]; omega
    · obtain rfl : k = Ln := by omega
      have d1 : ¬ (k : Int) < (k : Int) := by omega
      go_wp2
      go_ret
      refine ⟨_, rfl, .inl ⟨rfl, fun m hm => HA.out m ?_⟩, HB.out⟩
      rw [List.take_of_length_le (Nat.le_of_eq HLN.out)]
      exact hm

/-- The parts of one's own row from a place on become noughts. -/
theorem own_clear {n₀ : Nat} {W : World} {g cap i n : Nat} {M : List Pt} (hn : M.length = n) (h : OwnP n₀ W (.slice (some ⟨g, 0, none⟩) M.length cap) M) (hs : Sl M) (hi : i < M.length) (ty : TypeId) (c : Nat) :
    ∃ w', (Builtin.clear_ #[25] ty #[.slice (some ⟨g, i * 3, none⟩) (n - i) c]).run Tryd.prog W = .ok (.tuple #[]) w' ∧ OwnP n₀ w' (.slice (some ⟨g, 0, none⟩) i cap) (M.take i) ∧ Fr32 n₀ W w' := by
  subst hn
  obtain ⟨i0, hinfo, hz0, hz1, hz2⟩ := info_parts infoPart
  rcases h.1.2 with ⟨hv, hn⟩ | ⟨g', cp, cur, hv, h1, h2, h3, h4, h5, h6⟩
  · cases hv
  · cases hv
    have hzl : (Builtin.zeroCells zPart.cells (M.length - i)).toList.length = (M.length - i) * 3 := by
      rw [Array.length_toList, size_zeroCells]; rfl
    have hzm : ∀ u ∈ (Builtin.zeroCells zPart.cells (M.length - i)).toList, u ∈ zPart.cells.toList := by
      intro u hu
      obtain ⟨j, hj, rfl⟩ := List.getElem_of_mem hu
      exact mem_zeroCells (n := M.length - i) (i := j) (by rw [Array.getElem?_eq_getElem (by simpa using hj)]; simp)
    have hst := run_storeCells_at Tryd.prog g (i * 3) 31 (Builtin.zeroCells zPart.cells (M.length - i)).toList 0 cur W h2 (by rw [hzl, h5, zPart_size]; omega) (fun u hu => by
      have := hzm u hu
      simp [zPart, Value.cells] at this
      rcases this with rfl | rfl | rfl <;> rfl)
    simp only [Nat.add_zero, hzl] at hst
    rw [show i * 3 + (M.length - i) * 3 = M.length * 3 by omega] at hst
    obtain ⟨d, hd⟩ : ∃ d, M.length - i = d + 1 := ⟨M.length - i - 1, by omega⟩
    have hzv : (zeroValue 31).run Tryd.prog W = .ok zPart W := by
      simp [zeroValue, typeInfo, hinfo, hz0, zPart]
    generalize hZ : (Builtin.zeroCells zPart.cells (M.length - i)).toList = Z at *
    have hcs : cur.toList.length = cap * 3 := by rw [Array.length_toList, h5]; rfl
    have hcl1 : (cur.toList.take (i * 3)).length = i * 3 := by rw [List.length_take, hcs]; omega
    have hcl2 : (cur.toList.take (i * 3) ++ Z).length = M.length * 3 := by rw [List.length_append, hcl1, hzl]; omega
    have hcell : ∀ j, (W.setRow g (cur.toList.take (i * 3) ++ Z ++ cur.toList.drop (M.length * 3)).toArray).cell? ⟨g, j, none⟩ = (cur.toList.take (i * 3) ++ Z ++ cur.toList.drop (M.length * 3))[j]? := by
      intro j
      have h7 := setRow_heap W g cur (cur.toList.take (i * 3) ++ Z ++ cur.toList.drop (M.length * 3)).toArray 31 (0, 0) h2
      unfold World.cell?
      simp only [h7]
      simp
    have hold : ∀ j, W.cell? ⟨g, j, none⟩ = cur.toList[j]? := by
      intro j
      unfold World.cell?
      simp only [h2]
      simp
    have htk : cur.toList.take (i * 3) = pcells (M.take i) := by
      have e1 : cur.toList.take (i * 3) = (cur.toList.take (M.length * 3)).take (i * 3) := by rw [List.take_take]; congr 1; omega
      have e2 : cur.toList.take (M.length * 3) = pcells M := h6
      have e3 : M = M.take i ++ M.drop i := (List.take_append_drop i M).symm
      rw [e1, e2]
      conv => lhs; rw [e3, pcells_append]
      rw [show i * 3 = (pcells (M.take i)).length by rw [pcells_length, List.length_take]; congr 1; omega]
      exact List.take_left
    have hit : (M.take i).length = i := by rw [List.length_take]; omega
    refine ⟨W.setRow g (cur.toList.take (i * 3) ++ Z ++ cur.toList.drop (M.length * 3)).toArray, ?_, ⟨⟨?_, .inr ⟨g, cap, _, ?_, h1, setRow_heap W g cur _ _ _ h2, ?_, h4, ?_, ?_⟩⟩, ?_⟩, ?_, ?_⟩
    · rw [hd] at hZ
      rw [hd]
      simp [Builtin.clear_, run_underlying Tryd.underlying25, hzv, hZ, hst]
    · rw [pcells_length]; rfl
    · rw [hit]
    · rw [hit]; omega
    · simp only [List.size_toArray, List.length_append, List.length_drop, hcs]
      have := hcl2
      rw [List.length_append] at this
      show _ = cap * 3
      omega
    · rw [hit]
      show List.take (i * 3) _ = _
      have e4 : (cur.toList.take (i * 3) ++ Z ++ cur.toList.drop (M.length * 3)).toArray.toList = cur.toList.take (i * 3) ++ (Z ++ cur.toList.drop (M.length * 3)) := by simp
      rw [e4, htk]
      have e5 := List.take_left (l₁ := pcells (M.take i)) (l₂ := Z ++ cur.toList.drop (M.length * 3))
      rw [pcells_length, hit] at e5
      exact e5
    · intro g' j u hg hj hc
      simp only [Value.ownBlock, Option.some.injEq] at hg
      subst hg
      rw [hit, zPart_size] at hj
      rw [hcell] at hc
      by_cases hj2 : j < M.length * 3
      · rw [List.getElem?_append_left (by rw [hcl2]; exact hj2), List.getElem?_append_right (by rw [hcl1]; exact hj)] at hc
        exact hzm u (List.mem_of_getElem? hc)
      · rw [List.getElem?_append_right (by rw [hcl2]; omega), hcl2, List.getElem?_drop, show M.length * 3 + (j - M.length * 3) = j by omega, ← hold] at hc
        exact h.2 g j u rfl (by rw [zPart_size]; omega) hc
    · exact ⟨rfl, rfl, rfl, by simp, fun k hk => setRow_other W g k _ (by omega)⟩
    · intro a x hx
      by_cases hb : a.block = g
      · obtain ⟨ab, ao, asp⟩ := a
        have hs2 : asp = none := World.cell?_spot hx
        subst hs2
        simp only at hb
        subst hb
        have hlt : ¬ (i * 3 ≤ ao ∧ ao < M.length * 3) := by
          rintro ⟨q1, q2⟩
          have hq : ao / 3 < M.length := by omega
          have hc0 := pcells_get M (ao / 3) M[ao / 3] (List.getElem?_eq_getElem hq) (ao % 3) (Nat.mod_lt _ (by decide))
          rw [show ao / 3 * 3 + ao % 3 = ao by omega] at hc0
          have hc := (h.1.cellAt (j := ao) (by rw [zPart_size]; exact q2)).trans hc0
          rw [hx] at hc
          exact not32 (hs _ (List.getElem_mem hq)) hc.symm x rfl
        rw [hcell]
        rw [hold] at hx
        by_cases q1 : ao < i * 3
        · rw [List.append_assoc, List.getElem?_append_left (by rw [hcl1]; exact q1), List.getElem?_take, if_pos q1]
          exact hx
        · have q2 : M.length * 3 ≤ ao := by omega
          rw [List.getElem?_append_right (by rw [hcl2]; exact q2), hcl2, List.getElem?_drop, show M.length * 3 + (ao - M.length * 3) = ao by omega]
          exact hx
      · rw [World.cell?_of_block (setRow_other W g a.block _ hb)]
        exact hx

/-- What is left of parts, and what lies in the row meanwhile. -/
structure Mid (M X : List Pt) (p : Pt → Bool) (i j : Nat) : Prop where
  len : X.length = M.length
  lt : i < j
  le : j ≤ M.length
  done : X.take i = (M.take j).filter fun m => !p m
  rest : X.drop j = M.drop j
  sl : Sl X
theorem Mid.at {M X : List Pt} {p : Pt → Bool} {i j : Nat} (h : Mid M X p i j) {m : Pt} (hm : M[j]? = some m) : X[j]? = some m := by
  have e := congrArg (fun l => l[0]?) h.rest
  simp only [List.getElem?_drop, Nat.add_zero] at e
  rw [e, hm]
theorem Mid.skip {M X : List Pt} {p : Pt → Bool} {i j : Nat} (h : Mid M X p i j) {m : Pt} (hm : M[j]? = some m) (hp : p m = true) : Mid M X p i (j + 1) := by
  have hj : j < M.length := (List.getElem?_eq_some_iff.1 hm).1
  refine ⟨h.len, by have := h.lt; omega, hj, ?_, ?_, h.sl⟩
  · rw [h.done, List.take_add_one, hm, List.filter_append]
    simp [hp]
  · have := congrArg (List.drop 1) h.rest
    rw [List.drop_drop, List.drop_drop] at this
    exact this
theorem Mid.take {M X : List Pt} {p : Pt → Bool} {i j : Nat} (h : Mid M X p i j) {m : Pt} (hm : M[j]? = some m) (hp : p m = false) (hs : ∃ a L c, m.2.2.1 = .slice a L c) : Mid M (X.set i m) p (i + 1) (j + 1) := by
  have hj : j < M.length := (List.getElem?_eq_some_iff.1 hm).1
  have hi := h.lt
  have hl := h.len
  refine ⟨by rw [List.length_set]; exact hl, by omega, hj, ?_, ?_, ?_⟩
  · rw [List.take_add_one, List.getElem?_set_self (by omega), List.take_set_of_le (by omega), h.done, List.take_add_one, hm, List.filter_append]
    simp [hp]
  · rw [List.drop_set_of_lt (by omega)]
    have := congrArg (List.drop 1) h.rest
    rw [List.drop_drop, List.drop_drop] at this
    exact this
  · intro x hx
    rcases List.mem_or_eq_of_mem_set hx with h1 | h1
    · exact h.sl x h1
    · rw [h1]; exact hs
theorem mid_start {M : List Pt} {p : Pt → Bool} {k : Nat} {m : Pt} (hm : M[k]? = some m) (hp : p m = true) (hf : ∀ m' ∈ M.take k, p m' = false) (hs : Sl M) : Mid M M p k (k + 1) := by
  have hk : k < M.length := (List.getElem?_eq_some_iff.1 hm).1
  refine ⟨rfl, by omega, hk, ?_, rfl, hs⟩
  rw [List.take_add_one, hm, List.filter_append, List.filter_eq_self.2 (fun x hx => by simp [hf x hx])]
  simp [hp]

def DelE (n₀ : Nat) (w : World) (M : List Pt) (p : Pt → Bool) (e : Ending) (w' : World) : Prop := ∃ v', e = .returned v' ∧ OwnP n₀ w' v' (M.filter fun m => !p m) ∧ Fr32 n₀ w w'

set_option maxHeartbeats 8000000 in
theorem del_calls {w : World} {v : Value} {M : List Pt} {g : Nat} {lb : Array Value} {p : Pt → Bool} {n₀ : Nat} {I : World → Prop} (ht : Tells g lb M p n₀ I) (hown : OwnP n₀ w v M) (hsl : Sl M) (hlm : M.length ≤ 1048576) (hI : I w) (hn : n₀ ≤ w.heap.size) :
    Calls Tryd.prog 24 #[v, .func (.func g) #[] lb] w fun e w' => DelE n₀ w M p e w' := by
  have hidx := idx_calls ht hown.row hlm hI hn
  have eg := ht.enters
  have HT := hide ht
  have HI := hide hI
  have HO := hide hown
  have HS := hide hsl
  obtain ⟨ao, cap, rfl, q1, q2⟩ := hown.len
  clear ht hI hown hsl
  generalize hLn : M.length = Ln at *
  have HLN := hide hLn
  clear hLn
  go_enter Tryd.func24, Tryd.ntmps24
  go_wp2_with fail
  refine hidx.mono ?_
  rintro e w1 ⟨r, rfl, hr, hb1⟩
  have HB1 := hide hb1
  clear hidx hb1
  rcases hr with ⟨rfl, hall⟩ | ⟨k, m, rfl, hm, hpm, hf⟩
  · have HALL := hide hall
    clear hall
    go_wp2
    go_ret
    refine ⟨_, rfl, ?_, Fr32.of HB1.out hn⟩
    rw [List.filter_eq_self.2 (fun x hx => by simp [HALL.out x hx])]
    exact HO.out.below HB1.out
  · have HMID := hide (mid_start hm hpm hf HS.out)
    have hk : k < Ln := by
      have := (List.getElem?_eq_some_iff.1 hm).1
      rw [← HLN.out]
      exact this
    clear hm hpm hf
    obtain ⟨g0, rfl⟩ : ∃ g0, ao = some ⟨g0, 0, none⟩ := by
      rcases HO.out.1.2 with ⟨hv, hn2⟩ | ⟨g', cp, cur, hv, _⟩
      · have := HLN.out
        omega
      · cases hv
        exact ⟨_, rfl⟩
    have hkn : ¬ (k : Int) = -1 := by omega
    have hkb : ((k : Int) == -1) = false := beq_eq_false_iff_ne.2 hkn
    go_wp2
    go_loopw [5, 6] (fun iv jv wr => ∃ (i j : Nat) (X : List Pt), iv = .int .i64 (i : Int) ∧ jv = .int .i64 (j : Int) ∧ Mid M X p i j ∧ OwnP n₀ wr (.slice (some ⟨g0, 0, none⟩) Ln cap) X ∧ Fr32 n₀ w wr) (fun _ jv _ => Ln - (RowKit.intOf jv).toNat)
    case atStart => exact ⟨k, k + 1, M, rfl, by go_num, HMID.out, HO.out.below HB1.out, Fr32.of HB1.out hn⟩
    case round =>
      obtain ⟨i, j, X, rfl, rfl, hmid, ho, hfr⟩ := hrel
      have hij := hmid.lt
      have hjl := hmid.le
      rw [HLN.out] at hjl
      have HMD := hide hmid
      have HOX := hide ho
      have HF := hide hfr
      clear hmid ho hfr
      have hIr := HT.out.keep _ _ HI.out HF.out
      have HIR := hide hIr
      clear hIr
      have hXl : X.length = Ln := by rw [← HLN.out]; exact HMD.out.len
      have HXL := hide hXl
      have hgl := HOX.out.lt (j := g0) rfl
      by_cases hlt : j < Ln
      · obtain ⟨⟨vr, neg, mv, z⟩, hm⟩ : ∃ m, M[j]? = some m := ⟨_, List.getElem?_eq_getElem (by rw [HLN.out]; exact hlt)⟩
        obtain ⟨ao2, cp2, e2, _, _, hcs⟩ := HOX.out.row
        rw [hXl] at e2
        simp only [Value.slice.injEq, true_and] at e2
        obtain ⟨rfl, rfl⟩ := e2
        obtain ⟨b, o, e3, hc⟩ := hcs j _ (HMD.out.at hm)
        obtain ⟨rfl, rfl⟩ : g0 = b ∧ 0 = o := by simpa using e3
        obtain ⟨c0, c1, c2⟩ := hc
        simp only [Nat.zero_add] at c0 c1 c2
        obtain ⟨ma, mL, mc, hmv⟩ := HS.out _ (List.mem_of_getElem? hm)
        simp only at hmv
        subst hmv
        have HM := hide hm
        clear hm hcs e3 hXl
        have d1 : (j : Int) < (Ln : Int) := by omega
        have d0 : (0 : Int) ≤ (j : Int) := by omega
        have i1 : (i : Int) < (Ln : Int) := by omega
        have i0 : (0 : Int) ≤ (i : Int) := by omega
        have hbel := bel wr (.cells #[.int .i64 vr, .bool neg, .slice ma mL mc] 31)
        have hcall := HT.out.tells _ (HT.out.keep _ _ HIR.out (Fr32.of hbel (Nat.le_trans hgl.1 (Nat.le_of_lt hgl.2)))) _ (List.mem_of_getElem? HM.out)
        dsimp only at hcall
        have HBEL := hide hbel
        clear hbel
        cases hq : p (vr, neg, .slice ma mL mc, z) with
        | true =>
          rw [hq] at hcall
          have HQ := hide hq
          clear hq
          go_wp2_with fail
          refine hcall.mono ?_
          rintro e w2 ⟨rfl, hb2⟩
          have HB2 := hide (bafter HBEL.out hb2 (by simp))
          clear hb2 hcall
          go_wp2
          go_roundw
          case rel => exact ⟨i, j + 1, X, rfl, by go_num, HMD.out.skip HM.out HQ.out, HOX.out.below HB2.out, HF.out.trans (Fr32.of HB2.out (Nat.le_trans hgl.1 (Nat.le_of_lt hgl.2)))⟩
          case measure => simp [RowKit.intOf]; omega
        | false =>
          rw [hq] at hcall
          have HQ := hide hq
          clear hq
          go_wp2_with fail
          refine hcall.mono ?_
          rintro e w2 ⟨rfl, hb2⟩
          have HB2 := hide (bafter HBEL.out hb2 (by simp))
          have b0 : w2.cell? ⟨wr.heap.size, 0, none⟩ = some (.int .i64 vr) := (hb2.cell (p := ⟨wr.heap.size, 0, none⟩) (by simp)).trans (by simp [World.cell?_alloc_mark])
          have b1 : w2.cell? ⟨wr.heap.size, 1, none⟩ = some (.bool neg) := (hb2.cell (p := ⟨wr.heap.size, 1, none⟩) (by simp)).trans (by simp [World.cell?_alloc_mark])
          have b2 : w2.cell? ⟨wr.heap.size, 2, none⟩ = some (.slice ma mL mc) := (hb2.cell (p := ⟨wr.heap.size, 2, none⟩) (by simp)).trans (by simp [World.cell?_alloc_mark])
          have hO2 := HOX.out.below HB2.out
          obtain ⟨x, hx⟩ : ∃ x, X[i]? = some x := ⟨_, List.getElem?_eq_getElem (by rw [HXL.out]; omega)⟩
          obtain ⟨ao3, cp3, e4, _, _, hcs3⟩ := hO2.row
          rw [HXL.out] at e4
          simp only [Value.slice.injEq, true_and] at e4
          obtain ⟨rfl, rfl⟩ := e4
          obtain ⟨b', o', e5, hc3⟩ := hcs3 i _ hx
          obtain ⟨rfl, rfl⟩ : g0 = b' ∧ 0 = o' := by simpa using e5
          obtain ⟨f0, f1, f2⟩ := hc3
          simp only [Nat.zero_add] at f0 f1 f2
          have fz : ∀ q, w2.frozen? ⟨g0, q, none⟩ = false := by
            rcases hO2.1.2 with ⟨hv, _⟩ | ⟨g', cp', cur', hv, _, hh, _⟩
            · cases hv
            · cases hv
              exact fun q => frozen_of_row w2 g0 q _ _ hh
          have z0 := fz (i * 3)
          have z1 := fz (i * 3 + 1)
          have z2 := fz (i * 3 + 2)
          have HO2 := hide hO2
          have n0 : g0 ≠ wr.heap.size := by have := hgl.2; omega
          clear hb2 hcall hcs3 e5 fz hO2 hx
          go_wp2
          go_roundw
          case rel =>
            have hp := OwnP.put (M := X) (by rw [HXL.out]; exact HO2.out) HMD.out.sl (i := i) (by rw [HXL.out]; omega) (vr, neg, .slice ma mL mc, z) rfl rfl rfl
            rw [HXL.out] at hp
            exact ⟨i + 1, j + 1, X.set i (vr, neg, .slice ma mL mc, z), by go_num, by go_num, HMD.out.take HM.out HQ.out ⟨_, _, _, rfl⟩, hp.1, (HF.out.trans (Fr32.of HB2.out (Nat.le_trans hgl.1 (Nat.le_of_lt hgl.2)))).trans hp.2⟩
          case measure => simp [RowKit.intOf]; omega
      · obtain rfl : j = Ln := by omega
        have d1 : ¬ (j : Int) < (j : Int) := by omega
        have i1 : (i : Int) < (j : Int) := by omega
        have i0 : (0 : Int) ≤ (i : Int) := by omega
        have i2 : (i : Int) ≤ (cap : Int) := by omega
        have i3 : ¬ cap = i := by omega
        have i4 : (i : Int) ≤ (j : Int) := by omega
        obtain ⟨wc, hrun, hoc, hfc⟩ := own_clear (M := X) (i := i) (n := j) (cap := cap) HXL.out (by rw [HXL.out]; exact HOX.out) HMD.out.sl (by rw [HXL.out]; omega) 0 (cap - i)
        have HOC := hide hoc
        have HFC := hide hfc
        clear hoc hfc hXl
        go_wp2
        go_ret
        refine ⟨_, rfl, ?_, HF.out.trans HFC.out⟩
        have e := HMD.out.done
        rw [← HLN.out, List.take_length] at e
        rw [← e]
        exact HOC.out

end Go.Proofs.YtkdhcpfmlelfcaaDoor

namespace Go.Proofs
open Go.Shelf
def Tryd.sortP_ren : Go.Shelf.Ren := ⟨fun | 6 => 38 | 15 => 55 | 14 => 54 | 28 => 75 | 29 => 76 | 20 => 67 | 21 => 68 | 22 => 69 | 23 => 70 | 24 => 71 | 25 => 72 | 26 => 73 | 27 => 74 | 46 => 85 | 47 => 86 | 48 => 87 | 49 => 88 | 50 => 89 | 57 => 95 | n => n, fun | 22 => 25 | 24 => 31 | 25 => 77 | 3 => 3 | 39 => 84 | 0 => 0 | 53 => 53 | 55 => 56 | 4 => 4 | 46 => 106 | 45 => 105 | 50 => 110 | 5 => 5 | 9 => 9 | 66 => 122 | 70 => 126 | 76 => 132 | 77 => 133 | n => n, fun | n => n⟩
theorem Tryd.sortP : Go.Proofs.SlLaysF0.n6 Tryd.prog Tryd.sortP_ren := {
  mixed := by kernel_rfl
  f6 := ⟨Tryd.f38.name, by decide, Tryd.func38.trans (congrArg some (by kernel_rfl))⟩
  f14 := ⟨Tryd.f54.name, by decide, Tryd.func54.trans (congrArg some (by kernel_rfl))⟩
  f15 := Tryd.func55.trans (congrArg some (by kernel_rfl))
  f20 := ⟨Tryd.f67.name, by decide, Tryd.func67.trans (congrArg some (by kernel_rfl))⟩
  f21 := ⟨Tryd.f68.name, by decide, Tryd.func68.trans (congrArg some (by kernel_rfl))⟩
  f22 := ⟨Tryd.f69.name, by decide, Tryd.func69.trans (congrArg some (by kernel_rfl))⟩
  f23 := ⟨Tryd.f70.name, by decide, Tryd.func70.trans (congrArg some (by kernel_rfl))⟩
  f24 := ⟨Tryd.f71.name, by decide, Tryd.func71.trans (congrArg some (by kernel_rfl))⟩
  f25 := ⟨Tryd.f72.name, by decide, Tryd.func72.trans (congrArg some (by kernel_rfl))⟩
  f26 := ⟨Tryd.f73.name, by decide, Tryd.func73.trans (congrArg some (by kernel_rfl))⟩
  f27 := ⟨Tryd.f74.name, by decide, Tryd.func74.trans (congrArg some (by kernel_rfl))⟩
  f28 := Tryd.func75.trans (congrArg some (by kernel_rfl))
  f29 := Tryd.func76.trans (congrArg some (by kernel_rfl))
  f46 := ⟨Tryd.f85.name, by decide, Tryd.func85.trans (congrArg some (by kernel_rfl))⟩
  f47 := Tryd.func86.trans (congrArg some (by kernel_rfl))
  f48 := Tryd.func87.trans (congrArg some (by kernel_rfl))
  f49 := ⟨Tryd.f88.name, by decide, Tryd.func88.trans (congrArg some (by kernel_rfl))⟩
  f50 := ⟨Tryd.f89.name, by decide, Tryd.func89.trans (congrArg some (by kernel_rfl))⟩
  f57 := ⟨Tryd.f95.name, by decide, Tryd.func95.trans (congrArg some (by kernel_rfl))⟩
  t0 := Tryd.underlying0
  a0 := Tryd.isAgg0
  z0 := Tryd.sizeOf0
  v0 := Tryd.zeroValue0
  t3 := Tryd.underlying3
  a3 := Tryd.isAgg3
  z3 := Tryd.sizeOf3
  v3 := Tryd.zeroValue3
  t4 := Tryd.underlying4
  a4 := Tryd.isAgg4
  z4 := Tryd.sizeOf4
  v4 := Tryd.zeroValue4
  t5 := Tryd.underlying5
  a5 := Tryd.isAgg5
  z5 := Tryd.sizeOf5
  v5 := Tryd.zeroValue5
  t9 := Tryd.underlying9
  a9 := Tryd.isAgg9
  z9 := Tryd.sizeOf9
  v9 := Tryd.zeroValue9
  t22 := Tryd.underlying25
  a22 := Tryd.isAgg25
  z22 := Tryd.sizeOf25
  v22 := Tryd.zeroValue25
  t25 := Tryd.underlying77
  a25 := Tryd.isAgg77
  z25 := Tryd.sizeOf77
  v25 := Tryd.zeroValue77
  t39 := Tryd.underlying84
  a39 := Tryd.isAgg84
  z39 := Tryd.sizeOf84
  v39 := Tryd.zeroValue84
  t45 := Tryd.underlying105
  a45 := Tryd.isAgg105
  z45 := Tryd.sizeOf105
  v45 := Tryd.zeroValue105
  t46 := Tryd.underlying106
  a46 := Tryd.isAgg106
  z46 := Tryd.sizeOf106
  v46 := Tryd.zeroValue106
  t50 := Tryd.underlying110
  a50 := Tryd.isAgg110
  z50 := Tryd.sizeOf110
  v50 := Tryd.zeroValue110
  t53 := Tryd.underlying53
  a53 := Tryd.isAgg53
  z53 := Tryd.sizeOf53
  v53 := Tryd.zeroValue53
  t55 := Tryd.underlying56
  a55 := Tryd.isAgg56
  z55 := Tryd.sizeOf56
  v55 := Tryd.zeroValue56
  t66 := Tryd.underlying122
  a66 := Tryd.isAgg122
  z66 := Tryd.sizeOf122
  v66 := Tryd.zeroValue122
  t70 := Tryd.underlying126
  a70 := Tryd.isAgg126
  z70 := Tryd.sizeOf126
  v70 := Tryd.zeroValue126
  t76 := Tryd.underlying132
  a76 := Tryd.isAgg132
  z76 := Tryd.sizeOf132
  v76 := Tryd.zeroValue132
  t77 := Tryd.underlying133
  a77 := Tryd.isAgg133
  z77 := Tryd.sizeOf133
  v77 := Tryd.zeroValue133 }
def Tryd.cmpInt_ren : Go.Shelf.Ren := ⟨fun | 5 => 40 | 7 => 56 | n => n, fun | 22 => 3 | 3 => 3 | 4 => 4 | n => n, fun | n => n⟩
theorem Tryd.cmpInt : Go.Proofs.SlLaysC2.n5 Tryd.prog Tryd.cmpInt_ren := {
  mixed := by kernel_rfl
  f5 := ⟨Tryd.f40.name, by decide, Tryd.func40.trans (congrArg some (by kernel_rfl))⟩
  f7 := ⟨Tryd.f56.name, by decide, Tryd.func56.trans (congrArg some (by kernel_rfl))⟩
  t3 := Tryd.underlying3
  a3 := Tryd.isAgg3
  z3 := Tryd.sizeOf3
  v3 := Tryd.zeroValue3
  t4 := Tryd.underlying4
  a4 := Tryd.isAgg4
  z4 := Tryd.sizeOf4
  v4 := Tryd.zeroValue4
  t22 := Tryd.underlying3
  a22 := Tryd.isAgg3
  z22 := Tryd.sizeOf3
  v22 := Tryd.zeroValue3 }
def Tryd.cloneP_ren : Go.Shelf.Ren := ⟨fun | 41 => 19 | n => n, fun | 22 => 25 | 23 => 31 | 4 => 4 | n => n, fun | n => n⟩
theorem Tryd.cloneP : Go.Proofs.SlLaysE0.n41 Tryd.prog Tryd.cloneP_ren := {
  mixed := by kernel_rfl
  f41 := ⟨Tryd.f19.name, by decide, Tryd.func19.trans (congrArg some (by kernel_rfl))⟩
  t4 := Tryd.underlying4
  a4 := Tryd.isAgg4
  z4 := Tryd.sizeOf4
  v4 := Tryd.zeroValue4
  t22 := Tryd.underlying25
  a22 := Tryd.isAgg25
  z22 := Tryd.sizeOf25
  v22 := Tryd.zeroValue25 }
def Tryd.idxP_ren : Go.Shelf.Ren := ⟨fun | 6 => 46 | n => n, fun | 22 => 25 | 23 => 31 | 25 => 51 | 3 => 3 | 0 => 0 | 4 => 4 | n => n, fun | n => n⟩
theorem Tryd.idxP : Go.Proofs.SlLaysH0.n6 Tryd.prog Tryd.idxP_ren := {
  mixed := by kernel_rfl
  f6 := ⟨Tryd.f46.name, by decide, Tryd.func46.trans (congrArg some (by kernel_rfl))⟩
  t0 := Tryd.underlying0
  a0 := Tryd.isAgg0
  z0 := Tryd.sizeOf0
  v0 := Tryd.zeroValue0
  t3 := Tryd.underlying3
  a3 := Tryd.isAgg3
  z3 := Tryd.sizeOf3
  v3 := Tryd.zeroValue3
  t4 := Tryd.underlying4
  a4 := Tryd.isAgg4
  z4 := Tryd.sizeOf4
  v4 := Tryd.zeroValue4
  t22 := Tryd.underlying25
  a22 := Tryd.isAgg25
  z22 := Tryd.sizeOf25
  v22 := Tryd.zeroValue25
  t25 := Tryd.underlying51
  a25 := Tryd.isAgg51
  z25 := Tryd.sizeOf51
  v25 := Tryd.zeroValue51 }
def Tryd.lays170_ren : Go.Shelf.Ren := ⟨fun | 170 => 33 | n => n, fun | 70 => 57 | 3 => 3 | 0 => 0 | 72 => 60 | 37 => 58 | 5 => 5 | n => n, fun | n => n⟩
theorem Tryd.lays170 : Go.Proofs.Lays.n170 Tryd.prog Tryd.lays170_ren := {
  mixed := by kernel_rfl
  f170 := Tryd.func33.trans (congrArg some (by kernel_rfl))
  t0 := Tryd.underlying0
  a0 := Tryd.isAgg0
  z0 := Tryd.sizeOf0
  v0 := Tryd.zeroValue0
  t3 := Tryd.underlying3
  a3 := Tryd.isAgg3
  z3 := Tryd.sizeOf3
  v3 := Tryd.zeroValue3
  t37 := Tryd.underlying58
  a37 := Tryd.isAgg58
  z37 := Tryd.sizeOf58
  v37 := Tryd.zeroValue58
  t70 := Tryd.underlying57
  a70 := Tryd.isAgg57
  z70 := Tryd.sizeOf57
  v70 := Tryd.zeroValue57
  t72 := Tryd.underlying60
  a72 := Tryd.isAgg60
  z72 := Tryd.sizeOf60
  v72 := Tryd.zeroValue60 }
open Go.RowKit in
theorem Tryd.Builder_Len (B b : Nat) (bs : List Value) (w : World) (h : Lib.IsBuilder 60 5 B b bs w) :
    Calls Tryd.prog 33 #[.pointer (some ⟨b, 0, none⟩)] w fun e w' => e = .returned (.int .i64 bs.length) ∧ w' = w := Any.Builder_Len Tryd.lays170 B b bs w h
def Tryd.lays169_ren : Go.Shelf.Ren := ⟨fun | 169 => 35 | n => n, fun | 70 => 57 | 9 => 9 | 0 => 0 | 72 => 60 | 37 => 58 | 127 => 89 | 3 => 3 | 5 => 5 | n => n, fun | n => n⟩
theorem Tryd.lays169 : Go.Proofs.Lays.n169 Tryd.prog Tryd.lays169_ren := {
  mixed := by kernel_rfl
  f169 := Tryd.func35.trans (congrArg some (by kernel_rfl))
  t0 := Tryd.underlying0
  a0 := Tryd.isAgg0
  z0 := Tryd.sizeOf0
  v0 := Tryd.zeroValue0
  t3 := Tryd.underlying3
  a3 := Tryd.isAgg3
  z3 := Tryd.sizeOf3
  v3 := Tryd.zeroValue3
  t9 := Tryd.underlying9
  a9 := Tryd.isAgg9
  z9 := Tryd.sizeOf9
  v9 := Tryd.zeroValue9
  t37 := Tryd.underlying58
  a37 := Tryd.isAgg58
  z37 := Tryd.sizeOf58
  v37 := Tryd.zeroValue58
  t70 := Tryd.underlying57
  a70 := Tryd.isAgg57
  z70 := Tryd.sizeOf57
  v70 := Tryd.zeroValue57
  t72 := Tryd.underlying60
  a72 := Tryd.isAgg60
  z72 := Tryd.sizeOf60
  v72 := Tryd.zeroValue60
  t127 := Tryd.underlying89
  a127 := Tryd.isAgg89
  z127 := Tryd.sizeOf89
  v127 := Tryd.zeroValue89 }
theorem Tryd.Builder_Extra_169 : Builder.Extra Tryd.prog Tryd.lays169_ren := {
  sizeBuilder := by kernel_rfl
  liesBuilder := by kernel_rfl
  t5 := Tryd.underlying5
  a5 := Tryd.isAgg5
  z5 := Tryd.sizeOf5
  v5 := Tryd.zeroValue5
  infoByte := by kernel_rfl
  cellsByte := by kernel_rfl
  sizeByte := by kernel_rfl
  neB5 := by decide }
open Go.RowKit in
theorem Tryd.Builder_String (B b : Nat) (l : List UInt8) (w : World) (h : Lib.IsBuilder 60 5 B b (Lib.byteCells l) w) (h0 : l ≠ []) :
    Calls Tryd.prog 35 #[.pointer (some ⟨b, 0, none⟩)] w fun e w' => e = .returned (.string ⟨l.toArray⟩) ∧ Below B w w' := Any.Builder_String Tryd.lays169 Tryd.Builder_Extra_169 B b l w h h0
open Go.RowKit in
theorem Tryd.Builder_String_empty (B b : Nat) (w : World) (h : Lib.IsBuilder 60 5 B b [] w) (hBw : B ≤ w.heap.size) :
    Calls Tryd.prog 35 #[.pointer (some ⟨b, 0, none⟩)] w fun e w' => e = .returned (.string ⟨#[]⟩) ∧ Below B w w' := Any.Builder_String_empty Tryd.lays169 Tryd.Builder_Extra_169 B b w h hBw
open Go.RowKit in
theorem Tryd.Builder_String_any (B b : Nat) (l : List UInt8) (w : World) (h : Lib.IsBuilder 60 5 B b (Lib.byteCells l) w) (hBw : B ≤ w.heap.size) :
    Calls Tryd.prog 35 #[.pointer (some ⟨b, 0, none⟩)] w fun e w' => e = .returned (.string ⟨l.toArray⟩) ∧ Below B w w' := Any.Builder_String_any Tryd.lays169 Tryd.Builder_Extra_169 B b l w h hBw
def Tryd.lays125_ren : Go.Shelf.Ren := ⟨fun | 125 => 55 | 128 => 75 | 129 => 76 | n => n, fun | 46 => 84 | 3 => 3 | 51 => 53 | 53 => 56 | 4 => 4 | 5 => 5 | 9 => 9 | n => n, fun | n => n⟩
theorem Tryd.lays125 : Go.Proofs.Lays.n125 Tryd.prog Tryd.lays125_ren := {
  mixed := by kernel_rfl
  f125 := Tryd.func55.trans (congrArg some (by kernel_rfl))
  f128 := Tryd.func75.trans (congrArg some (by kernel_rfl))
  f129 := Tryd.func76.trans (congrArg some (by kernel_rfl))
  t3 := Tryd.underlying3
  a3 := Tryd.isAgg3
  z3 := Tryd.sizeOf3
  v3 := Tryd.zeroValue3
  t4 := Tryd.underlying4
  a4 := Tryd.isAgg4
  z4 := Tryd.sizeOf4
  v4 := Tryd.zeroValue4
  t5 := Tryd.underlying5
  a5 := Tryd.isAgg5
  z5 := Tryd.sizeOf5
  v5 := Tryd.zeroValue5
  t9 := Tryd.underlying9
  a9 := Tryd.isAgg9
  z9 := Tryd.sizeOf9
  v9 := Tryd.zeroValue9
  t46 := Tryd.underlying84
  a46 := Tryd.isAgg84
  z46 := Tryd.sizeOf84
  v46 := Tryd.zeroValue84
  t51 := Tryd.underlying53
  a51 := Tryd.isAgg53
  z51 := Tryd.sizeOf53
  v51 := Tryd.zeroValue53
  t53 := Tryd.underlying56
  a53 := Tryd.isAgg56
  z53 := Tryd.sizeOf56
  v53 := Tryd.zeroValue56 }
theorem Tryd.bits_Len (x : Int) (w : World) (h0 : 0 ≤ x) (h1 : x ≤ 18446744073709551615) :
    Calls Tryd.prog 55 #[.int .u64 x] w fun e w' => e = .returned (.int .i64 (Lib.bitLen x.toNat)) ∧ w' = w := Any.bits_Len Tryd.lays125 x w h0 h1
def Tryd.lays122_ren : Go.Shelf.Ren := ⟨fun | 122 => 40 | 215 => 56 | n => n, fun | 3 => 3 | 4 => 4 | n => n, fun | n => n⟩
theorem Tryd.lays122 : Go.Proofs.Lays.n122 Tryd.prog Tryd.lays122_ren := {
  mixed := by kernel_rfl
  f122 := Tryd.func40.trans (congrArg some (by kernel_rfl))
  f215 := Tryd.func56.trans (congrArg some (by kernel_rfl))
  t3 := Tryd.underlying3
  a3 := Tryd.isAgg3
  z3 := Tryd.sizeOf3
  v3 := Tryd.zeroValue3
  t4 := Tryd.underlying4
  a4 := Tryd.isAgg4
  z4 := Tryd.sizeOf4
  v4 := Tryd.zeroValue4 }
open Go.RowKit in
theorem Tryd.cmp_Compare_int (x y : Int) (w : World) :
    Calls Tryd.prog 40 #[.int .i64 x, .int .i64 y] w fun e w' => e = .returned (.int .i64 (Lib.compareInt x y)) ∧ w' = w := Any.cmp_Compare_int Tryd.lays122 x y w
open Go.RowKit in
theorem Tryd.Builder_Len_f (B b : Nat) (bs : List Value) (w : World) (h : Lib.IsBuilderF 60 5 B b bs w) :
    Calls Tryd.prog 33 #[.pointer (some ⟨b, 0, none⟩)] w fun e w' => e = .returned (.int .i64 bs.length) ∧ w' = w := Any.Builder_Len_f Tryd.lays170 B b bs w h
open Go.RowKit in
theorem Tryd.Builder_String_f (B b : Nat) (l : List UInt8) (w : World) (h : Lib.IsBuilderF 60 5 B b (Lib.byteCells l) w) (h0 : l ≠ []) :
    Calls Tryd.prog 35 #[.pointer (some ⟨b, 0, none⟩)] w fun e w' => e = .returned (.string ⟨l.toArray⟩) ∧ (Lib.IsBuilderF 60 5 B b (Lib.byteCells l) w' ∧ Below B w w') := Any.Builder_String_f Tryd.lays169 Tryd.Builder_Extra_169 B b l w h h0
open Go.RowKit in
theorem Tryd.Builder_String_empty_f (B b : Nat) (w : World) (h : Lib.IsBuilderF 60 5 B b [] w) (hBw : B ≤ w.heap.size) :
    Calls Tryd.prog 35 #[.pointer (some ⟨b, 0, none⟩)] w fun e w' => e = .returned (.string ⟨#[]⟩) ∧ (Lib.IsBuilderF 60 5 B b [] w' ∧ Below B w w') := Any.Builder_String_empty_f Tryd.lays169 Tryd.Builder_Extra_169 B b w h hBw
open Go.RowKit in
theorem Tryd.Builder_String_any_f (B b : Nat) (l : List UInt8) (w : World) (h : Lib.IsBuilderF 60 5 B b (Lib.byteCells l) w) (hBw : B ≤ w.heap.size) :
    Calls Tryd.prog 35 #[.pointer (some ⟨b, 0, none⟩)] w fun e w' => e = .returned (.string ⟨l.toArray⟩) ∧ (Lib.IsBuilderF 60 5 B b (Lib.byteCells l) w' ∧ Below B w w') := Any.Builder_String_any_f Tryd.lays169 Tryd.Builder_Extra_169 B b l w h hBw
open Go.RowKit in
theorem Tryd.Builder_String_k (B b : Nat) (l : List UInt8) (w : World) (h : Lib.IsBuilderF 60 5 B b (Lib.byteCells l) w) (h0 : l ≠ []) :
    Calls Tryd.prog 35 #[.pointer (some ⟨b, 0, none⟩)] w fun e w' => e = .returned (.string ⟨l.toArray⟩) ∧ (Lib.IsBuilderF 60 5 B b (Lib.byteCells l) w' ∧ Below B w w' ∧ Lib.OthersKept 5 (some b) w w') := Any.Builder_String_k Tryd.lays169 Tryd.Builder_Extra_169 B b l w h h0
open Go.RowKit in
theorem Tryd.Builder_String_empty_k (B b : Nat) (w : World) (h : Lib.IsBuilderF 60 5 B b [] w) (hBw : B ≤ w.heap.size) :
    Calls Tryd.prog 35 #[.pointer (some ⟨b, 0, none⟩)] w fun e w' => e = .returned (.string ⟨#[]⟩) ∧ (Lib.IsBuilderF 60 5 B b [] w' ∧ Below B w w' ∧ Lib.OthersKept 5 (some b) w w') := Any.Builder_String_empty_k Tryd.lays169 Tryd.Builder_Extra_169 B b w h hBw
open Go.RowKit in
theorem Tryd.Builder_String_any_k (B b : Nat) (l : List UInt8) (w : World) (h : Lib.IsBuilderF 60 5 B b (Lib.byteCells l) w) (hBw : B ≤ w.heap.size) :
    Calls Tryd.prog 35 #[.pointer (some ⟨b, 0, none⟩)] w fun e w' => e = .returned (.string ⟨l.toArray⟩) ∧ (Lib.IsBuilderF 60 5 B b (Lib.byteCells l) w' ∧ Below B w w' ∧ Lib.OthersKept 5 (some b) w w') := Any.Builder_String_any_k Tryd.lays169 Tryd.Builder_Extra_169 B b l w h hBw
def Tryd.laysM171_ren : Go.Shelf.Ren := ⟨fun | 171 => 32 | 243 => 52 | 246 => 66 | 283 => 81 | 284 => 82 | 285 => 83 | 286 => 84 | 129 => 76 | 317 => 91 | 318 => 92 | 319 => 93 | 320 => 94 | 337 => 96 | 338 => 97 | n => n, fun | 3 => 3 | 9 => 9 | 2 => 2 | 4 => 4 | 171 => 118 | 0 => 0 | 53 => 56 | 37 => 58 | 5 => 5 | 173 => 120 | 212 => 130 | 51 => 53 | 20 => 20 | 213 => 131 | 46 => 84 | 232 => 135 | 233 => 136 | n => n, fun | 17 => 0 | 18 => 1 | 19 => 2 | n => n⟩
theorem Tryd.laysM171 : Go.Proofs.LaysM.n171 Tryd.prog Tryd.laysM171_ren := {
  mixed := by kernel_rfl
  f129 := Tryd.func76.trans (congrArg some (by kernel_rfl))
  f171 := Tryd.func32.trans (congrArg some (by kernel_rfl))
  f243 := Tryd.func52.trans (congrArg some (by kernel_rfl))
  f246 := Tryd.func66.trans (congrArg some (by kernel_rfl))
  f283 := Tryd.func81.trans (congrArg some (by kernel_rfl))
  f284 := Tryd.func82.trans (congrArg some (by kernel_rfl))
  f285 := Tryd.func83.trans (congrArg some (by kernel_rfl))
  f286 := Tryd.func84.trans (congrArg some (by kernel_rfl))
  f317 := Tryd.func91.trans (congrArg some (by kernel_rfl))
  f318 := Tryd.func92.trans (congrArg some (by kernel_rfl))
  f319 := Tryd.func93.trans (congrArg some (by kernel_rfl))
  f320 := Tryd.func94.trans (congrArg some (by kernel_rfl))
  f337 := Tryd.func96.trans (congrArg some (by kernel_rfl))
  f338 := Tryd.func97.trans (congrArg some (by kernel_rfl))
  t0 := Tryd.underlying0
  a0 := Tryd.isAgg0
  z0 := Tryd.sizeOf0
  v0 := Tryd.zeroValue0
  t2 := Tryd.underlying2
  a2 := Tryd.isAgg2
  z2 := Tryd.sizeOf2
  v2 := Tryd.zeroValue2
  t3 := Tryd.underlying3
  a3 := Tryd.isAgg3
  z3 := Tryd.sizeOf3
  v3 := Tryd.zeroValue3
  t4 := Tryd.underlying4
  a4 := Tryd.isAgg4
  z4 := Tryd.sizeOf4
  v4 := Tryd.zeroValue4
  t5 := Tryd.underlying5
  a5 := Tryd.isAgg5
  z5 := Tryd.sizeOf5
  v5 := Tryd.zeroValue5
  t9 := Tryd.underlying9
  a9 := Tryd.isAgg9
  z9 := Tryd.sizeOf9
  v9 := Tryd.zeroValue9
  t20 := Tryd.underlying20
  a20 := Tryd.isAgg20
  z20 := Tryd.sizeOf20
  v20 := Tryd.zeroValue20
  t37 := Tryd.underlying58
  a37 := Tryd.isAgg58
  z37 := Tryd.sizeOf58
  v37 := Tryd.zeroValue58
  t46 := Tryd.underlying84
  a46 := Tryd.isAgg84
  z46 := Tryd.sizeOf84
  v46 := Tryd.zeroValue84
  t51 := Tryd.underlying53
  a51 := Tryd.isAgg53
  z51 := Tryd.sizeOf53
  v51 := Tryd.zeroValue53
  t53 := Tryd.underlying56
  a53 := Tryd.isAgg56
  z53 := Tryd.sizeOf56
  v53 := Tryd.zeroValue56
  t171 := Tryd.underlying118
  a171 := Tryd.isAgg118
  z171 := Tryd.sizeOf118
  v171 := Tryd.zeroValue118
  t173 := Tryd.underlying120
  a173 := Tryd.isAgg120
  z173 := Tryd.sizeOf120
  v173 := Tryd.zeroValue120
  t212 := Tryd.underlying130
  a212 := Tryd.isAgg130
  z212 := Tryd.sizeOf130
  v212 := Tryd.zeroValue130
  t213 := Tryd.underlying131
  a213 := Tryd.isAgg131
  z213 := Tryd.sizeOf131
  t232 := Tryd.underlying135
  a232 := Tryd.isAgg135
  z232 := Tryd.sizeOf135
  v232 := Tryd.zeroValue135
  t233 := Tryd.underlying136
  a233 := Tryd.isAgg136
  z233 := Tryd.sizeOf136
  v233 := Tryd.zeroValue136
  g17 := by kernel_rfl
  g18 := by kernel_rfl
  g19 := by kernel_rfl
  i0 := by kernel_rfl
  i2 := by kernel_rfl
  i3 := by kernel_rfl
  i4 := by kernel_rfl
  i5 := by kernel_rfl
  i9 := by kernel_rfl
  i20 := by kernel_rfl
  i37 := by kernel_rfl
  i46 := by kernel_rfl
  i51 := by kernel_rfl
  i53 := by kernel_rfl
  i171 := by kernel_rfl
  i173 := by kernel_rfl
  i212 := by kernel_rfl
  i232 := by kernel_rfl
  i233 := by kernel_rfl
  m17 := by kernel_rfl
  m18 := by kernel_rfl
  m19 := by kernel_rfl }
open Go.RowKit Go.Sort Go.Lib in
theorem Tryd.strconv_Itoa (n : Int) (h0 : -9223372036854775808 ≤ n) (h1 : n ≤ 9223372036854775807) (w : World) (htab : Lib.TabIs Tryd.prog w "internal/strconv.uint64pow10" .u64 Lib.pow10Tab) :
    Calls Tryd.prog 32 #[.int .i64 n] w fun e w' => e = .returned (.string ⟨(Lib.itoa n).toArray⟩) ∧ ∃ k os, w' = grow (w.drewN k) os := Any.strconv_Itoa Tryd.laysM171 n h0 h1 w htab
def Tryd.lays171_ren : Go.Shelf.Ren := ⟨fun | 171 => 32 | 243 => 52 | 246 => 66 | 283 => 81 | 284 => 82 | 285 => 83 | 286 => 84 | 129 => 76 | 317 => 91 | 318 => 92 | 319 => 93 | 320 => 94 | 337 => 96 | 338 => 97 | n => n, fun | 3 => 3 | 9 => 9 | 2 => 2 | 4 => 4 | 171 => 118 | 0 => 0 | 53 => 56 | 37 => 58 | 5 => 5 | 173 => 120 | 212 => 130 | 51 => 53 | 20 => 20 | 213 => 131 | 46 => 84 | 232 => 135 | 233 => 136 | n => n, fun | 17 => 0 | 18 => 1 | 19 => 2 | n => n⟩
theorem Tryd.lays171 : Go.Proofs.Lays.n171 Tryd.prog Tryd.lays171_ren := {
  mixed := by kernel_rfl
  f129 := Tryd.func76.trans (congrArg some (by kernel_rfl))
  f171 := Tryd.func32.trans (congrArg some (by kernel_rfl))
  f243 := Tryd.func52.trans (congrArg some (by kernel_rfl))
  f246 := Tryd.func66.trans (congrArg some (by kernel_rfl))
  f283 := Tryd.func81.trans (congrArg some (by kernel_rfl))
  f284 := Tryd.func82.trans (congrArg some (by kernel_rfl))
  f285 := Tryd.func83.trans (congrArg some (by kernel_rfl))
  f286 := Tryd.func84.trans (congrArg some (by kernel_rfl))
  f317 := Tryd.func91.trans (congrArg some (by kernel_rfl))
  f318 := Tryd.func92.trans (congrArg some (by kernel_rfl))
  f319 := Tryd.func93.trans (congrArg some (by kernel_rfl))
  f320 := Tryd.func94.trans (congrArg some (by kernel_rfl))
  f337 := Tryd.func96.trans (congrArg some (by kernel_rfl))
  f338 := Tryd.func97.trans (congrArg some (by kernel_rfl))
  t0 := Tryd.underlying0
  a0 := Tryd.isAgg0
  z0 := Tryd.sizeOf0
  v0 := Tryd.zeroValue0
  t2 := Tryd.underlying2
  a2 := Tryd.isAgg2
  z2 := Tryd.sizeOf2
  v2 := Tryd.zeroValue2
  t3 := Tryd.underlying3
  a3 := Tryd.isAgg3
  z3 := Tryd.sizeOf3
  v3 := Tryd.zeroValue3
  t4 := Tryd.underlying4
  a4 := Tryd.isAgg4
  z4 := Tryd.sizeOf4
  v4 := Tryd.zeroValue4
  t5 := Tryd.underlying5
  a5 := Tryd.isAgg5
  z5 := Tryd.sizeOf5
  v5 := Tryd.zeroValue5
  t9 := Tryd.underlying9
  a9 := Tryd.isAgg9
  z9 := Tryd.sizeOf9
  v9 := Tryd.zeroValue9
  t20 := Tryd.underlying20
  a20 := Tryd.isAgg20
  z20 := Tryd.sizeOf20
  v20 := Tryd.zeroValue20
  t37 := Tryd.underlying58
  a37 := Tryd.isAgg58
  z37 := Tryd.sizeOf58
  v37 := Tryd.zeroValue58
  t46 := Tryd.underlying84
  a46 := Tryd.isAgg84
  z46 := Tryd.sizeOf84
  v46 := Tryd.zeroValue84
  t51 := Tryd.underlying53
  a51 := Tryd.isAgg53
  z51 := Tryd.sizeOf53
  v51 := Tryd.zeroValue53
  t53 := Tryd.underlying56
  a53 := Tryd.isAgg56
  z53 := Tryd.sizeOf56
  v53 := Tryd.zeroValue56
  t171 := Tryd.underlying118
  a171 := Tryd.isAgg118
  z171 := Tryd.sizeOf118
  v171 := Tryd.zeroValue118
  t173 := Tryd.underlying120
  a173 := Tryd.isAgg120
  z173 := Tryd.sizeOf120
  v173 := Tryd.zeroValue120
  t212 := Tryd.underlying130
  a212 := Tryd.isAgg130
  z212 := Tryd.sizeOf130
  v212 := Tryd.zeroValue130
  t213 := Tryd.underlying131
  a213 := Tryd.isAgg131
  z213 := Tryd.sizeOf131
  t232 := Tryd.underlying135
  a232 := Tryd.isAgg135
  z232 := Tryd.sizeOf135
  v232 := Tryd.zeroValue135
  t233 := Tryd.underlying136
  a233 := Tryd.isAgg136
  z233 := Tryd.sizeOf136
  v233 := Tryd.zeroValue136
  g17 := by kernel_rfl
  g18 := by kernel_rfl
  g19 := by kernel_rfl }
open Go.RowKit Go.Sort Go.Lib in
theorem Tryd.strconv_Itoa_small (i : Nat) (hi : i < 100) (w : World) :
    Calls Tryd.prog 32 #[.int .i64 i] w fun e w' => e = .returned (.string ⟨(Lib.decDigits i).toArray⟩) ∧ w' = w := Any.strconv_Itoa_small Tryd.lays171 i hi w
end Go.Proofs

namespace Go.Proofs.YtkdhcpfmlelfcaaDoor
set_option linter.unusedVariables false
set_option linter.unusedSimpArgs false
set_option maxRecDepth 100000
open Go Go.RowKit Go.Shelf Go.Lib Go.Sort

/-- A part whose limbs are a slice. -/
abbrev Pq := Int × Bool × Option Addr × Nat × Nat × Int
def toPt (x : Pq) : Pt := (x.1, x.2.1, .slice x.2.2.1 x.2.2.2.1 x.2.2.2.2.1, x.2.2.2.2.2)
def encP (x : Pq) : List Value := ptCells (toPt x)
theorem sl_list : ∀ {M : List Pt}, Sl M → ∃ D : List Pq, D.map toPt = M
  | [], _ => ⟨[], rfl⟩
  | m :: M, h => by
    obtain ⟨D, hD⟩ := sl_list (M := M) (fun x hx => h x (by simp [hx]))
    obtain ⟨a, L, c, e⟩ := h m (by simp)
    refine ⟨(m.1, m.2.1, a, L, c, m.2.2.2) :: D, ?_⟩
    rw [List.map_cons, hD]
    congr 1
    unfold toPt
    simp only
    rw [← e]
theorem sl_map (D : List Pq) : Sl (D.map toPt) := fun m hm => by
  obtain ⟨x, _, rfl⟩ := List.mem_map.1 hm
  exact ⟨_, _, _, rfl⟩

set_option maxHeartbeats 1000000 in
theorem order_calls (x y : Pq) (W : World) : Calls Tryd.prog 39 #[.agg (encP x).toArray, .agg (encP y).toArray] W fun e w' => e = .returned (.int .i64 (Lib.compareInt x.1 y.1)) ∧ ∃ q os', w' = grow (W.drewN q) os' := by
  have hcon := fun W' => AnyG.cmp_Compare_int Tryd.cmpInt x.1 y.1 W'
  change ∀ W', Calls Tryd.prog 40 _ _ _ at hcon
  generalize Lib.compareInt x.1 y.1 = r at hcon ⊢
  obtain ⟨x1, x2, x3, x4, x5, x6⟩ := x
  obtain ⟨y1, y2, y3, y4, y5, y6⟩ := y
  simp only [encP, toPt, ptCells] at hcon ⊢
  go_enter Tryd.func39, Tryd.ntmps39
  go_wp2_with (go_at_call 40; refine (hcon _).mono ?_; rintro e w' ⟨rfl, rfl⟩)
  go_ret
  exact ⟨rfl, 0, _, by rw [alloc_eq_grow, alloc_eq_grow, grow_grow]; rfl⟩

theorem hlen12 (n : Nat) (W : World) (h : n ≤ 12) : Calls Tryd.prog 55 #[.int .u64 n] W fun e w' => (∃ l : Int, e = .returned (.int .i64 l)) ∧ w' = W :=
  (Tryd.bits_Len n W (by omega) (by omega)).mono fun _ _ ⟨he, hw⟩ => ⟨⟨_, he⟩, hw⟩

theorem compare_lt {x y : Int} : (Lib.compareInt x y < 0) ↔ x < y := by
  unfold Lib.compareInt
  split
  · simp [*]
  · split <;> simp <;> omega
theorem swoP : SWO (Go.Proofs.ltOf fun x y : Pq => Lib.compareInt x.1 y.1) := by
  refine ⟨fun x => ?_, fun x y z h1 h2 => ?_, fun x y z h1 h2 => ?_⟩
  · exact decide_eq_false (by rw [compare_lt]; omega)
  · have a := of_decide_eq_true h1
    have b := of_decide_eq_true h2
    rw [compare_lt] at a b
    exact decide_eq_true (by rw [compare_lt]; omega)
  · have a := of_decide_eq_false h1
    have b := of_decide_eq_false h2
    rw [compare_lt] at a b
    exact decide_eq_false (by rw [compare_lt]; omega)

theorem flat_get (D : List Pq) {j : Nat} (h : j < D.length * 3) : (flatK encP 3 D.toArray)[j]? = (pcells (D.map toPt))[j]? := by
  have hs : (flatK encP 3 D.toArray).size = D.length * 3 := by simp
  have h1 : (flatK encP 3 D.toArray)[j]? = some (flatK encP 3 D.toArray)[j]! := by
    rw [Array.getElem?_eq_getElem (by rw [hs]; exact h), getElem!_pos _ _ (by rw [hs]; exact h)]
  have hq : j / 3 < D.length := by omega
  rw [h1, get_flatK _ _ _ _ (by simpa using h)]
  have h2 := pcells_get (D.map toPt) (j / 3) (toPt D[j / 3]) (by rw [List.getElem?_map, List.getElem?_eq_getElem hq]; rfl) (j % 3) (Nat.mod_lt _ (by decide))
  rw [show j / 3 * 3 + j % 3 = j by omega] at h2
  rw [h2]
  have e : D.toArray[j / 3]! = D[j / 3] := by rw [getElem!_pos _ _ (by simpa using hq)]; simp
  rw [e]
  have hl : j % 3 < (ptCells (toPt D[j / 3])).length := Nat.mod_lt _ (by decide)
  show some (ptCells (toPt D[j / 3]))[j % 3]! = _
  rw [List.getElem?_eq_getElem hl, getElem!_pos (ptCells (toPt D[j / 3])) _ hl]

theorem size_putCells (F c : Array Value) : (putCells id 0 F c).size = c.size := by simp [putCells]
theorem get_putCells (F c : Array Value) (j : Nat) (h : j < F.size) (hc : j < c.size) : (putCells id 0 F c)[j]? = F[j]? := by
  rw [Array.getElem?_eq_getElem h]
  simp [putCells, hc, h]
theorem get_putCells_out (F c : Array Value) (j : Nat) (h : F.size ≤ j) : (putCells id 0 F c)[j]? = c[j]? := by
  have : ¬ j < F.size := by omega
  simp [putCells, this]
theorem sort_block (w : World) (g : Nat) (cur : Array Value) (d : Array Pq) (n : Nat) (os : Array Obj) (h : w.heap[g]? = some (.cells cur 31 (0, 0))) (hg : g < w.heap.size) :
    (sortWorldK encP 3 w g 0 n d os).heap[g]? = some (.cells (putCells id 0 (flatK encP 3 d) cur) 31 (0, 0)) := by
  unfold sortWorldK
  rw [Go.Sort.heap_grow_old _ _ (by rw [size_putRowK]; exact hg)]
  show (mapBlock (Sort.ahead w n) g _).heap[g]? = _
  simp only [mapBlock, Array.getElem?_modify, if_true]
  show Option.map _ w.heap[g]? = _
  rw [h]
  rfl
theorem other_block (w : World) (g k : Nat) (hk : k ≠ g) (n : Nat) (d : Array Pq) : (putRowK encP 3 (Sort.ahead w n) g 0 d).heap[k]? = w.heap[k]? := by
  show (mapBlock (Sort.ahead w n) g _).heap[k]? = _
  simp only [mapBlock, Array.getElem?_modify]
  rw [if_neg (fun e => hk e.symm)]
  rfl

def SortE (n₀ g cap : Nat) (w : World) (M : List Pt) (e : Ending) (w' : World) : Prop :=
  ∃ M', e = .returned (.tuple #[]) ∧ M'.Perm M ∧ M'.Pairwise (fun a b => a.1 ≤ b.1) ∧ OwnP n₀ w' (.slice (some ⟨g, 0, none⟩) M.length cap) M' ∧ Fr32 n₀ w w'

theorem sort_calls {n₀ g cap : Nat} {w : World} {M : List Pt} (hown : OwnP n₀ w (.slice (some ⟨g, 0, none⟩) M.length cap) M) (hsl : Sl M) (h12 : M.length ≤ 12) :
    Calls Tryd.prog 38 #[.slice (some ⟨g, 0, none⟩) M.length cap, .func (.func 39) #[] #[]] w fun e w' => SortE n₀ g cap w M e w' := by
  obtain ⟨D, rfl⟩ := sl_list hsl
  have eg : ∀ args w, (callFunc 39 args).run Tryd.prog w = .ok (.enter 39 args) w := enters_of Tryd.func39 (by kernel_rfl) rfl
  have hlt := hown.lt (j := g) rfl
  have hlen : (D.map toPt).length = D.toArray.size := by simp
  rcases hown.1.2 with ⟨hv, hn⟩ | ⟨g', cp, cur, hv, h1, h2, h3, h4, h5, h6⟩
  · cases hv
  cases hv
  have hold : ∀ j, w.cell? ⟨g, j, none⟩ = cur.toList[j]? := by
    intro j
    unfold World.cell?
    simp only [h2]
    simp
  have hcur : cur.toList.take (D.length * 3) = pcells (D.map toPt) := by
    have := h6
    rw [List.length_map] at this
    exact this
  have hH : HoldsK encP 3 w g 0 D.toArray := by
    intro j hj
    have hj3 : j < D.length * 3 := by simpa using hj
    refine ⟨?_, frozen_of_row w g _ _ _ h2⟩
    have e1 := flat_get D hj3
    rw [Array.getElem?_eq_getElem hj] at e1
    show w.cell? ⟨g, 0 + j, none⟩ = some (flatK encP 3 D.toArray)[j]!
    rw [Nat.zero_add, hold, getElem!_pos (flatK encP 3 D.toArray) _ hj, e1, ← hcur, List.getElem?_take, if_pos hj3]
  have hcon := AnyQ.slices_SortFunc_small_sorted Tryd.sortP 3 Tryd.isAgg31 Tryd.sizeOf31 encP (fun _ => rfl) (fun x v hv => by
    simp only [encP, ptCells, toPt, List.mem_cons, List.mem_nil_iff, or_false] at hv
    rcases hv with rfl | rfl | rfl <;> rfl) (fun x y => Lib.compareInt x.1 y.1) 39 #[] swoP g 0 cap D.toArray w eg (fun _ _ _ _ x y => order_calls x y _) hH hlt.2 (by rw [← hlen]; exact h12) hlen12
  rw [hlen]
  refine Calls.mono (P := Tryd.prog) hcon ?_
  rintro e w' ⟨rfl, d', n, os, hperm, hsort, rfl⟩
  have hds : d'.size = D.length := by have := hperm.1; simpa using this
  have hp2 : d'.toList.Perm D := by
    have := hperm.2.2
    rw [Array.extract_size, show d'.extract 0 D.toArray.size = d' by rw [← hperm.1]; exact Array.extract_size] at this
    simpa using this
  have hdl : d'.toList.length = D.length := by rw [Array.length_toList]; exact hds
  refine ⟨d'.toList.map toPt, rfl, hp2.map _, ?_, ?_, ?_⟩
  · refine List.pairwise_map.2 (List.pairwise_iff_getElem.2 fun i j hi hj hij => ?_)
    have hj2 : j < d'.size := by simpa using hj
    have hi2 : i < d'.size := by simpa using hi
    have h8 := hsort i j (Nat.zero_le _) hij (by rw [hds] at hj2; simpa using hj2)
    have h9 := of_decide_eq_false h8
    rw [compare_lt, getElem!_pos d' _ hj2, getElem!_pos d' _ hi2] at h9
    simp only [Array.getElem_toList]
    show d'[i].1 ≤ d'[j].1
    omega
  · have hb := sort_block w g cur d' n os h2 hlt.2
    have hcs : cur.size = cap * 3 := h5
    have hml : (d'.toList.map toPt).length = D.length := by rw [List.length_map]; exact hdl
    refine ⟨⟨by rw [pcells_length]; rfl, .inr ⟨g, cap, _, by rw [hml]; simp, h1, hb, by rw [hml]; simpa using h3, h4, by rw [size_putCells]; exact h5, ?_⟩⟩, ?_⟩
    · rw [hml]
      show List.take (D.length * 3) _ = _
      apply List.ext_getElem?
      intro j
      rw [List.getElem?_take]
      by_cases hj : j < D.length * 3
      · have hj2 : j < cur.size := by
          have : D.length ≤ cap := by simpa using h3
          rw [hcs]
          omega
        have e3 := flat_get d'.toList (j := j) (by rw [hdl]; exact hj)
        rw [if_pos hj, Array.getElem?_toList, get_putCells _ _ _ (by rw [size_flatK, hds]; exact hj) hj2, ← e3]
      · rw [if_neg hj, List.getElem?_eq_none (by rw [pcells_length, hml]; omega)]
    · intro g2 j u hg hj hc
      simp only [Value.ownBlock, Option.some.injEq] at hg
      subst hg
      rw [hml, zPart_size] at hj
      have hc2 : (putCells id 0 (flatK encP 3 d') cur)[j]? = some u := by
        unfold World.cell? at hc
        simp only [hb] at hc
        simpa using hc
      rw [get_putCells_out _ _ _ (by rw [size_flatK, hds]; exact hj)] at hc2
      refine hown.2 g j u rfl (by rw [List.length_map, zPart_size]; exact hj) ?_
      rw [hold, Array.getElem?_toList]
      exact hc2
  · refine ⟨⟨rfl, rfl, rfl, ?_, fun k hk => ?_⟩, ?_⟩
    · have := size_sortWorldK_c encP 3 w g 0 n d' os
      exact this
    · unfold sortWorldK
      rw [Go.Sort.heap_grow_old _ _ (by rw [size_putRowK]; show k < w.heap.size; omega)]
      exact other_block w g k (by omega) n d'
    · intro a x hx
      have hal : a.block < w.heap.size := block_lt_of_cell hx
      unfold sortWorldK
      rw [cell?_grow _ _ _ (by rw [size_putRowK]; exact hal)]
      have hne : a.block ≠ g ∨ a.off < 0 ∨ 0 + (flatK encP 3 d').size ≤ a.off := by
        by_cases hb : a.block = g
        · refine .inr (.inr ?_)
          rw [size_flatK, hds]
          rcases Nat.lt_or_ge a.off (D.length * 3) with h | h
          · exfalso
            obtain ⟨ab, ao, asp⟩ := a
            have hs2 : asp = none := World.cell?_spot hx
            subst hs2
            simp only at hb h
            subst hb
            have hq : ao / 3 < D.length := by omega
            have h7 := pcells_get (D.map toPt) (ao / 3) (toPt D[ao / 3]) (by rw [List.getElem?_map, List.getElem?_eq_getElem hq]; rfl) (ao % 3) (Nat.mod_lt _ (by decide))
            rw [show ao / 3 * 3 + ao % 3 = ao by omega, ← hcur, List.getElem?_take, if_pos h, ← hold, hx] at h7
            exact not32 (m := toPt D[ao / 3]) ⟨_, _, _, rfl⟩ h7.symm x rfl
          · omega
        · exact .inl hb
      exact (cell?_putRow_other id (Sort.ahead w n) g 0 (flatK encP 3 d') a hne).trans hx

end Go.Proofs.YtkdhcpfmlelfcaaDoor

namespace Go.Proofs.YtkdhcpfmlelfcaaDoor
set_option linter.unusedVariables false
set_option linter.unusedSimpArgs false
set_option maxRecDepth 100000
open Go Go.RowKit Go.Shelf Go.Lib

/-- A number of the reference's, as an argument: its sign, and its digits, no more than K. -/
def NArg (K : Nat) (W : World) (v : Value) (z : Int) : Prop := ∃ neg dv n, v = .agg #[.bool neg, dv] ∧ RRes W dv n ∧ n < 10 ^ K ∧ z = sgn neg n
/-- A number of the reference's, as an answer: in its one form. -/
def NRes (W : World) (v : Value) (z : Int) : Prop := ∃ dv, v = .agg #[.bool (decide (z < 0)), dv] ∧ RRes W dv z.natAbs

theorem NArg.below {K : Nat} {W W' : World} {v : Value} {z : Int} (h : NArg K W v z) (hb : Below W.heap.size W W') : NArg K W' v z := by
  obtain ⟨neg, dv, n, h1, h2, h3⟩ := h
  exact ⟨neg, dv, n, h1, h2.below hb, h3⟩
theorem NRes.below {W W' : World} {v : Value} {z : Int} (h : NRes W v z) (hb : Below W.heap.size W W') : NRes W' v z := by
  obtain ⟨dv, h1, h2⟩ := h
  exact ⟨dv, h1, h2.below hb⟩
theorem NRes.arg {K : Nat} {W : World} {v : Value} {z : Int} (h : NRes W v z) (hz : z.natAbs < 10 ^ K) : NArg K W v z := by
  obtain ⟨dv, h1, h2⟩ := h
  exact ⟨_, dv, _, h1, h2, hz, (sgn_abs z).symm⟩
theorem NRes.form {W : World} {v : Value} {z : Int} (h : NRes W v z) : ∃ b a L c, v = .agg #[.bool b, .slice a L c] := by
  obtain ⟨dv, rfl, hm⟩ := h
  obtain ⟨a, L, c, rfl, _⟩ := hm.shape
  exact ⟨_, _, _, _, rfl⟩

theorem Digs.put {W : World} {b : Nat} {bx : Bool} {ay : Option Addr} {Ly cy : Nat} {t : TypeId} {v : Value} {zs : List Nat} (h : Digs W v zs) (T : Two W b (.bool bx) (.slice ay Ly cy) t) (p q : Value) :
    Digs ((W.setCell ⟨b, 0, none⟩ p).setCell ⟨b, 1, none⟩ q) v zs := by
  obtain ⟨ao, cap, e, h1, h3, h4⟩ := h
  refine ⟨ao, cap, e, h1, h3, fun j hj => ?_⟩
  obtain ⟨bb, off, e2, hc⟩ := h4 j hj
  exact ⟨bb, off, e2, cell_set T p q hc⟩
theorem RRes.put {W : World} {b : Nat} {bx : Bool} {ay : Option Addr} {Ly cy : Nat} {t : TypeId} {v : Value} {n : Nat} (h : RRes W v n) (T : Two W b (.bool bx) (.slice ay Ly cy) t) (p q : Value) :
    RRes ((W.setCell ⟨b, 0, none⟩ p).setCell ⟨b, 1, none⟩ q) v n := by
  obtain ⟨xs, h1, h2⟩ := h
  exact ⟨xs, h1.put T p q, h2⟩
theorem NRes.put {W : World} {b : Nat} {bx : Bool} {ay : Option Addr} {Ly cy : Nat} {t : TypeId} {v : Value} {z : Int} (h : NRes W v z) (T : Two W b (.bool bx) (.slice ay Ly cy) t) (p q : Value) :
    NRes ((W.setCell ⟨b, 0, none⟩ p).setCell ⟨b, 1, none⟩ q) v z := by
  obtain ⟨mv, h1, h2⟩ := h
  exact ⟨mv, h1, h2.put T p q⟩

theorem nres_mk {W : World} {dv : Value} {n : Nat} (hd : RRes W dv n) (neg b : Bool) (hb : b = (neg && decide (n ≠ 0))) : NRes W (.agg #[.bool b, dv]) (sgn neg n) := by
  have e1 : (sgn neg n).natAbs = n := by
    unfold sgn
    cases neg <;> simp
  have e2 : decide (sgn neg n < 0) = b := by
    rw [hb]
    unfold sgn
    cases neg
    · simp
    · by_cases h : n = 0
      · subst h; rfl
      · simp [h]; omega
  exact ⟨dv, by rw [e2], by rw [e1]; exact hd⟩

/-- The memory of a row, of a number's digits, lies behind a place. -/
def FrV (n : Nat) (v : Value) : Prop := ∀ a L c, v = .slice (some a) L c → n ≤ a.block
def Fr (n : Nat) (v : Value) : Prop := ∃ b dv, v = .agg #[.bool b, dv] ∧ FrV n dv
theorem FrV.mono {n m : Nat} {v : Value} (h : FrV n v) (hm : m ≤ n) : FrV m v := fun a L c e => Nat.le_trans hm (h a L c e)
theorem Fr.mono {n m : Nat} {v : Value} (h : Fr n v) (hm : m ≤ n) : Fr m v := by
  obtain ⟨b, dv, e, h1⟩ := h
  exact ⟨b, dv, e, h1.mono hm⟩
theorem Fr.nil (n : Nat) (b : Bool) : Fr n (.agg #[.bool b, .slice none 0 0]) := ⟨b, _, rfl, fun a L c e => by cases e⟩
theorem RNew.fr {n₀ : Nat} {W : World} {v : Value} {n : Nat} (h : RNew n₀ W v n) : FrV n₀ v := by
  obtain ⟨ds, h1, _⟩ := h
  intro a L c e
  subst e
  exact (World.ownsRow.lt h1 a.block rfl).1

theorem lt19 {n : Nat} (h : n ≤ 9223372036854775808) : n < 10 ^ 20 := Nat.lt_of_le_of_lt h (by decide)

theorem RRes.lit {W : World} {neg : Bool} {dv : Value} {n K : Nat} (h : RRes W dv n) (hn : n < 10 ^ K) : NArg K W (.agg #[.bool neg, dv]) (sgn neg n) := ⟨neg, dv, n, rfl, h, hn, rfl⟩

end Go.Proofs.YtkdhcpfmlelfcaaDoor

namespace Go.Proofs.YtkdhcpfmlelfcaaDoor
set_option linter.unusedVariables false
set_option linter.unusedSimpArgs false
set_option maxRecDepth 100000
open Go Go.RowKit Go.Shelf Go.Lib

theorem Reads.unique {l : List Nat} {a b : Bool} {m n : Nat} (h : Reads l a m) (k : Reads l b n) : a = b ∧ m = n := by
  rcases h with ⟨rfl, h2, h3, h4, rfl, h6⟩ | ⟨rfl, h2, h3, rfl⟩ <;> rcases k with ⟨rfl, k2, k3, k4, rfl, k6⟩ | ⟨rfl, k2, k3, rfl⟩
  · exact ⟨rfl, rfl⟩
  · exact absurd ⟨h2, h3⟩ k2
  · exact absurd ⟨k2, k3⟩ h2
  · exact ⟨rfl, rfl⟩

/-- Three numbers in blocks. -/
def Tri (W : World) (b1 b2 b3 : Nat) (x1 y1 x2 y2 x3 y3 : Value) : Prop := Two W b1 x1 y1 24 ∧ Two W b2 x2 y2 24 ∧ Two W b3 x3 y3 24
theorem Tri.keep {W W' : World} {b1 b2 b3 : Nat} {x1 y1 x2 y2 x3 y3 : Value} (h : Tri W b1 b2 b3 x1 y1 x2 y2 x3 y3) (hb : Below W.heap.size W W') : Tri W' b1 b2 b3 x1 y1 x2 y2 x3 y3 := ⟨h.1.keep hb, h.2.1.keep hb, h.2.2.keep hb⟩
theorem Tri.cells {W : World} {b1 b2 b3 : Nat} {x1 y1 x2 y2 x3 y3 : Value} (h : Tri W b1 b2 b3 x1 y1 x2 y2 x3 y3) :
    W.cell? ⟨b1, 0, none⟩ = some x1 ∧ W.cell? ⟨b1, 1, none⟩ = some y1 ∧ W.cell? ⟨b2, 0, none⟩ = some x2 ∧ W.cell? ⟨b2, 1, none⟩ = some y2 ∧ W.cell? ⟨b3, 0, none⟩ = some x3 ∧ W.cell? ⟨b3, 1, none⟩ = some y3 :=
  ⟨h.1.c0, h.1.c1, h.2.1.c0, h.2.1.c1, h.2.2.c0, h.2.2.c1⟩

theorem reads12 : Reads (bl ⟨#[45, 49, 50]⟩) true 12 :=
  .inl ⟨rfl, by decide, by decide, ⟨by decide, by decide, AllDig.of_mem (by decide)⟩, by decide, by decide⟩

theorem text30 : itoa (-30) = [45, 51, 48] := by
  unfold itoa
  rw [if_pos (by decide)]
  show 45 :: decDigits 30 = _
  rw [decDigits_big (by decide), decDigits_small (by decide)]
  rfl

theorem quo7 : ((-7 : Int) / 2) = -4 := by decide
theorem rem7 : ((-7 : Int) % 2) = 1 := by decide

theorem lt_R1 {z : Int} (h : z.natAbs ≤ 1000) : z.natAbs < R ^ 1 := by
  rw [Nat.pow_one, R_eq]
  omega
theorem lt_D4 {z : Int} (h : z.natAbs ≤ 1000) : z.natAbs < 10 ^ 4 := Nat.lt_of_le_of_lt h (by decide)

end Go.Proofs.YtkdhcpfmlelfcaaDoor

namespace Go.Proofs.YtkdhcpfmlelfcaaDoor
set_option linter.unusedVariables false
set_option linter.unusedSimpArgs false
set_option maxRecDepth 100000
open Go Go.RowKit Go.Shelf Go.Lib Go.ChangeShapes Go.WideShapes

theorem bl_add {x y : Int} {k : Nat} (h : x.natAbs < R ^ k) (g : y.natAbs < R ^ k) : (x + y).natAbs < R ^ (k + 1) :=
  Nat.lt_of_le_of_lt (Int.natAbs_add_le x y) (lt_add h g)
theorem bl_neg {x : Int} {k : Nat} (h : x.natAbs < R ^ k) : (-x).natAbs < R ^ k := by rw [Int.natAbs_neg]; exact h
theorem bl_sub {x y : Int} {k : Nat} (h : x.natAbs < R ^ k) (g : y.natAbs < R ^ k) : (x - y).natAbs < R ^ (k + 1) := by
  rw [Int.sub_eq_add_neg]
  exact bl_add h (bl_neg g)
theorem bl_mul {x y : Int} {j k : Nat} (h : x.natAbs < R ^ j) (g : y.natAbs < R ^ k) : (x * y).natAbs < R ^ (j + k) := by
  rw [Int.natAbs_mul]
  exact lt_mul h g
theorem bl_up {x : Int} {k : Nat} (h : x.natAbs < R ^ k) : x.natAbs < R ^ (k + 1) := lt_up h (by omega)
theorem bl_zero : (0 : Int).natAbs < R ^ 1 := by decide
theorem bl_limbs {na : Bool} {xs : List Nat} (hs : Small R xs) (hl : xs.length ≤ 8) : (sgn na (val R xs)).natAbs < R ^ 8 := by
  have e : (sgn na (val R xs)).natAbs = val R xs := by unfold sgn; split <;> simp
  rw [e]
  exact Nat.lt_of_lt_of_le (val_lt hs) (Nat.pow_le_pow_right R_pos hl)

theorem sign_zero {w : World} {v : Value} {z : Int} (hv : BArg w v z) (h : z = 0) :
    Calls Tryd.prog 34 #[v] w fun e w' => e = .returned (.int .i64 0) ∧ Below w.heap.size w w' := by
  subst h
  exact sign_calls hv

theorem sq_sum (x y : Int) : 0 ≤ x * x + y * y := by
  have h1 : 0 ≤ x * x := by
    rcases Int.le_total 0 x with h | h
    · exact Int.mul_nonneg h h
    · exact Int.mul_nonneg_of_nonpos_of_nonpos h h
  have h2 : 0 ≤ y * y := by
    rcases Int.le_total 0 y with h | h
    · exact Int.mul_nonneg h h
    · exact Int.mul_nonneg_of_nonpos_of_nonpos h h
  omega

theorem cellsBig : Tryd.prog.cellsOf 24 = 2 := by kernel_rfl
theorem cellsSl : Tryd.prog.cellsOf 22 = 1 := by kernel_rfl
theorem cellsBool : Tryd.prog.cellsOf 4 = 1 := by kernel_rfl

/-- A slice of limbs that came in as a part of a struct. -/
theorem limbs_part {H : Type} {enc : TypeId × Value → H} {W : World} {fuel : Nat} {c : Value} {x : DataW H × List MemPlace}
    (hf : DataW.trod enc Tryd.prog W 0 (fun _ => true) true fuel 22 [c] = some x)
    (hsz : ∀ elems spare, x.1 = .slice elems spare → (elems.length + spare.length) * 4 ≤ reachBytes) : ∃ xs, Limbs W c xs := by
  rcases open_ints Tryd.underlying22 Tryd.underlying53 cellsU32 hf with ⟨hcs, _⟩ | ⟨y, len0, cap0, zs, hcs, _, hl, hm, hz, hx, hcell, hwz⟩
  · simp at hcs
    subst hcs
    exact ⟨[], Limbs.nil W⟩
  · simp at hcs
    subst hcs
    simp only [if_true] at hz
    have hx1 : x.1 = .slice (lits .u32 (zs.take len0)) (lits .u32 (zs.drop len0)) := congrArg Prod.fst hx
    have hb := hsz _ _ hx1
    simp only [lits, List.length_map, List.length_take, List.length_drop] at hb
    have hr := reachBytes_lt
    have hl0 : ((zs.take len0).map Int.toNat).length = len0 := by simp; omega
    have hw : ∀ n ∈ zs, 0 ≤ n ∧ n < 4294967296 := fun n hn => by
      have := hwz n hn
      simp [Lit.wf, IntKind.min, IntKind.max, IntKind.signed, IntKind.bits] at this
      omega
    refine ⟨(zs.take len0).map Int.toNat, some y, cap0, by rw [hl0], by rw [hl0]; exact hl, by omega, ?_, fun j hj => ?_⟩
    · intro u hu
      obtain ⟨n, hn, rfl⟩ := List.mem_map.1 hu
      have := hw n (List.mem_of_mem_take hn)
      rw [R_eq]
      omega
    · rw [hl0] at hj
      have hc := hcell j (by omega)
      have hc0 := hcell 0 (by omega)
      obtain ⟨b, off, spot⟩ := y
      have hspot : spot = none := by simpa [Addr.add] using World.cell?_spot hc0
      subst hspot
      have ha : (⟨b, off, none⟩ : Addr).add j = ⟨b, off + j, none⟩ := by
        unfold Addr.add
        split
        · rename_i h0; simp [h0]
        · rfl
      rw [ha] at hc
      refine ⟨b, off, rfl, ?_⟩
      have hjz : j < zs.length := by omega
      have hmem := hw zs[j] (List.getElem_mem hjz)
      have e1 : nth ((zs.take len0).map Int.toNat) j = (zs[j]).toNat := by
        rw [nth_eq (by simp; omega)]
        simp
      rw [e1, Int.toNat_of_nonneg hmem.1]
      simpa [List.getD, hjz] using hc

/-- A number with a sign that came in. -/
theorem big_in {H : Type} {enc : TypeId × Value → H} {W : World} {base : Nat} {v : Value} {d : DataW H} {ps : List MemPlace}
    (hval : Value.okWide Tryd.prog W .any base 24 v) (h : DataW.Trod enc Tryd.prog W 0 (fun _ => true) true 24 v d ps)
    (hsz : ∀ n ∈ DataW.weights Tryd.prog 24 d, n ≤ reachBytes) : ∃ neg sv xs, v = .agg #[.bool neg, sv] ∧ Limbs W sv xs := by
  obtain ⟨cs, rfl, hcl⟩ := okWide_struct Tryd.underlying24 hval
  rw [cellsBig] at hcl
  obtain ⟨l⟩ := cs
  match l, hcl with
  | [c0, c1], _ =>
    obtain ⟨fuel, hf⟩ := h
    obtain ⟨y0, y1, m, hx, _, hy0, hy1⟩ := trod_struct2 Tryd.underlying24 hf
    simp [Value.cells, cellsBool, cellsSl] at hy0 hy1
    obtain ⟨b, e0, _⟩ := DataW.trod_bool Tryd.underlying4 hy0
    simp at e0
    subst e0
    have hd : d = .agg [y0.1, y1.1] := congrArg Prod.fst hx
    obtain ⟨xs, hl⟩ := limbs_part hy1 (fun elems spare e => by
      have := hsz ((elems.length + spare.length) * 4) (by
        rw [hd]
        simp [DataW.weights, Tryd.underlying24, DataW.weightsEach, e, Tryd.underlying22, bytesU32])
      exact this)
    exact ⟨b, c1, xs, rfl, hl⟩

/-- A number that lies in a block. -/
def BoxA (W : World) (b : Nat) (n : Bool) (a : Option Addr) (L c : Nat) (z : Int) : Prop := Two W b (.bool n) (.slice a L c) 24 ∧ BArg W (.agg #[.bool n, .slice a L c]) z
theorem BoxA.keep {W W' : World} {b : Nat} {n : Bool} {a : Option Addr} {L c : Nat} {z : Int} (h : BoxA W b n a L c z) (hb : Below W.heap.size W W') : BoxA W' b n a L c z := ⟨h.1.keep hb, h.2.below hb⟩
theorem BoxA.c0 {W : World} {b : Nat} {n : Bool} {a : Option Addr} {L c : Nat} {z : Int} (h : BoxA W b n a L c z) : W.cell? ⟨b, 0, none⟩ = some (.bool n) := h.1.c0
theorem BoxA.c1 {W : World} {b : Nat} {n : Bool} {a : Option Addr} {L c : Nat} {z : Int} (h : BoxA W b n a L c z) : W.cell? ⟨b, 1, none⟩ = some (.slice a L c) := h.1.c1
theorem BoxA.lt {W : World} {b : Nat} {n : Bool} {a : Option Addr} {L c : Nat} {z : Int} (h : BoxA W b n a L c z) : b < W.heap.size := (Array.getElem?_eq_some_iff.1 h.1).1
theorem BoxA.arg {W : World} {b : Nat} {n : Bool} {a : Option Addr} {L c : Nat} {z : Int} (h : BoxA W b n a L c z) : BArg W (.agg #[.bool n, .slice a L c]) z := h.2
theorem BoxA.new {W : World} {n : Bool} {a : Option Addr} {L c : Nat} {z : Int} (h : BArg W (.agg #[.bool n, .slice a L c]) z) : BoxA (W.alloc (.cells #[.bool n, .slice a L c] 24)) W.heap.size n a L c z := ⟨Two.new W _ _ _, h.below (bel W _)⟩
theorem BoxA.drew {W : World} {b : Nat} {n : Bool} {a : Option Addr} {L c : Nat} {z : Int} (h : BoxA W b n a L c z) : BoxA W.drew b n a L c z := ⟨h.1, h.2.drew⟩
theorem BoxA.alloc {W : World} {b : Nat} {n : Bool} {a : Option Addr} {L c : Nat} {z : Int} (h : BoxA W b n a L c z) (o : Obj) : BoxA (W.alloc o) b n a L c z := h.keep (bel W o)

theorem BoxA.new2 {W : World} {n : Bool} {a : Option Addr} {L c : Nat} {z : Int} {m : Bool} {b : Option Addr} {M d : Nat} {y : Int} (h : BArg W (.agg #[.bool n, .slice a L c]) z) (g : BArg W (.agg #[.bool m, .slice b M d]) y) :
    BoxA ((W.alloc (.cells #[.bool n, .slice a L c] 24)).alloc (.cells #[.bool m, .slice b M d] 24)) W.heap.size n a L c z ∧ BoxA ((W.alloc (.cells #[.bool n, .slice a L c] 24)).alloc (.cells #[.bool m, .slice b M d] 24)) (W.heap.size + 1) m b M d y := by
  refine ⟨(BoxA.new h).alloc _, ?_⟩
  have := BoxA.new (W := W.alloc (.cells #[.bool n, .slice a L c] 24)) (g.below (bel W _))
  rw [World.size_alloc] at this
  exact this

theorem kalloc {n : Nat} {w W : World} (h : Below n w W) (hn : n ≤ w.heap.size) (o : Obj) : Below n w (W.alloc o) := h.alloc (Nat.le_trans hn h.size) o

theorem box_arg {W : World} {na : Bool} {a : Option Addr} {L c : Nat} {xs : List Nat} (h : Limbs W (.slice a L c) xs) (hl : xs.length ≤ 8) : BArg W (.agg #[.bool na, .slice a L c]) (sgn na (val R xs)) := ⟨na, _, _, rfl, ⟨xs, h, by omega, rfl⟩, rfl⟩

theorem sign_is {w : World} {v : Value} {z s : Int} (hv : BArg w v z) (h : sg z = s) :
    Calls Tryd.prog 34 #[v] w fun e w' => e = .returned (.int .i64 s) ∧ Below w.heap.size w w' := by
  subst h
  exact sign_calls hv

/-- Four numbers in blocks. -/
def Quad (W : World) (b1 : Nat) (n1 : Bool) (a1 : Option Addr) (L1 c1 : Nat) (z1 : Int) (b2 : Nat) (n2 : Bool) (a2 : Option Addr) (L2 c2 : Nat) (z2 : Int) (b3 : Nat) (n3 : Bool) (a3 : Option Addr) (L3 c3 : Nat) (z3 : Int) (b4 : Nat) (n4 : Bool) (a4 : Option Addr) (L4 c4 : Nat) (z4 : Int) : Prop :=
  BoxA W b1 n1 a1 L1 c1 z1 ∧ BoxA W b2 n2 a2 L2 c2 z2 ∧ BoxA W b3 n3 a3 L3 c3 z3 ∧ BoxA W b4 n4 a4 L4 c4 z4
theorem Quad.keep {W W' : World} {b1 : Nat} {n1 : Bool} {a1 : Option Addr} {L1 c1 : Nat} {z1 : Int} {b2 : Nat} {n2 : Bool} {a2 : Option Addr} {L2 c2 : Nat} {z2 : Int} {b3 : Nat} {n3 : Bool} {a3 : Option Addr} {L3 c3 : Nat} {z3 : Int} {b4 : Nat} {n4 : Bool} {a4 : Option Addr} {L4 c4 : Nat} {z4 : Int} (h : Quad W b1 n1 a1 L1 c1 z1 b2 n2 a2 L2 c2 z2 b3 n3 a3 L3 c3 z3 b4 n4 a4 L4 c4 z4) (hb : Below W.heap.size W W') : Quad W' b1 n1 a1 L1 c1 z1 b2 n2 a2 L2 c2 z2 b3 n3 a3 L3 c3 z3 b4 n4 a4 L4 c4 z4 :=
  ⟨h.1.keep hb, h.2.1.keep hb, h.2.2.1.keep hb, h.2.2.2.keep hb⟩
theorem Quad.cells {W : World} {b1 : Nat} {n1 : Bool} {a1 : Option Addr} {L1 c1 : Nat} {z1 : Int} {b2 : Nat} {n2 : Bool} {a2 : Option Addr} {L2 c2 : Nat} {z2 : Int} {b3 : Nat} {n3 : Bool} {a3 : Option Addr} {L3 c3 : Nat} {z3 : Int} {b4 : Nat} {n4 : Bool} {a4 : Option Addr} {L4 c4 : Nat} {z4 : Int} (h : Quad W b1 n1 a1 L1 c1 z1 b2 n2 a2 L2 c2 z2 b3 n3 a3 L3 c3 z3 b4 n4 a4 L4 c4 z4) :
    W.cell? ⟨b1, 0, none⟩ = some (.bool n1) ∧ W.cell? ⟨b1, 1, none⟩ = some (.slice a1 L1 c1) ∧ W.cell? ⟨b2, 0, none⟩ = some (.bool n2) ∧ W.cell? ⟨b2, 1, none⟩ = some (.slice a2 L2 c2) ∧ W.cell? ⟨b3, 0, none⟩ = some (.bool n3) ∧ W.cell? ⟨b3, 1, none⟩ = some (.slice a3 L3 c3) ∧ W.cell? ⟨b4, 0, none⟩ = some (.bool n4) ∧ W.cell? ⟨b4, 1, none⟩ = some (.slice a4 L4 c4) :=
  ⟨h.1.c0, h.1.c1, h.2.1.c0, h.2.1.c1, h.2.2.1.c0, h.2.2.1.c1, h.2.2.2.c0, h.2.2.2.c1⟩

end Go.Proofs.YtkdhcpfmlelfcaaDoor

namespace Go.Proofs.YtkdhcpfmlelfcaaDoor
set_option linter.unusedVariables false
set_option linter.unusedSimpArgs false
set_option maxRecDepth 100000
open Go Go.RowKit Go.Shelf Go.Lib

theorem sgn_natAbs (neg : Bool) (n : Nat) : (sgn neg n).natAbs = n := by unfold sgn; cases neg <;> simp

theorem RRes.zero {W : World} {a : Option Addr} {L c : Nat} {z : Int} (h : RRes W (.slice a L c) z.natAbs) : L = 0 ↔ z = 0 := by
  obtain ⟨a', L', c', e, hL⟩ := h.shape
  injection e with e1 e2 e3
  subst e2
  rw [hL]
  omega

theorem lt_sub10 {m n k : Nat} (h : m < 10 ^ k) : m - n < 10 ^ k := Nat.lt_of_le_of_lt (Nat.sub_le _ _) h

theorem NArg.form {K : Nat} {W : World} {v : Value} {z : Int} (h : NArg K W v z) : ∃ b a L c, v = .agg #[.bool b, .slice a L c] := by
  obtain ⟨neg, dv, n, rfl, hm, _⟩ := h
  obtain ⟨a, L, c, rfl, _⟩ := hm.shape
  exact ⟨_, _, _, _, rfl⟩
theorem NArg.up {K M : Nat} {W : World} {v : Value} {z : Int} (h : NArg K W v z) (hk : K ≤ M) : NArg M W v z := by
  obtain ⟨neg, dv, n, h1, h2, h3, h4⟩ := h
  exact ⟨neg, dv, n, h1, h2, lt_up10 h3 hk, h4⟩
theorem NArg.lt {K : Nat} {W : World} {v : Value} {z : Int} (h : NArg K W v z) : z.natAbs < 10 ^ K := by
  obtain ⟨neg, dv, n, h1, h2, h3, rfl⟩ := h
  rw [sgn_natAbs]
  exact h3
theorem NArg.drew {K : Nat} {W : World} {v : Value} {z : Int} (h : NArg K W v z) : NArg K W.drew v z := h.below ((Below.refl _ _).drew)
theorem sub_neg_eq (x y : Int) : x + -y = x - y := by omega

theorem gcd_lt10 {m n K : Nat} (hm : m < 10 ^ K) (hn : n < 10 ^ K) : Nat.gcd m n < 10 ^ K := by
  rcases Nat.eq_zero_or_pos m with e | e
  · rw [e, Nat.gcd_zero_left]; exact hn
  · exact Nat.lt_of_le_of_lt (Nat.gcd_le_left _ e) hm

theorem two_second (W : World) (o : Obj) (x y : Value) (t : TypeId) : Two ((W.alloc o).alloc (.cells #[x, y] t)) (W.heap.size + 1) x y t := by
  have := Two.new (W.alloc o) x y t
  rw [World.size_alloc] at this
  exact this

end Go.Proofs.YtkdhcpfmlelfcaaDoor

namespace Go.Proofs.YtkdhcpfmlelfcaaDoor
set_option linter.unusedVariables false
set_option linter.unusedSimpArgs false
set_option maxRecDepth 100000
open Go Go.RowKit Go.Shelf Go.Lib

/-- A number that came in, in a block. -/
def BoxL (W : World) (b : Nat) (n : Bool) (a : Option Addr) (L c : Nat) (xs : List Nat) : Prop := Two W b (.bool n) (.slice a L c) 24 ∧ Limbs W (.slice a L c) xs ∧ xs.length ≤ 8
theorem BoxL.keep {W W' : World} {b : Nat} {n : Bool} {a : Option Addr} {L c : Nat} {xs : List Nat} (h : BoxL W b n a L c xs) (hb : Below W.heap.size W W') : BoxL W' b n a L c xs := ⟨h.1.keep hb, h.2.1.below hb, h.2.2⟩
theorem BoxL.arg {W : World} {b : Nat} {n : Bool} {a : Option Addr} {L c : Nat} {xs : List Nat} (h : BoxL W b n a L c xs) : BArg W (.agg #[.bool n, .slice a L c]) (sgn n (val R xs)) := box_arg h.2.1 h.2.2
theorem bl10 {z : Int} (h : z.natAbs < R ^ 8) : z.natAbs < 10 ^ 80 := Nat.lt_of_lt_of_le h (pow_R_le 8)

theorem fresh1 (W : World) (o : Obj) (x y : Value) (t : TypeId) : Two ((W.alloc o).alloc (.cells #[x, y] t)) (W.heap.size + 1) x y t := two_second W o x y t
theorem fresh0 (W : World) (x y : Value) (t : TypeId) : Two (W.alloc (.cells #[x, y] t)) W.heap.size x y t := Two.new W x y t
theorem Two.lt' {W : World} {b : Nat} {x y : Value} {t : TypeId} (h : Two W b x y t) : b < W.heap.size := (Array.getElem?_eq_some_iff.1 h).1
theorem Two.every {W : World} {b : Nat} {x y : Value} {t : TypeId} (h : Two W b x y t) : W.cell? ⟨b, 0, none⟩ = some x ∧ W.cell? ⟨b, 1, none⟩ = some y ∧ W.frozen? ⟨b, 0, none⟩ = false ∧ W.frozen? ⟨b, 1, none⟩ = false ∧ b < W.heap.size ∧ b < W.heap.size + 1 :=
  ⟨h.c0, h.c1, h.f0 0, h.f0 1, h.lt', Nat.lt_succ_of_lt h.lt'⟩
theorem NRes.alloc {W : World} {v : Value} {z : Int} (h : NRes W v z) (o : Obj) : NRes (W.alloc o) v z := h.below (bel W o)
theorem fresh_at {W : World} {b : Nat} (h : b = W.heap.size) (x y : Value) (t : TypeId) : Two (W.alloc (.cells #[x, y] t)) b x y t := by subst h; exact Two.new W x y t

theorem held_ab {W W' : World} {b0 b1 : Nat} {n0 n1 : Bool} {a0 a1 : Option Addr} {L0 L1 c0 c1 : Nat} {z0 z1 : List Nat} (A : BoxL W b0 n0 a0 L0 c0 z0) (B : BoxL W b1 n1 a1 L1 c1 z1) (h : Below W.heap.size W W') :
    W'.cell? ⟨b0, 0, none⟩ = some (.bool n0) ∧ W'.cell? ⟨b0, 1, none⟩ = some (.slice a0 L0 c0) ∧ W'.cell? ⟨b1, 0, none⟩ = some (.bool n1) ∧ W'.cell? ⟨b1, 1, none⟩ = some (.slice a1 L1 c1) ∧ Below W.heap.size W W' :=
  ⟨(A.keep h).1.c0, (A.keep h).1.c1, (B.keep h).1.c0, (B.keep h).1.c1, h⟩

set_option maxHeartbeats 2000000 in
theorem bnorm_calls {w : World} {u : Value} {x : Int} (hu : BArg w u x) :
    Calls Tryd.prog 18 #[u] w fun e w' => ∃ rv, e = .returned rv ∧ BRes w' rv x ∧ Below w.heap.size w w' := by
  obtain ⟨na, mu, m, rfl, hm, rfl⟩ := hu
  obtain ⟨a, L, c, rfl⟩ := hm.shape
  obtain ⟨t0, t1, hb⟩ := boxes2 w (.bool na) (.slice a L c) (.bool false) (.slice none 0 0) 24
  have T0 := hide t0.drew
  have T2 := hide t1.drew
  have HB := hide hb.drew
  have Hm := hide (hm.below hb.drew)
  clear hm t0 t1 hb
  have ne1 : ¬ w.heap.size + 1 = w.heap.size := by omega
  have ne2 : ¬ w.heap.size = w.heap.size + 1 := by omega
  go_enter Tryd.func18, Tryd.ntmps18
  go_wp2
  go_region_held3 (fun w' => w'.cell? ⟨w.heap.size, 0, none⟩ = some (.bool na) ∧ w'.cell? ⟨w.heap.size, 1, none⟩ = some (.slice a L c)) (go_keep)
    (first
      | (go_at_call 36; refine (norm_big Hm.out).mono ?_; rintro e w1 ⟨r1, rfl, q1, hb1⟩; have c0 := (T0.out.keep hb1).c0; have c1 := (T0.out.keep hb1).c1)
      | (go_at_call 27; refine (signed_calls q1).mono ?_; rintro e w2 ⟨r2, rfl, q2, hb2⟩; obtain ⟨b2, a2, L2, k2, rfl⟩ := q2.form; have c0' := ((T0.out.keep hb1).keep hb2).c0; have c1' := ((T0.out.keep hb1).keep hb2).c1; have d0 := ((T2.out.keep hb1).keep hb2).c0; have d1 := ((T2.out.keep hb1).keep hb2).c1; have f0 := ((T2.out.keep hb1).keep hb2).f0 0; have f1 := ((T2.out.keep hb1).keep hb2).f0 1))
  have TZ := (T2.out.keep hb1).keep hb2
  have KZ := bafter (bafter HB.out hb1 (Nat.le_refl _)) hb2 (Nat.le_refl _)
  go_wp2
  refine bodyPost_ret (results_big rfl rfl (TZ.put _ _)) rfl ?_
  exact ⟨_, rfl, q2.put TZ _ _, below_put KZ (by omega) _ _⟩

end Go.Proofs.YtkdhcpfmlelfcaaDoor

namespace Go.Proofs.YtkdhcpfmlelfcaaDoor
set_option linter.unusedVariables false
set_option linter.unusedSimpArgs false
set_option maxRecDepth 100000
open Go Go.RowKit Go.Shelf Go.Lib

theorem takeD {P : Program} {md : Region.Mode} {ops : Array Oper} {Q : Exit → Act → World → Prop} {S : World → Prop} {i : Nat} {oi : Oper} {v : Value} {fuel : Nat} {listed : Array Bool} {a : Act} {w : World} (d : Option Tmp) (hi : ops[i]? = some oi)
    (hs : Region.noSelect ops = true) (hf : Region.free md ops listed i = true) (hr : (Region.ready md ops listed).contains i = true)
    (hQ : ∀ c a w, Q (.panic c) (a.put oi.dst v) w → Q (.panic c) a w) (hy : YieldsIf P ops S oi v a) (hS : S w) (hd : oi.dst = d)
    (h : wpAnyH P md ops Q S fuel (listed.setIfInBounds i true) (a.put d v) w) : wpAnyH P md ops Q S (fuel + 1) listed a w :=
  wpAnyH_take hi hs hf hr hQ hy hS (by rw [hd]; exact h)

theorem own_made {n : Nat} (w : World) (cap : Nat) (hn : n ≤ w.heap.size) (hc : cap ≤ maxLen) : OwnP n (w.alloc (.cells (Builtin.zeroCells zPart.cells cap) 31)) (.slice (some ⟨w.heap.size, 0, none⟩) 0 cap) [] := by
  refine ⟨⟨rfl, .inr ⟨w.heap.size, cap, _, rfl, hn, heap_alloc_new w _, Nat.zero_le _, hc, size_zeroCells _ _, rfl⟩⟩, fun g i u hg hi hc => ?_⟩
  simp only [Value.ownBlock, Option.some.injEq] at hg
  subst hg
  have h2 := heap_alloc_new w (.cells (Builtin.zeroCells zPart.cells cap) 31)
  unfold World.cell? at hc
  simp only [h2] at hc
  exact mem_zeroCells (n := cap) (i := i) (by simpa using hc)

theorem make_parts (w : World) (n : Nat) (hn : n ≤ 1048576) : (Instr.makeSlice 25 (.int .i64 0) (.int .i64 (n : Int))).run Tryd.prog w = .ok (.slice (some ⟨w.heap.size, 0, none⟩) 0 n) (w.alloc (.cells (Builtin.zeroCells zPart.cells n) 31)) := by
  obtain ⟨i0, hi, hz0, hz1, hz2⟩ := info_parts infoPart
  have h := run_make (P := Tryd.prog) w 25 31 i0 zPart Tryd.underlying25 hi hz0 .i64 .i64 0 (n : Int) (Int.le_refl _) (by omega) (by rw [hz2]; omega) (by omega)
  simp only [Int.toNat_zero, Int.toNat_natCast, hz1] at h
  rw [h]
  rfl
theorem own_made0 (w : World) : OwnP w.heap.size (w.alloc (.cells #[] 31)) (.slice (some ⟨w.heap.size, 0, none⟩) 0 0) [] := by
  have h := own_made (n := w.heap.size) w 0 (Nat.le_refl _) (by simp [maxLen])
  rw [show Builtin.zeroCells zPart.cells 0 = #[] by simp [Builtin.zeroCells]] at h
  exact h
theorem eq_nil_parts (w : World) (a : Option Addr) (n c n' c' : Nat) : (binOp .eql 25 (.slice a n c) (.slice none n' c')).run Tryd.prog w = .ok (.bool a.isNone) w := Lib.run_eql_slice_nil w _ _ a n c n' c' Tryd.underlying25
theorem row_lit (W : World) (a : Int) (b : Bool) (c : Value) (z : Int) : RowP (W.alloc (.cells #[.int .i64 a, .bool b, c] 31)) (.slice (some ⟨W.heap.size, 0, none⟩) 1 1) [(a, b, c, z)] := by
  refine ⟨some ⟨W.heap.size, 0, none⟩, 1, rfl, Nat.le_refl _, by simp [maxLen], fun j m hj => ?_⟩
  cases j with
  | zero =>
    simp at hj
    subst hj
    exact ⟨_, _, rfl, World.cell?_alloc_mark W _ _ (0, 0) 0, World.cell?_alloc_mark W _ _ (0, 0) 1, World.cell?_alloc_mark W _ _ (0, 0) 2⟩
  | succ j => simp at hj
def CloneE (w : World) (M : List Pt) (e : Ending) (w' : World) : Prop := ∃ v', e = .returned v' ∧ OwnP w.heap.size w' v' M ∧ Below w.heap.size w w'
set_option maxHeartbeats 2000000 in
theorem clone_calls {w : World} {v : Value} {M : List Pt} (hr : RowP w v M) (hsl : Sl M) (hlm : M.length ≤ 1048576) :
    Calls Tryd.prog 19 #[v] w fun e w' => CloneE w M e w' := by
  have HR := hide hr
  obtain ⟨ao, cap, rfl, h1, h2, h3⟩ := hr
  cases ao with
  | none =>
    have hd0 : M = [] := by
      cases M with
      | nil => rfl
      | cons y r => obtain ⟨b, off, e, _⟩ := h3 0 y rfl; cases e
    subst hd0
    clear h3 HR
    have q25 := eq_nil_parts w none 0 cap 0 0
    simp only [List.length_nil]
    go_enter Tryd.func19, Tryd.ntmps19
    go_wp2
    go_ret
    exact ⟨_, rfl, OwnP.nil _ _, Below.refl _ _⟩
  | some ad =>
    have hbel := bel w (.cells #[] 31)
    obtain ⟨v', w', hrun, ho, hg, ha, hk⟩ := run_appP (w.alloc (.cells #[] 31)) w.heap.size 25 _ [] (own_made0 w) _ M (HR.out.below hbel) hsl.one (by simpa using hlm) (by simp)
    have HO := hide ho
    have HBB : Hid (Below w.heap.size w w') := (hbel.grown hg (by simp) (fun k hk2 => by simp only [Value.ownBlock, Option.some.injEq] at hk2; omega))
    have q25 := eq_nil_parts w (some ad) M.length cap 0 0
    clear h3 ho hg ha hk
    have HBL := hide hbel
    generalize hLn : M.length = Ln at *
    go_enter Tryd.func19, Tryd.ntmps19
    go_wp2_with (at_builtin; go_must (refine Lib.wpList_append_run _ rfl _ _ _ _ rfl _ _ rfl rfl _ _ hrun ?_))
    go_ret
    exact ⟨_, rfl, HO.out, HBB.out⟩

theorem sg_zero_iff (z : Int) : sg z = 0 ↔ z = 0 := by
  unfold sg
  split
  · constructor <;> intro h <;> omega
  · split
    · simp [*]
    · constructor <;> intro h <;> omega
set_option maxHeartbeats 2000000 in
theorem zero_tells {W : World} {m : Pt} (h : BArg W (.agg #[.bool m.2.1, m.2.2.1]) m.2.2.2) :
    Calls Tryd.prog 57 #[.agg #[.int .i64 m.1, .bool m.2.1, m.2.2.1]] W fun e W' => e = .returned (.bool (decide (m.2.2.2 = 0))) ∧ Below W.heap.size W W' := by
  obtain ⟨vr, neg, mv, z⟩ := m
  dsimp only at h ⊢
  have hs : ∃ a L c, mv = .slice a L c := by
    obtain ⟨neg', mv', n, e, ha, _⟩ := h
    have e2 : mv = mv' := by
      simp only [Value.agg.injEq, Array.mk.injEq, List.cons.injEq, and_true] at e
      exact e.2
    rw [e2]
    exact ha.shape
  obtain ⟨a, L, c, rfl⟩ := hs
  have hb := bel W (.cells #[.int .i64 vr, .bool neg, .slice a L c] 31)
  have hcall := sign_calls (h.below hb)
  have HB := hide hb
  have HS := hide (sg_zero_iff z)
  clear h hb
  generalize sg z = s at *
  go_enter Tryd.func57, Tryd.ntmps57
  go_wp2_with fail
  refine hcall.mono ?_
  rintro e w1 ⟨rfl, hb1⟩
  go_wp2
  go_ret
  refine ⟨?_, bafter HB.out hb1 (Nat.le_refl _)⟩
  have := HS.out
  by_cases hz : z = 0
  · have h0 : s = 0 := this.2 hz
    simp [hz, h0]
  · have h0 : ¬ s = 0 := fun e => hz (this.1 e)
    simp [hz, h0]

set_option maxHeartbeats 2000000 in
theorem wz_calls {n₀ : Nat} {w : World} {v : Value} {M : List Pt} (hown : OwnP n₀ w v M) (hg : GoodA w M) (hlm : M.length ≤ 1048576) (hn : n₀ ≤ w.heap.size) :
    Calls Tryd.prog 41 #[v] w fun e w' => DelE n₀ w M (fun m => decide (m.2.2.2 = 0)) e w' := by
  have hd := del_calls (g := 57) (lb := #[]) (p := fun m => decide (m.2.2.2 = 0)) (I := fun W => GoodA W M)
    ⟨enters_of Tryd.func57 (by kernel_rfl) rfl, fun W W' h hf => h.k32 hf.2, fun W h m hm => zero_tells (h m hm).2⟩ hown hg.sl hlm hg hn
  obtain ⟨ao, cap, rfl, _, _⟩ := hown.len
  clear hown hg
  go_enter Tryd.func41, Tryd.ntmps41
  go_wp2_with fail
  refine hd.mono ?_
  rintro e w1 ⟨v', rfl, ho, hf⟩
  obtain ⟨ao2, cap2, rfl, _, _⟩ := ho.len
  go_wp2
  go_ret
  exact ⟨_, rfl, ho, hf⟩

end Go.Proofs.YtkdhcpfmlelfcaaDoor

namespace Go.Proofs.YtkdhcpfmlelfcaaDoor
set_option linter.unusedVariables false
set_option linter.unusedSimpArgs false
set_option maxRecDepth 100000
open Go Go.RowKit Go.Shelf Go.Lib

def Rise (l : Ps) : Prop := l.Pairwise (fun a b => a.1 < b.1)
theorem rise_mem {l : Ps} (h : Rise l) {p : Int × Int} (hp : p ∈ l) : cf p.1 l = p.2 := by
  induction l with
  | nil => cases hp
  | cons q r ih =>
    have hq := List.pairwise_cons.1 h
    rcases List.mem_cons.1 hp with rfl | hp
    · rw [cf_cons, if_pos rfl, cf_none (fun x hx => by have := hq.1 x hx; omega)]; omega
    · rw [cf_cons, if_neg (by have := hq.1 p hp; omega), ih hq.2 hp]; omega
theorem ps_append (A B : List Pt) : ps (A ++ B) = ps A ++ ps B := by simp [ps]
theorem ps_length (M : List Pt) : (ps M).length = M.length := by simp [ps]
theorem ps_perm {A B : List Pt} (h : A.Perm B) : (ps A).Perm (ps B) := h.map pt

/-- What was gathered of the first so many parts. -/
structure Run (M X : List Pt) (k : Nat) : Prop where
  rise : Rise (ps X)
  cf : ∀ u, cf u (ps X) = cf u (ps (M.take k))
  last : ∀ j m, k = j + 1 → M[j]? = some m → ∃ Y x, X = Y ++ [x] ∧ x.1 = m.1
  none : k = 0 → X = []
  len : X.length ≤ k
theorem run_zero (M : List Pt) : Run M [] 0 := ⟨List.Pairwise.nil, fun u => by simp [ps], fun j m e => by omega, fun _ => rfl, Nat.le_refl _⟩
theorem Run.new {M X : List Pt} {k : Nat} {m : Pt} (h : Run M X k) (hs : M.Pairwise (fun a b => a.1 ≤ b.1)) (hm : M[k]? = some m) (hne : ∀ Y x, X = Y ++ [x] → x.1 ≠ m.1) (nb : Bool) (mv : Value) : Run M (X ++ [(m.1, nb, mv, m.2.2.2)]) (k + 1) := by
  have hk : k < M.length := (List.getElem?_eq_some_iff.1 hm).1
  refine ⟨?_, fun u => ?_, fun j m' e hj => ?_, fun e => by omega, by rw [List.length_append]; have := h.len; simp; omega⟩
  · rw [ps_append]
    refine List.pairwise_append.2 ⟨h.rise, by simp [ps], fun a ha b hb => ?_⟩
    simp only [ps, List.map_cons, List.map_nil, List.mem_singleton] at hb
    subst hb
    show a.1 < m.1
    cases k with
    | zero => rw [h.none rfl] at ha; simp [ps] at ha
    | succ k =>
      obtain ⟨Y, x, rfl, hx⟩ := h.last k M[k] rfl (List.getElem?_eq_getElem (by omega))
      have h1 : x.1 ≤ m.1 := by
        rw [hx]
        have e1 := List.pairwise_iff_getElem.1 hs k (k + 1) (by omega) hk (by omega)
        have e2 : m = M[k + 1] := by
          have := (List.getElem?_eq_some_iff.1 hm).2
          exact this.symm
        rw [e2]
        exact e1
      have h2 := hne Y x rfl
      rw [ps_append] at ha
      rcases List.mem_append.1 ha with h3 | h3
      · have hr := h.rise
        rw [ps_append] at hr
        have := (List.pairwise_append.1 hr).2.2 a h3 (pt x) (by simp [ps])
        have e3 : (pt x).1 = x.1 := rfl
        omega
      · simp only [ps, List.map_cons, List.map_nil, List.mem_singleton] at h3
        subst h3
        show x.1 < m.1
        omega
  · rw [ps_append, cf_append, h.cf u, List.take_add_one, hm]
    rw [ps_append, cf_append]
    rfl
  · obtain rfl : j = k := by omega
    rw [hm] at hj
    cases hj
    exact ⟨X, _, rfl, rfl⟩
theorem Run.more {M Y : List Pt} {k : Nat} {m x : Pt} (h : Run M (Y ++ [x]) k) (hm : M[k]? = some m) (he : x.1 = m.1) (nb : Bool) (mv : Value) : Run M (Y ++ [(x.1, nb, mv, x.2.2.2 + m.2.2.2)]) (k + 1) := by
  have hk : k < M.length := (List.getElem?_eq_some_iff.1 hm).1
  refine ⟨?_, fun u => ?_, fun j m' e hj => ?_, fun e => by omega, by have := h.len; simp at this ⊢; omega⟩
  · have hr := h.rise
    rw [ps_append] at hr ⊢
    have := List.pairwise_append.1 hr
    refine List.pairwise_append.2 ⟨this.1, by simp [ps], fun a ha b hb => ?_⟩
    simp only [ps, List.map_cons, List.map_nil, List.mem_singleton] at hb
    subst hb
    exact this.2.2 a ha (pt x) (by simp [ps])
  · have h1 := h.cf u
    rw [ps_append, cf_append] at h1 ⊢
    rw [List.take_add_one, hm, ps_append, cf_append, ← h1]
    simp only [ps, List.map_cons, List.map_nil, Option.toList_some, cf_cons, cf_nil, pt]
    rw [he]
    split <;> omega
  · obtain rfl : j = k := by omega
    rw [hm] at hj
    cases hj
    exact ⟨Y, _, rfl, he⟩

theorem pcells_set2 : ∀ (M : List Pt) (i : Nat) (x m : Pt), M[i]? = some x → m.1 = x.1 → pcells (M.set i m) = ((pcells M).set (i * 3 + 1) (.bool m.2.1)).set (i * 3 + 2) m.2.2.1 := by
  intro M
  induction M with
  | nil => intro i x m h; simp at h
  | cons a l ih =>
    intro i x m h e
    cases i with
    | zero =>
      simp at h
      subst h
      simp [pcells_cons, ptCells, e]
    | succ i =>
      rw [List.set_cons_succ, pcells_cons, ih i x m (by simpa using h) e, pcells_cons, show (i + 1) * 3 = i * 3 + 3 by omega]
      simp [ptCells]
/-- A part's number in one's own row is put anew. -/
theorem OwnP.put2 {n₀ : Nat} {W : World} {g cap : Nat} {M : List Pt} (h : OwnP n₀ W (.slice (some ⟨g, 0, none⟩) M.length cap) M) (hs : Sl M) {i : Nat} {x : Pt} (hx : M[i]? = some x) (m : Pt) (hv : m.1 = x.1) :
    OwnP n₀ ((W.setCell ⟨g, i * 3 + 1, none⟩ (.bool m.2.1)).setCell ⟨g, i * 3 + 2, none⟩ m.2.2.1) (.slice (some ⟨g, 0, none⟩) M.length cap) (M.set i m) ∧
    Fr32 n₀ W ((W.setCell ⟨g, i * 3 + 1, none⟩ (.bool m.2.1)).setCell ⟨g, i * 3 + 2, none⟩ m.2.2.1) := by
  have hi : i < M.length := (List.getElem?_eq_some_iff.1 hx).1
  have hlt := h.lt (j := g) rfl
  rcases h.1.2 with ⟨hv, hn⟩ | ⟨g', cp, cur, hv', h1, h2, h3, h4, h5, h6⟩
  · cases hv
  · cases hv'
    have g2 := heap_setCell_same W g (i * 3 + 1) _ _ (.bool m.2.1) h2
    have g3 := heap_setCell_same _ g (i * 3 + 2) _ _ m.2.2.1 g2
    have hcl : ∀ r, r < 3 → ∃ u, W.cell? ⟨g, i * 3 + r, none⟩ = some u ∧ ∀ x, u ≠ .int .u32 x := by
      intro r hr
      have hM : M[i]? = some M[i] := List.getElem?_eq_getElem hi
      have hc := (h.1.cellAt (j := i * 3 + r) (by rw [zPart_size]; omega)).trans (pcells_get M i M[i] hM r hr)
      have hl : r < (ptCells M[i]).length := hr
      refine ⟨(ptCells M[i])[r], hc.trans (List.getElem?_eq_getElem hl), fun x => not32 (hs _ (List.getElem_mem hi)) (List.getElem?_eq_getElem hl) x⟩
    have hk : K32 W ((W.setCell ⟨g, i * 3 + 1, none⟩ (.bool m.2.1)).setCell ⟨g, i * 3 + 2, none⟩ m.2.2.1) := by
      intro a x hx
      have hne : ∀ r, r < 3 → (⟨g, i * 3 + r, none⟩ : Addr) ≠ a := by
        rintro r hr rfl
        obtain ⟨u, hu, hn⟩ := hcl r hr
        rw [hu] at hx
        cases hx
        exact hn x rfl
      rw [World.cell?_setCell_other _ _ _ _ (hne 2 (by omega)), World.cell?_setCell_other _ _ _ _ (hne 1 (by omega))]
      exact hx
    have hb : Below n₀ W ((W.setCell ⟨g, i * 3 + 1, none⟩ (.bool m.2.1)).setCell ⟨g, i * 3 + 2, none⟩ m.2.2.1) :=
      ((Below.refl n₀ W).setCell (p := ⟨g, i * 3 + 1, none⟩) h1 _).setCell (p := ⟨g, i * 3 + 2, none⟩) h1 _
    refine ⟨⟨⟨?_, .inr ⟨g, cap, _, by rw [List.length_set], h1, g3, by rw [List.length_set]; exact h3, h4, ?_, ?_⟩⟩, ?_⟩, hb, hk⟩
    · rw [pcells_length]; rfl
    · simp only [Array.size_setIfInBounds]
      exact h5
    · rw [List.length_set]
      simp only [Array.toList_setIfInBounds]
      rw [List.take_set, List.take_set, h6, pcells_set2 M i x m hx hv]
    · intro g' j u hg hj hc
      simp only [Value.ownBlock, Option.some.injEq] at hg
      subst hg
      rw [List.length_set, zPart_size] at hj
      rw [World.cell?_setCell_other _ _ _ _ (by intro e; simp only [Addr.mk.injEq] at e; omega), World.cell?_setCell_other _ _ _ _ (by intro e; simp only [Addr.mk.injEq] at e; omega)] at hc
      exact h.2 g j u rfl (by rw [zPart_size]; exact hj) hc

theorem GoodR.arg {W : World} {M : List Pt} {k : Nat} (h : GoodR W M) (hb : Bnd k (ps M)) (hk : k ≤ 1048576) : GoodA W M := fun m hm => ⟨(h m hm).1, (h m hm).2.arg (hb (pt m) (List.mem_map.2 ⟨m, hm, rfl⟩)) hk⟩
theorem run_bnd {M X : List Pt} {k k0 : Nat} (h : Run M X k) (hb : Bnd k0 (ps M)) : Bnd (k0 + M.length) (ps X) := by
  intro p hp
  rw [← rise_mem h.rise hp, h.cf]
  have h1 : Bnd k0 (ps (M.take k)) := fun q hq => hb q (by
    unfold ps at hq ⊢
    rw [List.map_take] at hq
    exact List.mem_of_mem_take hq)
  refine lt_up (cf_bound h1 p.1) ?_
  rw [ps_length, List.length_take]
  omega

def TidyE (w : World) (M : List Pt) (e : Ending) (w' : World) : Prop :=
  ∃ v' M', e = .returned v' ∧ RowP w' v' M' ∧ GoodR w' M' ∧ NF (ps M') ∧ (∀ u, cf u (ps M') = cf u (ps M)) ∧ Below w.heap.size w w'

/-- The cells of a part of one's own row, which may be written. -/
theorem OwnP.cells {n₀ : Nat} {W : World} {g cap n : Nat} {M : List Pt} (hn : M.length = n) (h : OwnP n₀ W (.slice (some ⟨g, 0, none⟩) n cap) M) {i : Nat} {x : Pt} (hx : M[i]? = some x) :
    W.cell? ⟨g, i * 3, none⟩ = some (.int .i64 x.1) ∧ W.cell? ⟨g, i * 3 + 1, none⟩ = some (.bool x.2.1) ∧ W.cell? ⟨g, i * 3 + 2, none⟩ = some x.2.2.1 ∧ ∀ j, W.frozen? ⟨g, j, none⟩ = false := by
  subst hn
  rcases h.1.2 with ⟨hv, _⟩ | ⟨g', cp, cur, hv, h1, h2, h3⟩
  · cases hv
  · cases hv
    obtain ⟨ao, cp, e, _, _, hc⟩ := h.row
    cases e
    obtain ⟨b, o, e2, c⟩ := hc i x hx
    obtain ⟨rfl, rfl⟩ : g = b ∧ 0 = o := by simpa using e2
    obtain ⟨c0, c1, c2⟩ := c
    simp only [Nat.zero_add] at c0 c1 c2
    exact ⟨c0, c1, c2, fun j => frozen_of_row W g j _ _ h2⟩

theorem snoc_or (X : List Pt) : X = [] ∨ ∃ Y x, X = Y ++ [x] := by
  rcases List.eq_nil_or_concat X with h | ⟨Y, x, h⟩
  · exact .inl h
  · exact .inr ⟨Y, x, by first | exact h | simpa using h⟩
theorem own_addr {n₀ : Nat} {W : World} {oa : Option Addr} {n cap : Nat} {M : List Pt} (h : OwnP n₀ W (.slice oa n cap) M) (hM : M ≠ []) : ∃ g, oa = some ⟨g, 0, none⟩ := by
  rcases h.1.2 with ⟨_, hn⟩ | ⟨g', cp', cur, hv, _⟩
  · exact absurd (List.eq_nil_of_length_eq_zero hn) hM
  · cases hv
    exact ⟨_, rfl⟩
theorem own_last {n₀ : Nat} {W : World} {g cap n yl : Nat} {Y : List Pt} {x : Pt} (hy : Y.length = yl) (hn : (Y ++ [x]).length = n) (h : OwnP n₀ W (.slice (some ⟨g, 0, none⟩) n cap) (Y ++ [x])) (hs : Sl (Y ++ [x])) (nb : Bool) (mv : Value) (z : Int) :
    OwnP n₀ ((W.setCell ⟨g, yl * 3 + 1, none⟩ (.bool nb)).setCell ⟨g, yl * 3 + 2, none⟩ mv) (.slice (some ⟨g, 0, none⟩) (Y ++ [(x.1, nb, mv, z)]).length cap) (Y ++ [(x.1, nb, mv, z)]) ∧
    Fr32 n₀ W ((W.setCell ⟨g, yl * 3 + 1, none⟩ (.bool nb)).setCell ⟨g, yl * 3 + 2, none⟩ mv) := by
  subst hn
  subst hy
  have h1 := OwnP.put2 h hs (i := Y.length) (x := x) (by simp) (x.1, nb, mv, z) rfl
  have e : (Y ++ [x]).set Y.length (x.1, nb, mv, z) = Y ++ [(x.1, nb, mv, z)] := by simp
  rw [e] at h1
  have e2 : (Y ++ [x]).length = (Y ++ [((x.1, nb, mv, z) : Pt)]).length := by simp
  rw [e2] at h1
  exact h1

set_option maxHeartbeats 8000000 in
theorem tidy_calls {w : World} {v : Value} {M : List Pt} {k0 : Nat} (hr : RowP w v M) (hg : GoodA w M) (hb : Bnd k0 (ps M)) (hk0 : k0 ≤ 500000) (h12 : M.length ≤ 12 ∨ One w M M.length) (hlm : M.length ≤ 1000) :
    Calls Tryd.prog 20 #[v] w fun e w' => TidyE w M e w' := by
  have hiso := iso_calls hr hg (by omega)
  have HR := hide hr
  have HG := hide hg
  have HBD := hide hb
  obtain ⟨ao, cap, rfl, _, _, _⟩ := hr
  clear hg hb
  go_enter Tryd.func20, Tryd.ntmps20
  go_wp2_with fail
  refine hiso.mono ?_
  rintro e w1 ⟨b, rfl, hib, hb1⟩
  have HB1 := hide hb1
  clear hiso hb1
  cases b with
  | true =>
    have HI := hide (hib.1 rfl)
    clear hib
    go_wp2
    go_ret
    have ht : M.take M.length = M := List.take_length
    have h1 := HI.out
    unfold One at h1
    rw [ht] at h1
    exact ⟨_, M, rfl, HR.out.below HB1.out, h1.2.below HB1.out, h1.1, fun u => rfl, HB1.out⟩
  | false =>
    have hno : ¬ One w M M.length := fun h => by have := hib.2 h; cases this
    have h12' : M.length ≤ 12 := h12.resolve_right hno
    have hM0 : M ≠ [] := by
      rintro rfl
      exact hno (one_zero w [])
    clear hib hno h12
    have hcl := clone_calls (HR.out.below HB1.out) HG.out.sl (by omega)
    go_wp2_with fail
    refine hcl.mono ?_
    rintro e w2 ⟨v1, rfl, ho2, hb2⟩
    obtain ⟨g1, cp1, rfl⟩ : ∃ g1 cp1, v1 = .slice (some ⟨g1, 0, none⟩) M.length cp1 := by
      rcases ho2.1.2 with ⟨_, hn⟩ | ⟨g', cp', cur, hv, _⟩
      · exact absurd (List.eq_nil_of_length_eq_zero hn) hM0
      · exact ⟨_, _, hv⟩
    have hso := sort_calls ho2 HG.out.sl h12'
    have HB2 := hide (bafter HB1.out hb2 (Nat.le_refl _))
    have HSZ := hide hb2.size
    clear hcl ho2 hb2
    generalize hLn : M.length = Ln at *
    have HLN := hide hLn
    clear hLn
    go_wp2_with fail
    refine hso.mono ?_
    rintro e w3 ⟨Ms, rfl, hperm, hsort, ho3, hf3⟩
    have HP := hide hperm
    have HSO := hide hsort
    have HO3 : Hid (OwnP w1.heap.size w3 (.slice (some ⟨g1, 0, none⟩) Ln cp1) Ms) := by
      show OwnP _ _ _ _
      rw [← HLN.out]
      exact ho3
    have HB3 := hide (HB2.out.trans (hf3.1.mono HB1.out.size))
    have HML : Hid (Ms.length = Ln) := by
      show _ = _
      rw [hperm.length_eq]
      exact HLN.out
    clear hso hperm hsort ho3 hf3
    have m1 : (0 : Int) ≤ (Ln : Int) := by omega
    have HMADE := hide (own_made (n := w3.heap.size) w3 Ln (Nat.le_refl _) (by unfold maxLen; omega))
    have HBM := hide (bel w3 (.cells (Builtin.zeroCells zPart.cells Ln) 31))
    have hmk := make_parts w3 Ln (by omega)
    generalize hwm : w3.alloc (.cells (Builtin.zeroCells zPart.cells Ln) 31) = wm at *
    have HBMS := hide HBM.out.size
    clear hwm
    go_wp2
    clear hmk
    go_loopw [4, 20] (fun ov iv wr => ∃ (k : Nat) (X : List Pt) (oa : Option Addr) (oc : Nat), k ≤ Ln ∧ iv = .int .i64 (k : Int) ∧ ov = .slice oa X.length oc ∧ Run Ms X k ∧ OwnP w3.heap.size wr (.slice oa X.length oc) X ∧ GoodR wr X ∧ Below w3.heap.size w3 wr) (fun _ iv _ => Ln - (RowKit.intOf iv).toNat)
    case atStart => exact ⟨0, [], _, _, Nat.zero_le _, rfl, rfl, run_zero Ms, HMADE.out, fun m hm => (by cases hm), HBM.out⟩
    case round =>
      obtain ⟨k, X, oa, oc, hk, rfl, rfl, hrun, ho, hgr, hbw⟩ := hrel
      have HRUN := hide hrun
      have HO := hide ho
      have HGR := hide hgr
      have HBW := hide hbw
      have HXL := hide hrun.len
      clear hrun ho hgr hbw
      by_cases hlt : k < Ln
      · obtain ⟨⟨vr, neg, mv, z⟩, hm⟩ : ∃ m, Ms[k]? = some m := ⟨_, List.getElem?_eq_getElem (by rw [HML.out]; exact hlt)⟩
        obtain ⟨c0, c1, c2, _⟩ := HO3.out.cells HML.out hm
        dsimp only at c0 c1 c2
        have hg3 := (HO3.out.lt (j := g1) rfl).2
        have hmem : (vr, neg, mv, z) ∈ M := HP.out.mem_iff.1 (List.mem_of_getElem? hm)
        obtain ⟨ma, mL, mc, e⟩ := HG.out.sl _ hmem
        simp only at e
        subst e
        have hga := (HG.out _ hmem).2
        have hrg := (HG.out _ hmem).1
        dsimp only at hga hrg
        have c0' : wr.cell? ⟨g1, k * 3, none⟩ = some (.int .i64 vr) := (HBW.out.cell (p := ⟨g1, k * 3, none⟩) hg3).trans c0
        have c1' : wr.cell? ⟨g1, k * 3 + 1, none⟩ = some (.bool neg) := (HBW.out.cell (p := ⟨g1, k * 3 + 1, none⟩) hg3).trans c1
        have c2' : wr.cell? ⟨g1, k * 3 + 2, none⟩ = some (.slice ma mL mc) := (HBW.out.cell (p := ⟨g1, k * 3 + 2, none⟩) hg3).trans c2
        have HM := hide hm
        have HRG := hide hrg
        clear c0 c1 c2 hmem hm hrg
        have d1 : (k : Int) < (Ln : Int) := by omega
        have d0 : (0 : Int) ≤ (k : Int) := by omega
        -- the part's box
        have hbx := bel wr (.cells #[.int .i64 vr, .bool neg, .slice ma mL mc] 31)
        have HBA := hide (((HB3.out.trans (HBW.out.mono HB3.out.size)).trans (hbx.mono (Nat.le_trans HB3.out.size HBW.out.size))))
        have x0 := World.cell?_alloc_mark wr #[.int .i64 vr, .bool neg, .slice ma mL mc] 31 (0, 0) 0
        have x1 := World.cell?_alloc_mark wr #[.int .i64 vr, .bool neg, .slice ma mL mc] 31 (0, 0) 1
        have x2 := World.cell?_alloc_mark wr #[.int .i64 vr, .bool neg, .slice ma mL mc] 31 (0, 0) 2
        have HOB := hide (HO.out.below hbx)
        have HGB := hide (HGR.out.below hbx)
        have HW3 := hide (HBW.out.trans (hbx.mono HBW.out.size))
        have hsz : (wr.alloc (.cells #[.int .i64 vr, .bool neg, .slice ma mL mc] 31)).heap.size = wr.heap.size + 1 := by simp
        have hsn : w3.heap.size ≤ wr.heap.size := HBW.out.size
        have hgb := hga.below HBA.out
        generalize hwb : wr.alloc (.cells #[.int .i64 vr, .bool neg, .slice ma mL mc] 31) = wb at *
        have HWB := hide hwb
        have HBX := hide hbx
        have hlw : wr.heap.size < wb.heap.size := by omega
        have HS12 : Hid (∀ W, Below wb.heap.size wb W → W.cell? ⟨wr.heap.size, 0, none⟩ = some (.int .i64 vr) ∧ W.cell? ⟨wr.heap.size, 1, none⟩ = some (.bool neg) ∧ W.cell? ⟨wr.heap.size, 2, none⟩ = some (.slice ma mL mc)) := fun W h =>
          ⟨(h.cell (p := ⟨wr.heap.size, 0, none⟩) hlw).trans x0, (h.cell (p := ⟨wr.heap.size, 1, none⟩) hlw).trans x1, (h.cell (p := ⟨wr.heap.size, 2, none⟩) hlw).trans x2⟩
        have HNRM := hide (fun (W : World) (h : Below wb.heap.size wb W) => bnorm_calls (hgb.below h))
        have HGBA := hide hgb
        have HSZB := hide hsz
        have HSN := hide hsn
        simp only [List.getElem?_toArray, List.getElem?_cons_zero, List.getElem?_cons_succ] at x0 x1 x2
        clear hwb hga hbx hgb
        rcases snoc_or X with rfl | ⟨Y, ⟨xv, xn, xm, xz⟩, rfl⟩
        · have HNE : Hid (∀ Y x, ([] : List Pt) = Y ++ [x] → x.1 ≠ vr) := fun Y x e => (by simp at e)
          simp only [List.length_nil] at HO HOB ⊢
          go_upto_region 10 with fail
          rw [HWB.out]
          go_quiet (fail)
          go_upto_region 12 with fail
          refine wp_region_held_drew (S := fun X : World => X.cell? ⟨wr.heap.size, 0, none⟩ = some (.int .i64 vr) ∧ X.cell? ⟨wr.heap.size, 1, none⟩ = some (.bool neg) ∧ X.cell? ⟨wr.heap.size, 2, none⟩ = some (.slice ma mL mc)) (by kernel_rfl) ?_ (fun hHeld => ?_)
          · exact HS12.out _ (by (first | exact (bdrewN (Below.refl _ _) _).drew | exact ((Below.refl _ _).drew).drew | exact (Below.refl _ _).drew | exact bdrewN (Below.refl _ _) _ | exact Below.refl _ _))
          refine takeD (i := 0) (v := ?v1) (some 51) rfl (by kernel_rfl) (by kernel_rfl) (by kernel_rfl) (fun _ _ _ h => h) (Or.inl ⟨by rfl, ?hy1⟩) (by assumption) (by rfl) ?rest1
          case hy1 => first | (intro w hSw; (try dsimp only at hSw); obtain ⟨q0, q1, q2⟩ := hSw; go_simp; done) | (intro w hSw; (try dsimp only at hSw); obtain ⟨q0, q1, q2⟩ := hSw; go_simp; with_reducible rfl)
          try simp only [Act.put, List.setIfInBounds_toArray, List.set_cons_zero, List.set_cons_succ]
          refine takeD (i := 1) (v := ?v2) (some 52) rfl (by kernel_rfl) (by kernel_rfl) (by kernel_rfl) (fun _ _ _ h => h) (Or.inl ⟨by rfl, ?hy2⟩) (by assumption) (by rfl) ?rest2
          case hy2 => first | (intro w hSw; (try dsimp only at hSw); obtain ⟨q0, q1, q2⟩ := hSw; go_simp; done) | (intro w hSw; (try dsimp only at hSw); obtain ⟨q0, q1, q2⟩ := hSw; go_simp; with_reducible rfl)
          try simp only [Act.put, List.setIfInBounds_toArray, List.set_cons_zero, List.set_cons_succ]
          refine takeD (i := 2) (v := ?v3) (some 53) rfl (by kernel_rfl) (by kernel_rfl) (by kernel_rfl) (fun _ _ _ h => h) (Or.inl ⟨by rfl, ?hy3⟩) (by assumption) (by rfl) ?rest3
          case hy3 => first | (intro w hSw; (try dsimp only at hSw); obtain ⟨q0, q1, q2⟩ := hSw; go_simp; done) | (intro w hSw; (try dsimp only at hSw); obtain ⟨q0, q1, q2⟩ := hSw; go_simp; with_reducible rfl)
          try simp only [Act.put, List.setIfInBounds_toArray, List.set_cons_zero, List.set_cons_succ]
          refine takeD (i := 3) (v := ?v4) (some 54) rfl (by kernel_rfl) (by kernel_rfl) (by kernel_rfl) (fun _ _ _ h => h) (Or.inl ⟨by rfl, ?hy4⟩) (by assumption) (by rfl) ?rest4
          case hy4 => first | (intro w hSw; (try dsimp only at hSw); obtain ⟨q0, q1, q2⟩ := hSw; go_simp; done) | (intro w hSw; (try dsimp only at hSw); obtain ⟨q0, q1, q2⟩ := hSw; go_simp; with_reducible rfl)
          try simp only [Act.put, List.setIfInBounds_toArray, List.set_cons_zero, List.set_cons_succ]
          refine takeD (i := 4) (v := ?v5) (some 55) rfl (by kernel_rfl) (by kernel_rfl) (by kernel_rfl) (fun _ _ _ h => h) (Or.inl ⟨by rfl, ?hy5⟩) (by assumption) (by rfl) ?rest5
          case hy5 => first | (intro w hSw; (try dsimp only at hSw); obtain ⟨q0, q1, q2⟩ := hSw; go_simp; done) | (intro w hSw; (try dsimp only at hSw); obtain ⟨q0, q1, q2⟩ := hSw; go_simp; with_reducible rfl)
          try simp only [Act.put, List.setIfInBounds_toArray, List.set_cons_zero, List.set_cons_succ]
          refine wpAnyH_ready (rs := [5]) (by kernel_rfl) (by simp) ?_
          refine AllReadyH.cons rfl (fun K hK => ?_) AllReadyH.nil
          go_simp
          refine (HNRM.out _ (by (first | exact (bdrewN (Below.refl _ _) _).drew | exact ((Below.refl _ _).drew).drew | exact (Below.refl _ _).drew | exact bdrewN (Below.refl _ _) _ | exact Below.refl _ _))).mono ?_
          rintro e w4 ⟨v4, rfl, hr4, hb4⟩
          obtain ⟨nb, na, nL, nc, rfl⟩ := hr4.form
          have HB4 : Hid (Below wb.heap.size wb w4) := bafter (by (first | exact (bdrewN (Below.refl _ _) _).drew | exact ((Below.refl _ _).drew).drew | exact (Below.refl _ _).drew | exact bdrewN (Below.refl _ _) _ | exact Below.refl _ _)) hb4 (Nat.le_refl _)
          have HR4 := hide hr4
          clear hr4 hb4 hHeld
          go_wp2_with fail
          refine hK.out _ _ (HS12.out _ HB4.out) (fun hHeld => ?_)
          clear hK K
          try simp only [Act.put, List.setIfInBounds_toArray, List.set_cons_zero, List.set_cons_succ]
          refine takeD (i := 6) (v := ?v6) (some 57) rfl (by kernel_rfl) (by kernel_rfl) (by kernel_rfl) (fun _ _ _ h => h) (Or.inl ⟨by rfl, ?hy6⟩) (by assumption) (by rfl) ?rest6
          case hy6 => first | (intro w hSw; (try dsimp only at hSw); obtain ⟨q0, q1, q2⟩ := hSw; go_simp; done) | (intro w hSw; (try dsimp only at hSw); obtain ⟨q0, q1, q2⟩ := hSw; go_simp; with_reducible rfl)
          try simp only [Act.put, List.setIfInBounds_toArray, List.set_cons_zero, List.set_cons_succ]
          refine wpAnyH_ready (rs := [7]) (by kernel_rfl) (by simp) ?_
          refine AllReadyH.cons rfl (fun K hK => ?_) AllReadyH.nil
          go_simp
          have hbl := bel w4 (.cells #[.int .i64 vr, .bool nb, .slice na nL nc] 31)
          have HB5 := hide (bafter HB4.out hbl (Nat.le_refl _))
          have HBL := hide hbl
          have HRL := hide (row_lit w4 vr nb (.slice na nL nc) z)
          clear hbl
          generalize hw5 : w4.alloc (.cells #[.int .i64 vr, .bool nb, .slice na nL nc] 31) = w5 at *
          refine hK.out _ _ (HS12.out _ HB5.out) (fun hHeld => ?_)
          clear hK K hHeld
          try simp only [Act.put, List.setIfInBounds_toArray, List.set_cons_zero, List.set_cons_succ]
          obtain ⟨v6, w6, hrun6, ho6, hg6, ha6, hk6⟩ := run_appP w5 w3.heap.size 25 _ ([] : List Pt) (HOB.out.below HB5.out) _ [(vr, nb, .slice na nL nc, z)] HRL.out (fun m hm => by simp at hm; subst hm; rfl) (by have h9 := HXL.out; (try have h8 := HN.out); simp only [List.length_append, List.length_cons, List.length_nil] at *; omega) (Nat.le_trans HSN.out (Nat.le_trans (by have := HSZB.out; omega) HB5.out.size))
          have HG6 : Hid (GoodR w6 (([] : List Pt) ++ [(vr, nb, .slice na nL nc, z)])) := by
            intro m hm
            rcases List.mem_append.1 hm with h | h
            · exact ((HGB.out.below HB5.out).k32 hk6) m h
            · simp at h
              subst h
              exact ⟨HRG.out, (HR4.out.below HBL.out).k32 hk6⟩
          have HBW6 : Hid (Below w3.heap.size w3 w6) := (HW3.out.trans (HB5.out.mono HW3.out.size)).grown hg6 (Nat.le_trans HW3.out.size HB5.out.size) (fun j hj => (HOB.out.lt hj).1)
          have HS6 : Hid (w6.cell? ⟨wr.heap.size, 0, none⟩ = some (.int .i64 vr) ∧ w6.cell? ⟨wr.heap.size, 1, none⟩ = some (.bool neg) ∧ w6.cell? ⟨wr.heap.size, 2, none⟩ = some (.slice ma mL mc)) := by
            have hne : ∀ q, some wr.heap.size ≠ q ∨ (∀ j, q = some j → j < wr.heap.size) → True := fun _ _ => trivial
            have hk : w6.heap[wr.heap.size]? = w5.heap[wr.heap.size]? := hg6.block _ (by have := HB5.out.size; have := HSZB.out; omega) (fun e => by have := (HO.out.lt e.symm).2; omega)
            obtain ⟨y0, y1, y2⟩ := HS12.out _ HB5.out
            exact ⟨(World.cell?_of_block (a := ⟨wr.heap.size, 0, none⟩) hk).trans y0, (World.cell?_of_block (a := ⟨wr.heap.size, 1, none⟩) hk).trans y1, (World.cell?_of_block (a := ⟨wr.heap.size, 2, none⟩) hk).trans y2⟩
          obtain ⟨oa6, oc6, rfl, _, _⟩ := ho6.len
          have HO6 := hide ho6
          clear ho6 hg6 ha6 hk6
          refine wpAnyH_ready (rs := [8]) (by kernel_rfl) (by simp) ?_
          refine AllReadyH.cons rfl (fun K hK => ?_) AllReadyH.nil
          refine Lib.wp_append_run _ _ _ _ _ rfl _ _ rfl rfl _ _ hrun6 ?_
          clear hrun6
          refine hK.out _ _ (HS6.out) (fun hHeld => ?_)
          clear hK K hHeld
          try simp only [Act.put, List.setIfInBounds_toArray, List.set_cons_zero, List.set_cons_succ]
          refine wpAnyH_ready (rs := [9]) (by kernel_rfl) (by simp) ?_
          refine AllReadyH.cons rfl (fun K hK => ?_) AllReadyH.nil
          go_simp
          refine hK.out _ _ (HS6.out) (fun hHeld => ?_)
          clear hK K hHeld
          try simp only [Act.put, List.setIfInBounds_toArray, List.set_cons_zero, List.set_cons_succ]
          refine wpAnyH_done (by kernel_rfl) ?_ _
          go_wp2
          go_roundw
          case rel => exact ⟨k + 1, ([] : List Pt) ++ [(vr, nb, .slice na nL nc, z)], _, _, by omega, by go_num, (by first | rfl | simp), HRUN.out.new HSO.out HM.out HNE.out nb _, HO6.out, HG6.out, HBW6.out⟩
          case measure => simp [RowKit.intOf]; omega
        · obtain ⟨xa, xL, xc, e⟩ := HGR.out.sl (xv, xn, xm, xz) (by simp)
          simp only at e
          subst e
          obtain ⟨g, rfl⟩ := own_addr HO.out (by simp)
          have hyl0 : (Y ++ [((xv, xn, .slice xa xL xc, xz) : Pt)]).length = Y.length + 1 := by simp
          have HXA : Hid (BArg wb (.agg #[.bool xn, .slice xa xL xc]) xz) := by
            have h1 := HGR.out.arg (run_bnd HRUN.out (fun p hp => HBD.out p ((ps_perm HP.out).mem_iff.1 hp))) (by rw [HML.out]; omega) (xv, xn, .slice xa xL xc, xz) (by simp)
            exact h1.2.below HBX.out
          generalize hn : (Y ++ [((xv, xn, .slice xa xL xc, xz) : Pt)]).length = n at *
          generalize hyl : Y.length = yl at *
          have HYL := hide hyl
          have HN := hide hn
          have HSLX := hide HGR.out.sl
          have hW : IntKind.i64.wrap ((n : Int) - 1) = (yl : Int) := by
            rw [wrapN (by omega) (by have := HXL.out; omega)]
            omega
          have b0 : (0 : Int) ≤ (yl : Int) := by omega
          have b1 : (yl : Int) < (n : Int) := by omega
          have HROW : Hid (∀ W, Below wb.heap.size wb W → W.cell? ⟨g, yl * 3, none⟩ = some (.int .i64 xv) ∧ W.cell? ⟨g, yl * 3 + 1, none⟩ = some (.bool xn) ∧ W.cell? ⟨g, yl * 3 + 2, none⟩ = some (.slice xa xL xc) ∧ ∀ j, W.frozen? ⟨g, j, none⟩ = false) := fun W h =>
            (HOB.out.below h).cells HN.out (i := yl) (x := (xv, xn, .slice xa xL xc, xz)) (by have := HYL.out; subst this; simp)
          obtain ⟨y0, y1, y2, _⟩ := HROW.out wb (Below.refl _ _)
          have HGW : Hid (g < wr.heap.size) := (HO.out.lt (j := g) rfl).2
          clear hn hyl hyl0
          by_cases hev : xv = vr
          · subst hev
            have HADD := hide (fun (W : World) (h : Below wb.heap.size wb W) => badd_calls (HXA.out.below h) (HGBA.out.below h))
            go_upto_region 10 with fail
            rw [HWB.out]
            go_quiet (fail)
            have HS11 : Hid (∀ W, Below wb.heap.size wb W → W.cell? ⟨wr.heap.size, 1, none⟩ = some (.bool neg) ∧ W.cell? ⟨wr.heap.size, 2, none⟩ = some (.slice ma mL mc)) := fun W h => (HS12.out W h).2
            go_upto_region 11 with fail
            refine wp_region_held_drew (S := fun X : World => X.cell? ⟨wr.heap.size, 1, none⟩ = some (.bool neg) ∧ X.cell? ⟨wr.heap.size, 2, none⟩ = some (.slice ma mL mc)) (by kernel_rfl) ?_ (fun hHeld => ?_)
            · exact HS11.out _ (by (first | exact (bdrewN (Below.refl _ _) _).drew | exact ((Below.refl _ _).drew).drew | exact (Below.refl _ _).drew | exact bdrewN (Below.refl _ _) _ | exact Below.refl _ _))
            refine takeD (i := 0) (v := ?v7) (some 39) rfl (by kernel_rfl) (by kernel_rfl) (by kernel_rfl) (fun _ _ _ h => h) (Or.inl ⟨by rfl, ?hy7⟩) (by assumption) (by rfl) ?rest7
            case hy7 => first | (intro w hSw; (try dsimp only at hSw); obtain ⟨q1, q2⟩ := hSw; go_simp; done) | (intro w hSw; (try dsimp only at hSw); obtain ⟨q1, q2⟩ := hSw; go_simp; with_reducible rfl)
            try simp only [Act.put, List.setIfInBounds_toArray, List.set_cons_zero, List.set_cons_succ]
            refine takeD (i := 1) (v := ?v8) (some 40) rfl (by kernel_rfl) (by kernel_rfl) (by kernel_rfl) (fun _ _ _ h => h) (Or.inl ⟨by rfl, ?hy8⟩) (by assumption) (by rfl) ?rest8
            case hy8 => first | (intro w hSw; (try dsimp only at hSw); obtain ⟨q1, q2⟩ := hSw; go_simp; done) | (intro w hSw; (try dsimp only at hSw); obtain ⟨q1, q2⟩ := hSw; go_simp; with_reducible rfl)
            try simp only [Act.put, List.setIfInBounds_toArray, List.set_cons_zero, List.set_cons_succ]
            refine takeD (i := 2) (v := ?v9) (some 41) rfl (by kernel_rfl) (by kernel_rfl) (by kernel_rfl) (fun _ _ _ h => h) (Or.inl ⟨by rfl, ?hy9⟩) (by assumption) (by rfl) ?rest9
            case hy9 => first | (intro w hSw; (try dsimp only at hSw); obtain ⟨q1, q2⟩ := hSw; go_simp; done) | (intro w hSw; (try dsimp only at hSw); obtain ⟨q1, q2⟩ := hSw; go_simp; with_reducible rfl)
            try simp only [Act.put, List.setIfInBounds_toArray, List.set_cons_zero, List.set_cons_succ]
            refine takeD (i := 3) (v := ?v10) (some 42) rfl (by kernel_rfl) (by kernel_rfl) (by kernel_rfl) (fun _ _ _ h => h) (Or.inl ⟨by rfl, ?hy10⟩) (by assumption) (by rfl) ?rest10
            case hy10 => first | (intro w hSw; (try dsimp only at hSw); obtain ⟨q1, q2⟩ := hSw; go_simp; done) | (intro w hSw; (try dsimp only at hSw); obtain ⟨q1, q2⟩ := hSw; go_simp; with_reducible rfl)
            try simp only [Act.put, List.setIfInBounds_toArray, List.set_cons_zero, List.set_cons_succ]
            refine takeD (i := 4) (v := ?v11) (some 43) rfl (by kernel_rfl) (by kernel_rfl) (by kernel_rfl) (fun _ _ _ h => h) (Or.inl ⟨by rfl, ?hy11⟩) (by assumption) (by rfl) ?rest11
            case hy11 => first | (intro w hSw; (try dsimp only at hSw); obtain ⟨q1, q2⟩ := hSw; go_simp; done) | (intro w hSw; (try dsimp only at hSw); obtain ⟨q1, q2⟩ := hSw; go_simp; with_reducible rfl)
            try simp only [Act.put, List.setIfInBounds_toArray, List.set_cons_zero, List.set_cons_succ]
            refine takeD (i := 5) (v := ?v12) (some 44) rfl (by kernel_rfl) (by kernel_rfl) (by kernel_rfl) (fun _ _ _ h => h) (Or.inl ⟨by rfl, ?hy12⟩) (by assumption) (by rfl) ?rest12
            case hy12 => first | (intro w hSw; (try dsimp only at hSw); obtain ⟨q1, q2⟩ := hSw; go_simp; done) | (intro w hSw; (try dsimp only at hSw); obtain ⟨q1, q2⟩ := hSw; go_simp; with_reducible rfl)
            try simp only [Act.put, List.setIfInBounds_toArray, List.set_cons_zero, List.set_cons_succ]
            refine takeD (i := 7) (v := ?v13) (some 46) rfl (by kernel_rfl) (by kernel_rfl) (by kernel_rfl) (fun _ _ _ h => h) (Or.inl ⟨by rfl, ?hy13⟩) (by assumption) (by rfl) ?rest13
            case hy13 => first | (intro w hSw; (try dsimp only at hSw); obtain ⟨q1, q2⟩ := hSw; go_simp; done) | (intro w hSw; (try dsimp only at hSw); obtain ⟨q1, q2⟩ := hSw; go_simp; with_reducible rfl)
            try simp only [Act.put, List.setIfInBounds_toArray, List.set_cons_zero, List.set_cons_succ]
            refine takeD (i := 8) (v := ?v14) (some 47) rfl (by kernel_rfl) (by kernel_rfl) (by kernel_rfl) (fun _ _ _ h => h) (Or.inl ⟨by rfl, ?hy14⟩) (by assumption) (by rfl) ?rest14
            case hy14 => first | (intro w hSw; (try dsimp only at hSw); obtain ⟨q1, q2⟩ := hSw; go_simp; done) | (intro w hSw; (try dsimp only at hSw); obtain ⟨q1, q2⟩ := hSw; go_simp; with_reducible rfl)
            try simp only [Act.put, List.setIfInBounds_toArray, List.set_cons_zero, List.set_cons_succ]
            refine wpAnyH_ready (rs := [6]) (by kernel_rfl) (by simp) ?_
            refine AllReadyH.cons rfl (fun K hK => ?_) AllReadyH.nil
            go_simp
            refine hK.out _ _ (HS11.out _ (by (first | exact (bdrewN (Below.refl _ _) _).drew | exact ((Below.refl _ _).drew).drew | exact (Below.refl _ _).drew | exact bdrewN (Below.refl _ _) _ | exact Below.refl _ _))) (fun hHeld => ?_)
            clear hK K
            try simp only [Act.put, List.setIfInBounds_toArray, List.set_cons_zero, List.set_cons_succ]
            refine wpAnyH_ready (rs := [9]) (by kernel_rfl) (by simp) ?_
            refine AllReadyH.cons rfl (fun K hK => ?_) AllReadyH.nil
            go_simp
            refine (HADD.out _ (by (first | exact (bdrewN (Below.refl _ _) _).drew | exact ((Below.refl _ _).drew).drew | exact (Below.refl _ _).drew | exact bdrewN (Below.refl _ _) _ | exact Below.refl _ _))).mono ?_
            rintro e w4 ⟨v4, rfl, hr4, hb4⟩
            obtain ⟨nb, na, nL, nc, rfl⟩ := hr4.form
            have HB4 : Hid (Below wb.heap.size wb w4) := bafter (by (first | exact (bdrewN (Below.refl _ _) _).drew | exact ((Below.refl _ _).drew).drew | exact (Below.refl _ _).drew | exact bdrewN (Below.refl _ _) _ | exact Below.refl _ _)) hb4 (Nat.le_refl _)
            have HR4 := hide hr4
            clear hr4 hb4 hHeld
            go_wp2_with fail
            refine hK.out _ _ (HS11.out _ HB4.out) (fun hHeld => ?_)
            clear hK K
            try simp only [Act.put, List.setIfInBounds_toArray, List.set_cons_zero, List.set_cons_succ]
            refine takeD (i := 10) (v := ?v15) (some 49) rfl (by kernel_rfl) (by kernel_rfl) (by kernel_rfl) (fun _ _ _ h => h) (Or.inl ⟨by rfl, ?hy15⟩) (by assumption) (by rfl) ?rest15
            case hy15 => first | (intro w hSw; (try dsimp only at hSw); obtain ⟨q1, q2⟩ := hSw; go_simp; done) | (intro w hSw; (try dsimp only at hSw); obtain ⟨q1, q2⟩ := hSw; go_simp; with_reducible rfl)
            try simp only [Act.put, List.setIfInBounds_toArray, List.set_cons_zero, List.set_cons_succ]
            refine takeD (i := 11) (v := ?v16) (some 50) rfl (by kernel_rfl) (by kernel_rfl) (by kernel_rfl) (fun _ _ _ h => h) (Or.inl ⟨by rfl, ?hy16⟩) (by assumption) (by rfl) ?rest16
            case hy16 => first | (intro w hSw; (try dsimp only at hSw); obtain ⟨q1, q2⟩ := hSw; go_simp; done) | (intro w hSw; (try dsimp only at hSw); obtain ⟨q1, q2⟩ := hSw; go_simp; with_reducible rfl)
            try simp only [Act.put, List.setIfInBounds_toArray, List.set_cons_zero, List.set_cons_succ]
            obtain ⟨_, z1, z2, zf⟩ := HROW.out w4 HB4.out
            have zf1 := zf (yl * 3 + 1)
            have zf2 := zf (yl * 3 + 2)
            clear zf
            obtain ⟨ho6, hf6⟩ := own_last HYL.out HN.out (HOB.out.below HB4.out) HSLX.out nb (.slice na nL nc) (xz + z)
            simp only at ho6 hf6
            have HO6 := hide ho6
            have HF6 := hide hf6
            clear ho6 hf6
            have HS6 : Hid (((w4.setCell ⟨g, yl * 3 + 1, none⟩ (.bool nb)).setCell ⟨g, yl * 3 + 2, none⟩ (.slice na nL nc)).cell? ⟨wr.heap.size, 1, none⟩ = some (.bool neg) ∧ ((w4.setCell ⟨g, yl * 3 + 1, none⟩ (.bool nb)).setCell ⟨g, yl * 3 + 2, none⟩ (.slice na nL nc)).cell? ⟨wr.heap.size, 2, none⟩ = some (.slice ma mL mc)) := by
              have hg := HGW.out
              obtain ⟨y1, y2⟩ := HS11.out _ HB4.out
              have hne : ∀ i j, (⟨g, i, none⟩ : Addr) ≠ ⟨wr.heap.size, j, none⟩ := fun i j e => by simp only [Addr.mk.injEq] at e; omega
              rw [World.cell?_setCell_other _ _ _ _ (hne _ _), World.cell?_setCell_other _ _ _ _ (hne _ _), World.cell?_setCell_other _ _ _ _ (hne _ _), World.cell?_setCell_other _ _ _ _ (hne _ _)]
              exact ⟨y1, y2⟩
            have HG6 : Hid (GoodR ((w4.setCell ⟨g, yl * 3 + 1, none⟩ (.bool nb)).setCell ⟨g, yl * 3 + 2, none⟩ (.slice na nL nc)) (Y ++ [(xv, nb, .slice na nL nc, xz + z)])) := by
              intro m hm
              rcases List.mem_append.1 hm with h | h
              · exact ((HGB.out.below HB4.out).k32 HF6.out.2) m (List.mem_append.2 (.inl h))
              · simp at h
                subst h
                exact ⟨HRG.out, HR4.out.k32 HF6.out.2⟩
            have HBW6 : Hid (Below w3.heap.size w3 ((w4.setCell ⟨g, yl * 3 + 1, none⟩ (.bool nb)).setCell ⟨g, yl * 3 + 2, none⟩ (.slice na nL nc))) := (HW3.out.trans (HB4.out.mono HW3.out.size)).trans HF6.out.1
            refine wpAnyH_ready (rs := [12]) (by kernel_rfl) (by simp) ?_
            refine AllReadyH.cons rfl (fun K hK => ?_) AllReadyH.nil
            go_simp
            generalize (w4.setCell ⟨g, yl * 3 + 1, none⟩ (.bool nb)).setCell ⟨g, yl * 3 + 2, none⟩ (.slice na nL nc) = w6 at *
            refine hK.out _ _ (HS6.out) (fun hHeld => ?_)
            clear hK K hHeld
            try simp only [Act.put, List.setIfInBounds_toArray, List.set_cons_zero, List.set_cons_succ]
            refine wpAnyH_done (by kernel_rfl) ?_ _
            clear z1 z2 zf1 zf2
            go_wp2
            go_roundw
            case rel =>
              refine ⟨k + 1, Y ++ [(xv, nb, .slice na nL nc, xz + z)], _, _, by omega, by go_num, ?_, HRUN.out.more HM.out rfl nb _, HO6.out, HG6.out, HBW6.out⟩
              rw [← HN.out]
              simp
            case measure => simp [RowKit.intOf]; omega
          · have HNE : Hid (∀ Y' x', Y ++ [((xv, xn, .slice xa xL xc, xz) : Pt)] = Y' ++ [x'] → x'.1 ≠ vr) := fun Y' x' e => by
              have h1 := (List.append_inj' e rfl).2
              simp only [List.cons.injEq, and_true] at h1
              subst h1
              exact hev
            have qe : (xv == vr) = false := beq_eq_false_iff_ne.2 hev
            have HEV := hide hev
            clear hev
            go_upto_region 10 with fail
            rw [HWB.out]
            go_quiet (fail)
            go_upto_region 12 with fail
            refine wp_region_held_drew (S := fun X : World => X.cell? ⟨wr.heap.size, 0, none⟩ = some (.int .i64 vr) ∧ X.cell? ⟨wr.heap.size, 1, none⟩ = some (.bool neg) ∧ X.cell? ⟨wr.heap.size, 2, none⟩ = some (.slice ma mL mc)) (by kernel_rfl) ?_ (fun hHeld => ?_)
            · exact HS12.out _ (by (first | exact (bdrewN (Below.refl _ _) _).drew | exact ((Below.refl _ _).drew).drew | exact (Below.refl _ _).drew | exact bdrewN (Below.refl _ _) _ | exact Below.refl _ _))
            refine takeD (i := 0) (v := ?v17) (some 51) rfl (by kernel_rfl) (by kernel_rfl) (by kernel_rfl) (fun _ _ _ h => h) (Or.inl ⟨by rfl, ?hy17⟩) (by assumption) (by rfl) ?rest17
            case hy17 => first | (intro w hSw; (try dsimp only at hSw); obtain ⟨q0, q1, q2⟩ := hSw; go_simp; done) | (intro w hSw; (try dsimp only at hSw); obtain ⟨q0, q1, q2⟩ := hSw; go_simp; with_reducible rfl)
            try simp only [Act.put, List.setIfInBounds_toArray, List.set_cons_zero, List.set_cons_succ]
            refine takeD (i := 1) (v := ?v18) (some 52) rfl (by kernel_rfl) (by kernel_rfl) (by kernel_rfl) (fun _ _ _ h => h) (Or.inl ⟨by rfl, ?hy18⟩) (by assumption) (by rfl) ?rest18
            case hy18 => first | (intro w hSw; (try dsimp only at hSw); obtain ⟨q0, q1, q2⟩ := hSw; go_simp; done) | (intro w hSw; (try dsimp only at hSw); obtain ⟨q0, q1, q2⟩ := hSw; go_simp; with_reducible rfl)
            try simp only [Act.put, List.setIfInBounds_toArray, List.set_cons_zero, List.set_cons_succ]
            refine takeD (i := 2) (v := ?v19) (some 53) rfl (by kernel_rfl) (by kernel_rfl) (by kernel_rfl) (fun _ _ _ h => h) (Or.inl ⟨by rfl, ?hy19⟩) (by assumption) (by rfl) ?rest19
            case hy19 => first | (intro w hSw; (try dsimp only at hSw); obtain ⟨q0, q1, q2⟩ := hSw; go_simp; done) | (intro w hSw; (try dsimp only at hSw); obtain ⟨q0, q1, q2⟩ := hSw; go_simp; with_reducible rfl)
            try simp only [Act.put, List.setIfInBounds_toArray, List.set_cons_zero, List.set_cons_succ]
            refine takeD (i := 3) (v := ?v20) (some 54) rfl (by kernel_rfl) (by kernel_rfl) (by kernel_rfl) (fun _ _ _ h => h) (Or.inl ⟨by rfl, ?hy20⟩) (by assumption) (by rfl) ?rest20
            case hy20 => first | (intro w hSw; (try dsimp only at hSw); obtain ⟨q0, q1, q2⟩ := hSw; go_simp; done) | (intro w hSw; (try dsimp only at hSw); obtain ⟨q0, q1, q2⟩ := hSw; go_simp; with_reducible rfl)
            try simp only [Act.put, List.setIfInBounds_toArray, List.set_cons_zero, List.set_cons_succ]
            refine takeD (i := 4) (v := ?v21) (some 55) rfl (by kernel_rfl) (by kernel_rfl) (by kernel_rfl) (fun _ _ _ h => h) (Or.inl ⟨by rfl, ?hy21⟩) (by assumption) (by rfl) ?rest21
            case hy21 => first | (intro w hSw; (try dsimp only at hSw); obtain ⟨q0, q1, q2⟩ := hSw; go_simp; done) | (intro w hSw; (try dsimp only at hSw); obtain ⟨q0, q1, q2⟩ := hSw; go_simp; with_reducible rfl)
            try simp only [Act.put, List.setIfInBounds_toArray, List.set_cons_zero, List.set_cons_succ]
            refine wpAnyH_ready (rs := [5]) (by kernel_rfl) (by simp) ?_
            refine AllReadyH.cons rfl (fun K hK => ?_) AllReadyH.nil
            go_simp
            refine (HNRM.out _ (by (first | exact (bdrewN (Below.refl _ _) _).drew | exact ((Below.refl _ _).drew).drew | exact (Below.refl _ _).drew | exact bdrewN (Below.refl _ _) _ | exact Below.refl _ _))).mono ?_
            rintro e w4 ⟨v4, rfl, hr4, hb4⟩
            obtain ⟨nb, na, nL, nc, rfl⟩ := hr4.form
            have HB4 : Hid (Below wb.heap.size wb w4) := bafter (by (first | exact (bdrewN (Below.refl _ _) _).drew | exact ((Below.refl _ _).drew).drew | exact (Below.refl _ _).drew | exact bdrewN (Below.refl _ _) _ | exact Below.refl _ _)) hb4 (Nat.le_refl _)
            have HR4 := hide hr4
            clear hr4 hb4 hHeld
            go_wp2_with fail
            refine hK.out _ _ (HS12.out _ HB4.out) (fun hHeld => ?_)
            clear hK K
            try simp only [Act.put, List.setIfInBounds_toArray, List.set_cons_zero, List.set_cons_succ]
            refine takeD (i := 6) (v := ?v22) (some 57) rfl (by kernel_rfl) (by kernel_rfl) (by kernel_rfl) (fun _ _ _ h => h) (Or.inl ⟨by rfl, ?hy22⟩) (by assumption) (by rfl) ?rest22
            case hy22 => first | (intro w hSw; (try dsimp only at hSw); obtain ⟨q0, q1, q2⟩ := hSw; go_simp; done) | (intro w hSw; (try dsimp only at hSw); obtain ⟨q0, q1, q2⟩ := hSw; go_simp; with_reducible rfl)
            try simp only [Act.put, List.setIfInBounds_toArray, List.set_cons_zero, List.set_cons_succ]
            refine wpAnyH_ready (rs := [7]) (by kernel_rfl) (by simp) ?_
            refine AllReadyH.cons rfl (fun K hK => ?_) AllReadyH.nil
            go_simp
            have hbl := bel w4 (.cells #[.int .i64 vr, .bool nb, .slice na nL nc] 31)
            have HB5 := hide (bafter HB4.out hbl (Nat.le_refl _))
            have HBL := hide hbl
            have HRL := hide (row_lit w4 vr nb (.slice na nL nc) z)
            clear hbl
            generalize hw5 : w4.alloc (.cells #[.int .i64 vr, .bool nb, .slice na nL nc] 31) = w5 at *
            refine hK.out _ _ (HS12.out _ HB5.out) (fun hHeld => ?_)
            clear hK K hHeld
            try simp only [Act.put, List.setIfInBounds_toArray, List.set_cons_zero, List.set_cons_succ]
            obtain ⟨v6, w6, hrun6, ho6, hg6, ha6, hk6⟩ := run_appP w5 w3.heap.size 25 _ (Y ++ [((xv, xn, .slice xa xL xc, xz) : Pt)]) (HOB.out.below HB5.out) _ [(vr, nb, .slice na nL nc, z)] HRL.out (fun m hm => by simp at hm; subst hm; rfl) (by have h9 := HXL.out; (try have h8 := HN.out); simp only [List.length_append, List.length_cons, List.length_nil] at *; omega) (Nat.le_trans HSN.out (Nat.le_trans (by have := HSZB.out; omega) HB5.out.size))
            have HG6 : Hid (GoodR w6 ((Y ++ [((xv, xn, .slice xa xL xc, xz) : Pt)]) ++ [(vr, nb, .slice na nL nc, z)])) := by
              intro m hm
              rcases List.mem_append.1 hm with h | h
              · exact ((HGB.out.below HB5.out).k32 hk6) m h
              · simp at h
                subst h
                exact ⟨HRG.out, (HR4.out.below HBL.out).k32 hk6⟩
            have HBW6 : Hid (Below w3.heap.size w3 w6) := (HW3.out.trans (HB5.out.mono HW3.out.size)).grown hg6 (Nat.le_trans HW3.out.size HB5.out.size) (fun j hj => (HOB.out.lt hj).1)
            have HS6 : Hid (w6.cell? ⟨wr.heap.size, 0, none⟩ = some (.int .i64 vr) ∧ w6.cell? ⟨wr.heap.size, 1, none⟩ = some (.bool neg) ∧ w6.cell? ⟨wr.heap.size, 2, none⟩ = some (.slice ma mL mc)) := by
              have hne : ∀ q, some wr.heap.size ≠ q ∨ (∀ j, q = some j → j < wr.heap.size) → True := fun _ _ => trivial
              have hk : w6.heap[wr.heap.size]? = w5.heap[wr.heap.size]? := hg6.block _ (by have := HB5.out.size; have := HSZB.out; omega) (fun e => by have := (HO.out.lt e.symm).2; omega)
              obtain ⟨y0, y1, y2⟩ := HS12.out _ HB5.out
              exact ⟨(World.cell?_of_block (a := ⟨wr.heap.size, 0, none⟩) hk).trans y0, (World.cell?_of_block (a := ⟨wr.heap.size, 1, none⟩) hk).trans y1, (World.cell?_of_block (a := ⟨wr.heap.size, 2, none⟩) hk).trans y2⟩
            obtain ⟨oa6, oc6, rfl, _, _⟩ := ho6.len
            have HO6 := hide ho6
            clear ho6 hg6 ha6 hk6
            refine wpAnyH_ready (rs := [8]) (by kernel_rfl) (by simp) ?_
            refine AllReadyH.cons rfl (fun K hK => ?_) AllReadyH.nil
            refine Lib.wp_append_run _ _ _ _ _ rfl _ _ rfl rfl _ _ hrun6 ?_
            clear hrun6
            refine hK.out _ _ (HS6.out) (fun hHeld => ?_)
            clear hK K hHeld
            try simp only [Act.put, List.setIfInBounds_toArray, List.set_cons_zero, List.set_cons_succ]
            refine wpAnyH_ready (rs := [9]) (by kernel_rfl) (by simp) ?_
            refine AllReadyH.cons rfl (fun K hK => ?_) AllReadyH.nil
            go_simp
            refine hK.out _ _ (HS6.out) (fun hHeld => ?_)
            clear hK K hHeld
            try simp only [Act.put, List.setIfInBounds_toArray, List.set_cons_zero, List.set_cons_succ]
            refine wpAnyH_done (by kernel_rfl) ?_ _
            go_wp2
            go_roundw
            case rel => exact ⟨k + 1, (Y ++ [((xv, xn, .slice xa xL xc, xz) : Pt)]) ++ [(vr, nb, .slice na nL nc, z)], _, _, by omega, by go_num, (by first | rfl | simp), HRUN.out.new HSO.out HM.out HNE.out nb _, HO6.out, HG6.out, HBW6.out⟩
            case measure => simp [RowKit.intOf]; omega
      · obtain rfl : k = Ln := by omega
        have d1 : ¬ (k : Int) < (k : Int) := by omega
        have HGA := hide (HGR.out.arg (run_bnd HRUN.out (fun p hp => HBD.out p ((ps_perm HP.out).mem_iff.1 hp))) (by rw [HML.out]; omega))
        have hwz := wz_calls HO.out HGA.out (by have := HXL.out; omega) (HBW.out.size)
        generalize hXn : X.length = Xn at *
        go_wp2_with fail
        refine hwz.mono ?_
        rintro e w5 ⟨v5, rfl, ho5, hf5⟩
        obtain ⟨ao5, cap5, rfl, _, _⟩ := ho5.len
        have HO5 := hide ho5
        have HF5 := hide hf5
        clear ho5 hf5 hwz
        go_wp2
        go_ret
        have hr := HRUN.out
        refine ⟨_, _, rfl, HO5.out.row, ?_, ?_, ?_, ?_⟩
        · exact fun m hm => (HGR.out.k32 HF5.out.2) m (List.mem_filter.1 hm).1
        · refine ⟨?_, fun p hp => ?_⟩
          · exact hr.rise.sublist ((List.filter_sublist (l := X)).map pt)
          · obtain ⟨m, hm, rfl⟩ := List.mem_map.1 hp
            have := (List.mem_filter.1 hm).2
            simpa [pt] using this
        · intro u
          have e1 : ps (X.filter fun m => !decide (m.2.2.2 = 0)) = (ps X).filter fun p => decide (p.2 ≠ 0) := by
            unfold ps
            rw [List.filter_map]
            congr 1
            apply List.filter_congr
            intro m hm
            by_cases h0 : m.2.2.2 = 0 <;> simp [pt, h0]
          rw [e1, cf_nonzero, hr.cf u, List.take_of_length_le (by rw [HML.out]; omega), cf_perm (ps_perm HP.out)]
        · exact (HB3.out.trans (HBW.out.mono HB3.out.size)).trans (HF5.out.1.mono HB3.out.size)

end Go.Proofs.YtkdhcpfmlelfcaaDoor

namespace Go.Proofs.YtkdhcpfmlelfcaaDoor
set_option linter.unusedVariables false
set_option linter.unusedSimpArgs false
set_option maxRecDepth 100000
open Go Go.RowKit Go.Shelf Go.Lib

/-- A block of three cells, that may be written. -/
def Thr (W : World) (b : Nat) (x y z : Value) (t : TypeId) : Prop := W.heap[b]? = some (.cells #[x, y, z] t (0, 0))
theorem Thr.keep {W W' : World} {b : Nat} {x y z : Value} {t : TypeId} (h : Thr W b x y z t) (hb : Below W.heap.size W W') : Thr W' b x y z t := (hb.block b (Array.getElem?_eq_some_iff.1 h).1).trans h
theorem Thr.keep' {n : Nat} {W W' : World} {b : Nat} {x y z : Value} {t : TypeId} (h : Thr W b x y z t) (hb : Below n W W') (hn : b < n) : Thr W' b x y z t := (hb.block b hn).trans h
theorem Thr.c0 {W : World} {b : Nat} {x y z : Value} {t : TypeId} (h : Thr W b x y z t) : W.cell? ⟨b, 0, none⟩ = some x := by rw [cell_of_row W b 0 _ _ _ h]; rfl
theorem Thr.c1 {W : World} {b : Nat} {x y z : Value} {t : TypeId} (h : Thr W b x y z t) : W.cell? ⟨b, 1, none⟩ = some y := by rw [cell_of_row W b 1 _ _ _ h]; rfl
theorem Thr.c2 {W : World} {b : Nat} {x y z : Value} {t : TypeId} (h : Thr W b x y z t) : W.cell? ⟨b, 2, none⟩ = some z := by rw [cell_of_row W b 2 _ _ _ h]; rfl
theorem Thr.f0 {W : World} {b : Nat} {x y z : Value} {t : TypeId} (h : Thr W b x y z t) (j : Nat) : W.frozen? ⟨b, j, none⟩ = false := frozen_of_row W b j _ _ h
theorem Thr.lt {W : World} {b : Nat} {x y z : Value} {t : TypeId} (h : Thr W b x y z t) : b < W.heap.size := (Array.getElem?_eq_some_iff.1 h).1
theorem Thr.new (W : World) (x y z : Value) (t : TypeId) : Thr (W.alloc (.cells #[x, y, z] t)) W.heap.size x y z t := World.alloc_heap_new W _
theorem Thr.new1 (W : World) (o : Obj) (x y z : Value) (t : TypeId) : Thr ((W.alloc o).alloc (.cells #[x, y, z] t)) (W.heap.size + 1) x y z t := by
  have h := Thr.new (W.alloc o) x y z t
  rw [World.size_alloc] at h
  exact h
theorem Thr.alloc {W : World} {b : Nat} {x y z : Value} {t : TypeId} (h : Thr W b x y z t) (o : Obj) : Thr (W.alloc o) b x y z t := h.keep (bel W o)
theorem Thr.every {W : World} {b : Nat} {x y z : Value} {t : TypeId} (h : Thr W b x y z t) : W.cell? ⟨b, 0, none⟩ = some x ∧ W.cell? ⟨b, 1, none⟩ = some y ∧ W.cell? ⟨b, 2, none⟩ = some z ∧ W.frozen? ⟨b, 0, none⟩ = false ∧ W.frozen? ⟨b, 1, none⟩ = false ∧ W.frozen? ⟨b, 2, none⟩ = false :=
  ⟨h.c0, h.c1, h.c2, h.f0 _, h.f0 _, h.f0 _⟩
/-- The world behind a store of three cells. -/
def put3 (W : World) (b : Nat) (p q r : Value) : World := ((W.setCell ⟨b, 0, none⟩ p).setCell ⟨b, 1, none⟩ q).setCell ⟨b, 2, none⟩ r
theorem Thr.put {W : World} {b : Nat} {x y z : Value} {t : TypeId} (h : Thr W b x y z t) (p q r : Value) : Thr (put3 W b p q r) b p q r t := by
  have h1 := heap_setCell_same W b 0 _ _ p h
  have h2 := heap_setCell_same _ b 1 _ _ q h1
  have h3 := heap_setCell_same _ b 2 _ _ r h2
  exact h3
theorem put3_other {W : World} {b k : Nat} (h : k ≠ b) (p q r : Value) : (put3 W b p q r).heap[k]? = W.heap[k]? :=
  (heap_setCell_other _ ⟨b, 2, none⟩ k r h).trans ((heap_setCell_other _ ⟨b, 1, none⟩ k q h).trans (heap_setCell_other W ⟨b, 0, none⟩ k p h))
theorem put3_below {n : Nat} {w W : World} {b : Nat} (h : Below n w W) (hb : n ≤ b) (p q r : Value) : Below n w (put3 W b p q r) :=
  ((h.setCell (p := ⟨b, 0, none⟩) hb p).setCell (p := ⟨b, 1, none⟩) hb q).setCell (p := ⟨b, 2, none⟩) hb r
/-- A number's and a sum's boxes hold no whole number. -/
def NoInt (W : World) (b : Nat) : Prop := ∀ j k x, W.cell? ⟨b, j, none⟩ ≠ some (.int k x)
theorem Thr.noInt {W : World} {b : Nat} {x : Bool} {y z : Option Addr} {l c l' c' : Nat} {t : TypeId} (h : Thr W b (.bool x) (.slice y l c) (.slice z l' c') t) : NoInt W b := by
  intro j k v hc
  rw [cell_of_row W b j _ _ _ h] at hc
  match j, hc with
  | 0, hc => simp at hc
  | 1, hc => simp at hc
  | 2, hc => simp at hc
  | n + 3, hc => simp at hc
theorem Two.noInt {W : World} {b : Nat} {x : Bool} {y : Option Addr} {l c : Nat} {t : TypeId} (h : Two W b (.bool x) (.slice y l c) t) : NoInt W b := by
  intro j k v hc
  rw [cell_of_row W b j _ _ _ h] at hc
  match j, hc with
  | 0, hc => simp at hc
  | 1, hc => simp at hc
  | n + 2, hc => simp at hc
theorem NoInt.off {W : World} {b : Nat} (h : NoInt W b) {a : Addr} {k : IntKind} {x : Int} (hc : W.cell? a = some (.int k x)) : a.block ≠ b := by
  intro e
  obtain ⟨ab, ao, asp⟩ := a
  have hs : asp = none := World.cell?_spot hc
  subst hs
  simp only at e
  subst e
  exact h _ _ _ hc
/-- All blocks but one are as they were, and that one holds no whole number. -/
structure ButN (b : Nat) (W W' : World) : Prop where
  no : NoInt W b
  same : ∀ k, k ≠ b → W'.heap[k]? = W.heap[k]?
theorem ButN.k32 {b : Nat} {W W' : World} (h : ButN b W W') : K32 W W' := fun a x hc =>
  (World.cell?_of_block (h.same a.block (h.no.off hc))).trans hc
theorem ButN.row {b : Nat} {W W' : World} (h : ButN b W W') {v : Value} {M : List Pt} (hr : RowP W v M) : RowP W' v M := by
  obtain ⟨ao, cap, e, h1, h2, h3⟩ := hr
  refine ⟨ao, cap, e, h1, h2, fun j m hj => ?_⟩
  obtain ⟨bb, o, e2, hc⟩ := h3 j m hj
  refine ⟨bb, o, e2, hc.keep (fun a u hu ha => ?_)⟩
  exact (World.cell?_of_block (h.same a.block (by rw [ha]; exact h.no.off (a := ⟨bb, o + j * 3, none⟩) hc.1))).trans hu
theorem Thr.but {W : World} {b : Nat} {x : Bool} {y z : Option Addr} {l c l' c' : Nat} {t : TypeId} (h : Thr W b (.bool x) (.slice y l c) (.slice z l' c') t) (p q r : Value) : ButN b W (put3 W b p q r) := ⟨h.noInt, fun k hk => put3_other hk p q r⟩
theorem Two.but {W : World} {b : Nat} {x : Bool} {y : Option Addr} {l c : Nat} {t : TypeId} (h : Two W b (.bool x) (.slice y l c) t) (p q : Value) : ButN b W ((W.setCell ⟨b, 0, none⟩ p).setCell ⟨b, 1, none⟩ q) :=
  ⟨h.noInt, fun k hk => (heap_setCell_other _ ⟨b, 1, none⟩ k q hk).trans (heap_setCell_other W ⟨b, 0, none⟩ k p hk)⟩

theorem results_term {fn : Func} {k : Tmp} (h : fn.results = #[.cell k 27]) {tmps : Array Value} {W : World} {b : Nat} {x y z : Value} {t : TypeId} (hp : tmps.getD k undef = .pointer (some ⟨b, 0, none⟩)) (T : Thr W b x y z t) :
    (results fn tmps).run Tryd.prog W = .ok (.agg #[x, y, z]) W := by
  have c0 := T.c0
  have c1 := T.c1
  have c2 := T.c2
  have hp' : tmps[k]?.getD undef = .pointer (some ⟨b, 0, none⟩) := by simpa using hp
  simp [results, h, hp', go_sem, c0, c1, c2]

/-- A sum as an argument: numbers of no more than k limbs, and few parts, or the one form. -/
def TermA (k : Nat) (W : World) (v : Value) (c : Int) (M : List Pt) : Prop :=
  ∃ cn ca cL cc pa pl pc, v = .agg #[.bool cn, .slice ca cL cc, .slice pa pl pc] ∧ BArg W (.agg #[.bool cn, .slice ca cL cc]) c ∧ c.natAbs < R ^ k ∧ RowP W (.slice pa pl pc) M ∧ GoodA W M ∧ Bnd k (ps M) ∧ (M.length ≤ 12 ∨ One W M M.length) ∧ M.length ≤ 1000
/-- A sum as an answer: the one form. -/
def TermR (W : World) (v : Value) (c : Int) (M : List Pt) : Prop :=
  ∃ cn ca cL cc pa pl pc, v = .agg #[.bool cn, .slice ca cL cc, .slice pa pl pc] ∧ BRes W (.agg #[.bool cn, .slice ca cL cc]) c ∧ RowP W (.slice pa pl pc) M ∧ GoodR W M ∧ NF (ps M)

theorem One.all {W : World} {M : List Pt} (h1 : NF (ps M)) (h2 : GoodR W M) : One W M M.length := by
  unfold One
  rw [List.take_length]
  exact ⟨h1, h2⟩
theorem One.below {W W' : World} {M : List Pt} {k : Nat} (h : One W M k) (hb : Below W.heap.size W W') : One W' M k := ⟨h.1, h.2.below hb⟩
theorem TermA.below {k : Nat} {W W' : World} {v : Value} {c : Int} {M : List Pt} (h : TermA k W v c M) (hb : Below W.heap.size W W') : TermA k W' v c M := by
  obtain ⟨cn, ca, cL, cc, pa, pl, pc, e, h1, h2, h3, h4, h5, h6, h7⟩ := h
  exact ⟨cn, ca, cL, cc, pa, pl, pc, e, h1.below hb, h2, h3.below hb, h4.below hb, h5, h6.imp id (fun h => h.below hb), h7⟩
theorem TermR.below {W W' : World} {v : Value} {c : Int} {M : List Pt} (h : TermR W v c M) (hb : Below W.heap.size W W') : TermR W' v c M := by
  obtain ⟨cn, ca, cL, cc, pa, pl, pc, e, h1, h3, h4, h5⟩ := h
  exact ⟨cn, ca, cL, cc, pa, pl, pc, e, h1.below hb, h3.below hb, h4.below hb, h5⟩
theorem TermR.but {b : Nat} {W W' : World} {v : Value} {c : Int} {M : List Pt} (h : TermR W v c M) (hb : ButN b W W') : TermR W' v c M := by
  obtain ⟨cn, ca, cL, cc, pa, pl, pc, e, h1, h3, h4, h5⟩ := h
  exact ⟨cn, ca, cL, cc, pa, pl, pc, e, h1.k32 hb.k32, hb.row h3, h4.k32 hb.k32, h5⟩
theorem TermR.form {W : World} {v : Value} {c : Int} {M : List Pt} (h : TermR W v c M) : ∃ cn ca cL cc pa pl pc, v = .agg #[.bool cn, .slice ca cL cc, .slice pa pl pc] := by
  obtain ⟨cn, ca, cL, cc, pa, pl, pc, e, _⟩ := h
  exact ⟨cn, ca, cL, cc, pa, pl, pc, e⟩
theorem TermR.arg {k : Nat} {W : World} {v : Value} {c : Int} {M : List Pt} (h : TermR W v c M) (hc : c.natAbs < R ^ k) (hM : Bnd k (ps M)) (hk : k ≤ 1048576) (hl : M.length ≤ 1000) : TermA k W v c M := by
  obtain ⟨cn, ca, cL, cc, pa, pl, pc, e, h1, h3, h4, h5⟩ := h
  exact ⟨cn, ca, cL, cc, pa, pl, pc, e, h1.arg hc hk, hc, h3, h4.arg hM hk, hM, .inr (One.all h5 h4), hl⟩

def MadeE (w : World) (cn : Bool) (cm pv : Value) (e : Ending) (w' : World) : Prop :=
  ∃ pa pl pc, e = .returned (.agg #[.bool cn, cm, .slice pa pl pc]) ∧ (∀ W M, RowP W pv M → RowP W (.slice pa pl pc) M) ∧ Below w.heap.size w w'

theorem eq_zero_dec (n : Nat) (h : n ≠ 0) : ((n : Int) == 0) = false := beq_eq_false_iff_ne.2 (by omega)
set_option maxHeartbeats 2000000 in
theorem made_calls {w : World} {cn : Bool} {ca : Option Addr} {cL cc : Nat} {pa : Option Addr} {pl pc : Nat} :
    Calls Tryd.prog 17 #[.agg #[.bool cn, .slice ca cL cc], .slice pa pl pc] w fun e w' => MadeE w cn (.slice ca cL cc) (.slice pa pl pc) e w' := by
  by_cases h : pl = 0
  · subst h
    go_enter Tryd.func17, Tryd.ntmps17
    go_wp2
    refine bodyPost_ret (results_term rfl rfl (Thr.new1 _ _ _ _ _ _)) rfl ?_
    refine ⟨_, _, _, rfl, fun W M hr => ?_, (bel _ _).trans ((bel _ _).mono (by simp))⟩
    obtain ⟨ao, cap, e, h1, h2, h3⟩ := hr
    obtain rfl : M = [] := by
      simp only [Value.slice.injEq] at e
      exact List.eq_nil_of_length_eq_zero e.2.1.symm
    exact ⟨none, 0, rfl, Nat.le_refl _, by simp [maxLen], fun j m hj => by simp at hj⟩
  · have e0 := eq_zero_dec pl h
    clear h
    go_enter Tryd.func17, Tryd.ntmps17
    go_wp2
    refine bodyPost_ret (results_term rfl rfl (Thr.new1 _ _ _ _ _ _)) rfl ?_
    exact ⟨_, _, _, rfl, fun W M hr => hr, (bel _ _).trans ((bel _ _).mono (by simp))⟩

/-- A row of one's own, of parts that a sum answers. -/
def OwnT (n : Nat) (W : World) (v : Value) (M : List Pt) : Prop := ∃ cn cm pa pl pc, v = .agg #[.bool cn, cm, .slice pa pl pc] ∧ OwnP n W (.slice pa pl pc) M
theorem OwnP.down {n m : Nat} {W : World} {v : Value} {M : List Pt} (h : OwnP n W v M) (hm : m ≤ n) : OwnP m W v M :=
  ⟨⟨h.1.1, h.1.2.imp id (fun ⟨g, cap, cur, hv, h1, h2⟩ => ⟨g, cap, cur, hv, Nat.le_trans hm h1, h2⟩)⟩, h.2⟩
theorem OwnP.off {n b : Nat} {W W' : World} {v : Value} {M : List Pt} (h : OwnP n W v M) {x y z : Value} {t : TypeId} (hb : Thr W b x y z t) (ht : t ≠ 31) (hk : ∀ k, k ≠ b → W'.heap[k]? = W.heap[k]?) : OwnP n W' v M :=
  h.block (fun k hj => hk k (by
    intro e
    subst e
    rcases h.1.2 with ⟨hv, _⟩ | ⟨g, cap, cur, hv, h1, h2, _⟩
    · rw [hv] at hj
      simp [Value.ownBlock] at hj
    · rw [hv] at hj
      simp only [Value.ownBlock, Option.some.injEq] at hj
      subst hj
      have h3 := hb.symm.trans h2
      simp only [Option.some.injEq, Obj.cells.injEq] at h3
      exact ht h3.2.1))
theorem OwnT.down {n m : Nat} {W : World} {v : Value} {M : List Pt} (h : OwnT n W v M) (hm : m ≤ n) : OwnT m W v M := by
  obtain ⟨cn, cm, pa, pl, pc, e, h1⟩ := h
  exact ⟨cn, cm, pa, pl, pc, e, h1.down hm⟩
theorem OwnT.below {n : Nat} {W W' : World} {v : Value} {M : List Pt} (h : OwnT n W v M) (hb : Below W.heap.size W W') : OwnT n W' v M := by
  obtain ⟨cn, cm, pa, pl, pc, e, h1⟩ := h
  exact ⟨cn, cm, pa, pl, pc, e, h1.below hb⟩
theorem OwnT.put {n b : Nat} {W : World} {v : Value} {M : List Pt} (h : OwnT n W v M) {x y z : Value} (hb : Thr W b x y z 27) (p q r : Value) : OwnT n (put3 W b p q r) v M := by
  obtain ⟨cn, cm, pa, pl, pc, e, h1⟩ := h
  exact ⟨cn, cm, pa, pl, pc, e, h1.off hb (by decide) (fun k hk => put3_other hk p q r)⟩
def MadeF (w : World) (cn : Bool) (cm pv : Value) (e : Ending) (w' : World) : Prop :=
  ∃ pa pl pc, e = .returned (.agg #[.bool cn, cm, .slice pa pl pc]) ∧ (∀ W M, RowP W pv M → RowP W (.slice pa pl pc) M) ∧ (∀ n W M, OwnP n W pv M → OwnP n W (.slice pa pl pc) M) ∧ Below w.heap.size w w'
set_option maxHeartbeats 2000000 in
theorem madeF_calls {w : World} {cn : Bool} {ca : Option Addr} {cL cc : Nat} {pa : Option Addr} {pl pc : Nat} :
    Calls Tryd.prog 17 #[.agg #[.bool cn, .slice ca cL cc], .slice pa pl pc] w fun e w' => MadeF w cn (.slice ca cL cc) (.slice pa pl pc) e w' := by
  by_cases h : pl = 0
  · subst h
    go_enter Tryd.func17, Tryd.ntmps17
    go_wp2
    refine bodyPost_ret (results_term rfl rfl (Thr.new1 _ _ _ _ _ _)) rfl ?_
    refine ⟨_, _, _, rfl, fun W M hr => ?_, fun n W M ho => ?_, (bel _ _).trans ((bel _ _).mono (by simp))⟩
    · obtain ⟨ao, cap, e, h1, h2, h3⟩ := hr
      obtain rfl : M = [] := by
        simp only [Value.slice.injEq] at e
        exact List.eq_nil_of_length_eq_zero e.2.1.symm
      exact ⟨none, 0, rfl, Nat.le_refl _, by simp [maxLen], fun j m hj => by simp at hj⟩
    · obtain ⟨ao, cap, e, _⟩ := ho.len
      obtain rfl : M = [] := by
        simp only [Value.slice.injEq] at e
        exact List.eq_nil_of_length_eq_zero e.2.1.symm
      exact OwnP.nil _ _
  · have e0 := eq_zero_dec pl h
    clear h
    go_enter Tryd.func17, Tryd.ntmps17
    go_wp2
    refine bodyPost_ret (results_term rfl rfl (Thr.new1 _ _ _ _ _ _)) rfl ?_
    exact ⟨_, _, _, rfl, fun W M hr => hr, fun n W M ho => ho, (bel _ _).trans ((bel _ _).mono (by simp))⟩
def TermF (w : World) (c : Int) (f : Int → Int) (e : Ending) (w' : World) : Prop := ∃ v M, e = .returned v ∧ TermR w' v c M ∧ (∀ u, cf u (ps M) = f u) ∧ OwnT w.heap.size w' v M ∧ Below w.heap.size w w'
def TermE (w : World) (c : Int) (f : Int → Int) (e : Ending) (w' : World) : Prop := ∃ v M, e = .returned v ∧ TermR w' v c M ∧ (∀ u, cf u (ps M) = f u) ∧ Below w.heap.size w w'

set_option maxHeartbeats 2000000 in
theorem lof_calls {w : World} {v : Value} {c : Int} (h : BArg w v c) :
    Calls Tryd.prog 15 #[v] w fun e w' => TermE w c (fun _ => 0) e w' := by
  obtain ⟨neg, mv, n, rfl, hm, hz⟩ := id h
  obtain ⟨a, L, cc, rfl⟩ := hm.shape
  have t2 := Thr.new (w.alloc (.cells #[.bool neg, .slice a L cc] 24)) (.bool false) (.slice none 0 0) (.slice none 0 0) 27
  rw [World.size_alloc] at t2
  have hb := ((bel w (.cells #[.bool neg, .slice a L cc] 24)).trans ((bel (w.alloc (.cells #[.bool neg, .slice a L cc] 24)) (.cells #[.bool false, .slice none 0 0, .slice none 0 0] 27)).mono (by simp)))
  have hcall := bnorm_calls (h.below hb)
  have T2 := hide t2
  have HB := hide hb
  clear t2 hb h hm hz
  go_enter Tryd.func15, Tryd.ntmps15
  go_wp2_with fail
  refine hcall.mono ?_
  rintro e w2 ⟨r2, rfl, q2, hb2⟩
  obtain ⟨b2, a2, L2, k2, rfl⟩ := q2.form
  have TZ := T2.out.keep hb2
  obtain ⟨d0, d1, d2, f0, f1, f2⟩ := TZ.every
  have TZ' := hide TZ
  have KZ' := hide (bafter HB.out hb2 (Nat.le_refl _))
  have Q2 := hide q2
  clear TZ hb2 hcall q2
  go_wp2
  refine bodyPost_ret (results_term rfl rfl (TZ'.out.put _ _ _)) rfl ?_
  refine ⟨_, [], rfl, TermR.but ⟨_, _, _, _, none, 0, 0, rfl, Q2.out, ⟨none, 0, rfl, Nat.le_refl _, by simp [maxLen], fun j m hj => by simp at hj⟩, fun m hm => (by cases hm), NF.nil⟩ (TZ'.out.but _ _ _), fun u => rfl, put3_below KZ'.out (by omega) _ _ _⟩

end Go.Proofs.YtkdhcpfmlelfcaaDoor

namespace Go.Proofs.YtkdhcpfmlelfcaaDoor
set_option linter.unusedVariables false
set_option linter.unusedSimpArgs false
open Go Go.RowKit Go.Shelf

/-- What an iterator owes that itself makes memory: of whatever J that says enough of memory ahead of each round, and still says it when there is more of it. -/
def HandsB (P : Program) (gf : Nat) (lb : Array Value) (N : Nat) (args : Nat → Array Value) (Know : Nat → World → Prop) : Prop :=
  ∀ (l : Nat) (J Jx : Nat → World → Prop) (W : World), (∀ k W, J k W → Know k W) → (∀ k W W', J k W → Below W.heap.size W W' → J k W') →
    (∀ k W1, k < N → J k W1 → YieldAt Fence.wide 1 P l (args k) W1 fun e W' => (e = .returned (.bool true) ∧ J (k + 1) W') ∨ (e = .returned (.bool false) ∧ Jx k W')) →
    J 0 W → CallsIn Fence.wide 2 P gf (#[.func (.yield l) #[] #[]] ++ lb) W fun e W' => (∃ v, e = .returned v) ∧ (J N W' ∨ ∃ k, k < N ∧ Jx k W')

theorem range_knownB {P : Program} {g : Operand} {ps : Array Tmp} {assign body : Code} {Q : Exit → Act → World → Prop} {a : Act} {w : World}
    {gf : Nat} {lb : Array Value} (hg : a.eval g = .func (.func gf) #[] lb) (eg : ∀ args w, (callFunc gf args).run P w = .ok (.enter gf args) w)
    {N : Nat} {args : Nat → Array Value} {Know : Nat → World → Prop} (hseq : HandsB P gf lb N args Know) (hps : ∀ k, (args k).size = ps.size)
    (I : Nat → World → Prop) (Ix : Code → Nat → World → Prop) (hI : OwnFrom w.heap.size I) (hIx : ∀ c, OwnFrom w.heap.size (Ix c)) (hKn : ∀ k W, I k W → Know k W) (hIB : ∀ k W W', I k W → Below W.heap.size W W' → I k W') (h0 : I 0 w) (a₁ : Nat → Act)
    (hassign : ∀ (l k : Nat) (W : World) (K : Act → World → Prop), k < N → K (a₁ k) W →
      assign.wpIn (Fence.wide.inRound l) 1 P (Exit.then K (fun _ _ _ => False)) { tmps := (ps.zip (args k)).foldl (fun t (p, v) => t.setIfInBounds p v) a.tmps, defers := [] } W)
    (hbody : ∀ (l k : Nat) (W : World), k < N → I k W → body.wpIn (Fence.wide.inRound l) 1 P (roundPost w.heap.size I Ix k W) (a₁ k) W)
    (hdone : ∀ (D : Nat) (W : World), w.heap.size ≤ D → I N W → W.heap[D]? = some (.deferred (some [])) → Q .normal { a with defers := { target := .collected D, args := #[] } :: a.defers } W)
    (hstop : ∀ (D : Nat) (c : Code) (k : Nat) (W : World), w.heap.size ≤ D → k < N → Ix c k W → W.heap[D]? = some (.deferred (some [])) → c.wpIn Fence.wide 3 P Q { a with defers := { target := .collected D, args := #[] } :: a.defers } W) :
    (Code.rangeFunc g ps assign body).wpIn Fence.wide 3 P Q a w := by
  refine wpIn_rangeFunc ?_
  intro fn hfn
  show ∃ x, _
  obtain ⟨rec, hrec⟩ : ∃ rec : LoopState → Option Code → Loop, rec = fun st pe => { state := st, pending := pe, fn, tmps := a.tmps, params := ps, assign, body, defers := w.heap.size } := ⟨_, rfl⟩
  obtain ⟨W1, hW1⟩ : ∃ W1, (w.alloc (.deferred (some []))).alloc (.loop (rec .ready none)) = W1 := ⟨_, rfl⟩
  have hL1 : W1.heap[w.heap.size + 1]? = some (.loop (rec .ready none)) := by
    rw [← hW1]
    simpa using World.alloc_heap_new (w.alloc (.deferred (some []))) (.loop (rec .ready none))
  have hK1 : W1.heap[w.heap.size]? = some (.deferred (some [])) := by
    rw [← hW1]
    exact (Below.heap_alloc _ _ _ (by simp)).trans (World.alloc_heap_new w _)
  have hI1 : I 0 W1 := by rw [← hW1]; exact hI.alloc _ (hI.alloc _ h0)
  refine ⟨w.heap.size + 1, [{ target := .collected w.heap.size, args := #[] }], W1, { target := .fn (.func gf) lb, args := #[.func (.yield (w.heap.size + 1)) #[] #[]] }, W1, gf,
    #[.func (.yield (w.heap.size + 1)) #[] #[]] ++ lb, W1, ?_, ?_, ?_, ?_, fun _ => by omega, ?_⟩
  · rw [← hW1, hrec]
    exact run_enterLoop_outer _ _ _ _ _
  · simp only [resolve, hg]
    simp [go_sem]
  · intro f' _
    exact trivial
  · simp [invoke, go_sem, eg]
  · -- The two blocks of the loop's book-keeping, beside the caller's invariant.
    refine (hseq (w.heap.size + 1)
      (fun k W => I k W ∧ W.heap[w.heap.size + 1]? = some (.loop (rec .ready none)) ∧ W.heap[w.heap.size]? = some (.deferred (some [])))
      (fun k W => ∃ c, Ix c k W ∧ W.heap[w.heap.size + 1]? = some (.loop (rec .done (some c))) ∧ W.heap[w.heap.size]? = some (.deferred (some [])))
      W1 (fun k W h => hKn k W h.1) (fun k W W' h hb => ⟨hIB k W W' h.1 hb, (hb.block _ (Array.getElem?_eq_some_iff.1 h.2.1).1).trans h.2.1, (hb.block _ (Array.getElem?_eq_some_iff.1 h.2.2).1).trans h.2.2⟩) ?_ ⟨hI1, hL1, hK1⟩).mono ?_
    · rintro k W hk ⟨hi, hl, hd⟩
      have hlt : w.heap.size + 1 < W.heap.size := (Array.getElem?_eq_some_iff.1 hl).1
      have hy := run_yield (P := P) (args := args k) hl (by rw [hrec]; exact hps k)
      rw [hrec] at hy
      refine ⟨fn, _, assign, body, hy, roundIn_of_wpIn hfn (hassign _ k W _ hk ⟨_, run_beginRound hl (by rw [hrec]), ?_⟩)⟩
      have hl2 : (W.putObj (w.heap.size + 1) (.loop { rec .ready none with state := .busy })).heap[w.heap.size + 1]? = some (.loop { rec .ready none with state := .busy }) := World.putObj_heap_same hlt
      have hd2 : (W.putObj (w.heap.size + 1) (.loop { rec .ready none with state := .busy })).heap[w.heap.size]? = some (.deferred (some [])) := (World.putObj_heap_other (by omega)).trans hd
      refine wpIn_mono (hbody _ k _ hk (hI.putObj _ hi (by omega) hl rfl)) ?_
      have fin : ∀ (jump : Option Code) (W3 : World), KeepsFrom w.heap.size (W.putObj (w.heap.size + 1) (.loop { rec .ready none with state := .busy })) W3 →
          (Instr.endRound (w.heap.size + 1) jump).run P W3 = .ok (.bool jump.isNone) (W3.putObj (w.heap.size + 1) (.loop (rec (if jump.isNone then .ready else .done) jump))) ∧
          W3.heap[w.heap.size + 1]? = some (.loop { rec .ready none with state := .busy }) ∧
          (W3.putObj (w.heap.size + 1) (.loop (rec (if jump.isNone then .ready else .done) jump))).heap[w.heap.size + 1]? = some (.loop (rec (if jump.isNone then .ready else .done) jump)) ∧
          (W3.putObj (w.heap.size + 1) (.loop (rec (if jump.isNone then .ready else .done) jump))).heap[w.heap.size]? = some (.deferred (some [])) := fun jump W3 hk3 => by
        have hl3 := hk3.same _ _ (by omega) hl2 rfl
        have := run_endRound (P := P) jump hl3
        rw [hrec] at this ⊢
        exact ⟨this, by rw [hrec] at hl3; exact hl3, World.putObj_heap_same (Array.getElem?_eq_some_iff.1 hl3).1, (World.putObj_heap_other (by omega)).trans (hk3.same _ _ (Nat.le_refl _) hd2 rfl)⟩
      rintro e a3 W3 hp
      cases e with
      | normal =>
        obtain ⟨hr, hl3, hl4, hk4⟩ := fin none W3 hp.1
        exact ⟨_, _, hr, .inl ⟨rfl, hI.putObj _ hp.2 (by omega) hl3 rfl, hl4, hk4⟩⟩
      | ret =>
        obtain ⟨hr, hl3, hl4, hk4⟩ := fin (some .ret) W3 hp.1
        exact ⟨_, _, hr, .inr ⟨rfl, .ret, (hIx _).putObj _ hp.2 (by omega) hl3 rfl, hl4, hk4⟩⟩
      | exit id =>
        obtain ⟨hr, hl3, hl4, hk4⟩ := fin (some (.exit id)) W3 hp.1
        exact ⟨_, _, hr, .inr ⟨rfl, .exit id, (hIx _).putObj _ hp.2 (by omega) hl3 rfl, hl4, hk4⟩⟩
      | goto t =>
        obtain ⟨hr, hl3, hl4, hk4⟩ := fin (some (.goto t)) W3 hp.1
        exact ⟨_, _, hr, .inr ⟨rfl, .goto t, (hIx _).putObj _ hp.2 (by omega) hl3 rfl, hl4, hk4⟩⟩
      | panic ch => exact hp.elim
      | outgrown => exact hp.elim
    · rintro e W2 ⟨⟨v, rfl⟩, (⟨hi, hl, hd⟩ | ⟨k, hk, c, hi, hl, hd⟩)⟩
      · exact ⟨none, _, by have := run_endLoop (P := P) hl (by rw [hrec]; simp); rw [hrec] at this; exact this, hdone _ _ (Nat.le_refl _) (hI.putObj _ hi (by omega) hl rfl) ((World.putObj_heap_other (by omega)).trans hd)⟩
      · exact ⟨some c, _, by have := run_endLoop (P := P) hl (by rw [hrec]; simp); rw [hrec] at this; exact this, hstop _ c k _ (Nat.le_refl _) hk ((hIx c).putObj _ hi (by omega) hl rfl) ((World.putObj_heap_other (by omega)).trans hd)⟩

/-- The same, where the variables of the round are laid into memory of their own ahead of it. -/
theorem range_knownA {P : Program} {g : Operand} {ps : Array Tmp} {assign body : Code} {Q : Exit → Act → World → Prop} {a : Act} {w : World}
    {gf : Nat} {lb : Array Value} (hg : a.eval g = .func (.func gf) #[] lb) (eg : ∀ args w, (callFunc gf args).run P w = .ok (.enter gf args) w)
    {N : Nat} {args : Nat → Array Value} {Know : Nat → World → Prop} (hseq : HandsB P gf lb N args Know) (hps : ∀ k, (args k).size = ps.size)
    (I : Nat → World → Prop) (Ix : Code → Nat → World → Prop) (hI : OwnFrom w.heap.size I) (hIx : ∀ c, OwnFrom w.heap.size (Ix c)) (hKn : ∀ k W, I k W → Know k W) (hIB : ∀ k W W', I k W → Below W.heap.size W W' → I k W') (h0 : I 0 w) (I₁ : Nat × Act → World → Prop) (hI₁ : OwnFrom w.heap.size I₁)
    (hassign : ∀ (l k : Nat) (W : World) (K : Act → World → Prop), k < N → I k W → (∀ a1 W2, Below W.heap.size W W2 → I₁ (k, a1) W2 → K a1 W2) →
      assign.wpIn (Fence.wide.inRound l) 1 P (Exit.then K (fun _ _ _ => False)) { tmps := (ps.zip (args k)).foldl (fun t (p, v) => t.setIfInBounds p v) a.tmps, defers := [] } W)
    (hbody : ∀ (l k : Nat) (a1 : Act) (W : World), k < N → I₁ (k, a1) W → body.wpIn (Fence.wide.inRound l) 1 P (roundPost w.heap.size I Ix k W) a1 W)
    (hdone : ∀ (D : Nat) (W : World), w.heap.size ≤ D → I N W → W.heap[D]? = some (.deferred (some [])) → Q .normal { a with defers := { target := .collected D, args := #[] } :: a.defers } W)
    (hstop : ∀ (D : Nat) (c : Code) (k : Nat) (W : World), w.heap.size ≤ D → k < N → Ix c k W → W.heap[D]? = some (.deferred (some [])) → c.wpIn Fence.wide 3 P Q { a with defers := { target := .collected D, args := #[] } :: a.defers } W) :
    (Code.rangeFunc g ps assign body).wpIn Fence.wide 3 P Q a w := by
  refine wpIn_rangeFunc ?_
  intro fn hfn
  show ∃ x, _
  obtain ⟨rec, hrec⟩ : ∃ rec : LoopState → Option Code → Loop, rec = fun st pe => { state := st, pending := pe, fn, tmps := a.tmps, params := ps, assign, body, defers := w.heap.size } := ⟨_, rfl⟩
  obtain ⟨W1, hW1⟩ : ∃ W1, (w.alloc (.deferred (some []))).alloc (.loop (rec .ready none)) = W1 := ⟨_, rfl⟩
  have hL1 : W1.heap[w.heap.size + 1]? = some (.loop (rec .ready none)) := by
    rw [← hW1]
    simpa using World.alloc_heap_new (w.alloc (.deferred (some []))) (.loop (rec .ready none))
  have hK1 : W1.heap[w.heap.size]? = some (.deferred (some [])) := by
    rw [← hW1]
    exact (Below.heap_alloc _ _ _ (by simp)).trans (World.alloc_heap_new w _)
  have hI1 : I 0 W1 := by rw [← hW1]; exact hI.alloc _ (hI.alloc _ h0)
  refine ⟨w.heap.size + 1, [{ target := .collected w.heap.size, args := #[] }], W1, { target := .fn (.func gf) lb, args := #[.func (.yield (w.heap.size + 1)) #[] #[]] }, W1, gf,
    #[.func (.yield (w.heap.size + 1)) #[] #[]] ++ lb, W1, ?_, ?_, ?_, ?_, fun _ => by omega, ?_⟩
  · rw [← hW1, hrec]
    exact run_enterLoop_outer _ _ _ _ _
  · simp only [resolve, hg]
    simp [go_sem]
  · intro f' _
    exact trivial
  · simp [invoke, go_sem, eg]
  · -- The two blocks of the loop's book-keeping, beside the caller's invariant.
    refine (hseq (w.heap.size + 1)
      (fun k W => I k W ∧ W.heap[w.heap.size + 1]? = some (.loop (rec .ready none)) ∧ W.heap[w.heap.size]? = some (.deferred (some [])))
      (fun k W => ∃ c, Ix c k W ∧ W.heap[w.heap.size + 1]? = some (.loop (rec .done (some c))) ∧ W.heap[w.heap.size]? = some (.deferred (some [])))
      W1 (fun k W h => hKn k W h.1) (fun k W W' h hb => ⟨hIB k W W' h.1 hb, (hb.block _ (Array.getElem?_eq_some_iff.1 h.2.1).1).trans h.2.1, (hb.block _ (Array.getElem?_eq_some_iff.1 h.2.2).1).trans h.2.2⟩) ?_ ⟨hI1, hL1, hK1⟩).mono ?_
    · rintro k W hk ⟨hi, hl, hd⟩
      have hlt : w.heap.size + 1 < W.heap.size := (Array.getElem?_eq_some_iff.1 hl).1
      have hy := run_yield (P := P) (args := args k) hl (by rw [hrec]; exact hps k)
      rw [hrec] at hy
      refine ⟨fn, _, assign, body, hy, roundIn_of_wpIn hfn (hassign _ k W _ hk hi ?_)⟩
      intro a1 W2 hb2 hi1
      replace hd : W2.heap[w.heap.size]? = some (.deferred (some [])) := (hb2.block _ (by omega)).trans hd
      replace hl : W2.heap[w.heap.size + 1]? = some (.loop (rec .ready none)) := (hb2.block _ hlt).trans hl
      replace hlt : w.heap.size + 1 < W2.heap.size := (Array.getElem?_eq_some_iff.1 hl).1
      clear hy hi hb2
      clear W
      refine ⟨_, run_beginRound hl (by rw [hrec]), ?_⟩
      have hl2 : (W2.putObj (w.heap.size + 1) (.loop { rec .ready none with state := .busy })).heap[w.heap.size + 1]? = some (.loop { rec .ready none with state := .busy }) := World.putObj_heap_same hlt
      have hd2 : (W2.putObj (w.heap.size + 1) (.loop { rec .ready none with state := .busy })).heap[w.heap.size]? = some (.deferred (some [])) := (World.putObj_heap_other (by omega)).trans hd
      refine wpIn_mono (hbody _ k a1 _ hk (hI₁.putObj _ hi1 (by omega) hl rfl)) ?_
      have fin : ∀ (jump : Option Code) (W3 : World), KeepsFrom w.heap.size (W2.putObj (w.heap.size + 1) (.loop { rec .ready none with state := .busy })) W3 →
          (Instr.endRound (w.heap.size + 1) jump).run P W3 = .ok (.bool jump.isNone) (W3.putObj (w.heap.size + 1) (.loop (rec (if jump.isNone then .ready else .done) jump))) ∧
          W3.heap[w.heap.size + 1]? = some (.loop { rec .ready none with state := .busy }) ∧
          (W3.putObj (w.heap.size + 1) (.loop (rec (if jump.isNone then .ready else .done) jump))).heap[w.heap.size + 1]? = some (.loop (rec (if jump.isNone then .ready else .done) jump)) ∧
          (W3.putObj (w.heap.size + 1) (.loop (rec (if jump.isNone then .ready else .done) jump))).heap[w.heap.size]? = some (.deferred (some [])) := fun jump W3 hk3 => by
        have hl3 := hk3.same _ _ (by omega) hl2 rfl
        have := run_endRound (P := P) jump hl3
        rw [hrec] at this ⊢
        exact ⟨this, by rw [hrec] at hl3; exact hl3, World.putObj_heap_same (Array.getElem?_eq_some_iff.1 hl3).1, (World.putObj_heap_other (by omega)).trans (hk3.same _ _ (Nat.le_refl _) hd2 rfl)⟩
      rintro e a3 W3 hp
      cases e with
      | normal =>
        obtain ⟨hr, hl3, hl4, hk4⟩ := fin none W3 hp.1
        exact ⟨_, _, hr, .inl ⟨rfl, hI.putObj _ hp.2 (by omega) hl3 rfl, hl4, hk4⟩⟩
      | ret =>
        obtain ⟨hr, hl3, hl4, hk4⟩ := fin (some .ret) W3 hp.1
        exact ⟨_, _, hr, .inr ⟨rfl, .ret, (hIx _).putObj _ hp.2 (by omega) hl3 rfl, hl4, hk4⟩⟩
      | exit id =>
        obtain ⟨hr, hl3, hl4, hk4⟩ := fin (some (.exit id)) W3 hp.1
        exact ⟨_, _, hr, .inr ⟨rfl, .exit id, (hIx _).putObj _ hp.2 (by omega) hl3 rfl, hl4, hk4⟩⟩
      | goto t =>
        obtain ⟨hr, hl3, hl4, hk4⟩ := fin (some (.goto t)) W3 hp.1
        exact ⟨_, _, hr, .inr ⟨rfl, .goto t, (hIx _).putObj _ hp.2 (by omega) hl3 rfl, hl4, hk4⟩⟩
      | panic ch => exact hp.elim
      | outgrown => exact hp.elim
    · rintro e W2 ⟨⟨v, rfl⟩, (⟨hi, hl, hd⟩ | ⟨k, hk, c, hi, hl, hd⟩)⟩
      · exact ⟨none, _, by have := run_endLoop (P := P) hl (by rw [hrec]; simp); rw [hrec] at this; exact this, hdone _ _ (Nat.le_refl _) (hI.putObj _ hi (by omega) hl rfl) ((World.putObj_heap_other (by omega)).trans hd)⟩
      · exact ⟨some c, _, by have := run_endLoop (P := P) hl (by rw [hrec]; simp); rw [hrec] at this; exact this, hstop _ c k _ (Nat.le_refl _) hk ((hIx c).putObj _ hi (by omega) hl rfl) ((World.putObj_heap_other (by omega)).trans hd)⟩

/-- The region's operations one by one, in any order. -/
theorem round_any {P : Program} {id : Nat} {Q : Exit → Act → World → Prop} {a : Act} {w : World} {ls : List Oper} (m r : Nat) (hm : P.follows .mixedOrders = true) (hd : ∀ (i : Nat) (o : Oper), ls.toArray[i]? = some o → ∀ c, o.op ≠ .defer c) (hout : ¬ LetsOut Q)
    (h : wpAny P .any ls.toArray Q ls.toArray.size (Array.replicate ls.toArray.size false) a w.drew) : (Code.region id ls.toArray true).wpIn (Fence.wide.inRound r) m P Q a w :=
  wpIn_region_any hm (any_round m r hd hout _ _ _ _ h)
/-- All cells are as they were. -/
def Cel (W W' : World) : Prop := ∀ (b : Nat) (o : Obj), W.heap[b]? = some o → o.isCells = true → W'.heap[b]? = some o
theorem Cel.refl (W : World) : Cel W W := fun _ _ h _ => h
theorem Cel.of {W W' : World} (h : Below W.heap.size W W') : Cel W W' := fun b o hb _ => (h.block b (Array.getElem?_eq_some_iff.1 hb).1).trans hb
theorem Cel.cell {W W' : World} (h : Cel W W') {a : Addr} {u : Value} (hc : W.cell? a = some u) : W'.cell? a = some u := by
  have h2 := hc
  unfold World.cell? at h2
  split at h2
  · rename_i c t m hb
    rw [World.cell?_of_block (a := a) ((h _ _ hb rfl).trans hb.symm)]
    exact hc
  · cases h2
theorem Cel.k32 {W W' : World} (h : Cel W W') : K32 W W' := fun a x hc => h.cell hc
theorem Cel.row {W W' : World} (h : Cel W W') {v : Value} {M : List Pt} (hr : RowP W v M) : RowP W' v M := by
  obtain ⟨ao, cap, e, h1, h2, h3⟩ := hr
  refine ⟨ao, cap, e, h1, h2, fun j m hj => ?_⟩
  obtain ⟨b, o, e2, hc⟩ := h3 j m hj
  exact ⟨b, o, e2, hc.keep (fun a u hu _ => h.cell hu)⟩
theorem Cel.own {W W' : World} (h : Cel W W') {n : Nat} {v : Value} {M : List Pt} (ho : OwnP n W v M) : OwnP n W' v M := by
  refine ho.block (fun k hk => ?_)
  rcases ho.1.2 with ⟨hv, _⟩ | ⟨g, cap, cur, hv, h1, h2, h3⟩
  · rw [hv] at hk
    simp [Value.ownBlock] at hk
  · rw [hv] at hk
    simp only [Value.ownBlock, Option.some.injEq] at hk
    subst hk
    exact (h _ _ h2 rfl).trans h2.symm
theorem Cel.two {W W' : World} (h : Cel W W') {b : Nat} {x y : Value} {t : TypeId} (hb : Two W b x y t) : Two W' b x y t := h _ _ hb rfl
theorem Cel.thr {W W' : World} (h : Cel W W') {b : Nat} {x y z : Value} {t : TypeId} (hb : Thr W b x y z t) : Thr W' b x y z t := h _ _ hb rfl
/-- A block of one cell, that may be written. -/
def Uno (W : World) (b : Nat) (x : Value) (t : TypeId) : Prop := W.heap[b]? = some (.cells #[x] t (0, 0))
theorem Uno.keep {W W' : World} {b : Nat} {x : Value} {t : TypeId} (h : Uno W b x t) (hb : Below W.heap.size W W') : Uno W' b x t := (hb.block b (Array.getElem?_eq_some_iff.1 h).1).trans h
theorem Uno.c0 {W : World} {b : Nat} {x : Value} {t : TypeId} (h : Uno W b x t) : W.cell? ⟨b, 0, none⟩ = some x := by rw [cell_of_row W b 0 _ _ _ h]; rfl
theorem Uno.f0 {W : World} {b : Nat} {x : Value} {t : TypeId} (h : Uno W b x t) (j : Nat) : W.frozen? ⟨b, j, none⟩ = false := frozen_of_row W b j _ _ h
theorem Uno.lt {W : World} {b : Nat} {x : Value} {t : TypeId} (h : Uno W b x t) : b < W.heap.size := (Array.getElem?_eq_some_iff.1 h).1
theorem Uno.put {W : World} {b : Nat} {x : Value} {t : TypeId} (h : Uno W b x t) (y : Value) : Uno (W.setCell ⟨b, 0, none⟩ y) b y t := heap_setCell_same W b 0 _ _ y h
theorem Uno.noInt {W : World} {b : Nat} {y : Option Addr} {l c : Nat} {t : TypeId} (h : Uno W b (.slice y l c) t) : NoInt W b := by
  intro j k v hc
  rw [cell_of_row W b j _ _ _ h] at hc
  match j, hc with
  | 0, hc => simp at hc
  | n + 1, hc => simp at hc
theorem Cel.uno {W W' : World} (h : Cel W W') {b : Nat} {x : Value} {t : TypeId} (hb : Uno W b x t) : Uno W' b x t := h _ _ hb rfl
theorem cel_grown {B : Nat} {W W' : World} {row : Option Nat} (hg : W.grownBy W' row) (hr : ∀ r, row = some r → B ≤ r ∧ ∃ o : Obj, W.heap[r]? = some o ∧ o.isCells = false) : Cel W W' := fun b o hb ho =>
  (hg.block b (Array.getElem?_eq_some_iff.1 hb).1 (fun e => by
    obtain ⟨_, o', h1, h2⟩ := hr b e.symm
    rw [hb] at h1
    cases h1
    rw [h2] at ho
    cases ho)).trans hb
theorem ownFrom_cel {β : Type} {B : Nat} {J : β → World → Prop} (h : ∀ s W W', J s W → Cel W W' → J s W') : OwnFrom B J := fun s W W' row hs hg hr => h s W W' hs (cel_grown hg hr)
theorem ownFrom_frame {β : Type} {B n₀ : Nat} {w₀ : World} {J : β → World → Prop} (h : ∀ s W W', J s W → Cel W W' → J s W') (hn : n₀ ≤ w₀.heap.size) (hB : n₀ ≤ B) : OwnFrom B (fun s W => J s W ∧ Below n₀ w₀ W) :=
  OwnFrom.and (ownFrom_cel h) (ownFrom_below hn hB)

theorem cel_put {W : World} {D : Nat} {o : Obj} (o' : Obj) (hK : W.heap[D]? = some o) (h : o.isCells = false) : Cel W (W.putObj D o') := fun b x hb hx => by
  by_cases e : b = D
  · subst e
    rw [hK] at hb
    cases hb
    rw [h] at hx
    cases hx
  · exact (World.putObj_heap_other e).trans hb
theorem keepsFrom_of {C : Nat} {W W' : World} (h : Below W.heap.size W W') : KeepsFrom C W W' := ⟨h.size, fun k o _ hk _ => (h.block k (Array.getElem?_eq_some_iff.1 hk).1).trans hk⟩

/-- The same, where the last variable of the round is laid into a block of its own ahead of it. -/
theorem range_knownC {P : Program} {g : Operand} {ps : Array Tmp} {assign body : Code} {Q : Exit → Act → World → Prop} {a : Act} {w : World}
    {gf : Nat} {lb : Array Value} (hg : a.eval g = .func (.func gf) #[] lb) (eg : ∀ args w, (callFunc gf args).run P w = .ok (.enter gf args) w)
    {N : Nat} {args : Nat → Array Value} {Know : Nat → World → Prop} (hseq : HandsB P gf lb N args Know) (hps : ∀ k, (args k).size = ps.size)
    (J : Nat → World → Prop) (Jx : Code → Nat → World → Prop) (hJ : ∀ k W W', J k W → Cel W W' → J k W') (hJx : ∀ c k W W', Jx c k W → Cel W W' → Jx c k W') (n₀ : Nat) (w₀ : World) (hn : n₀ ≤ w₀.heap.size) (hn2 : n₀ ≤ w.heap.size)
    (hKn : ∀ k W, J k W → Know k W) (h0 : J 0 w ∧ Below n₀ w₀ w) (o : Nat → Obj) (ho : ∀ k, (o k).isCells = true) (a₁ : Nat → Nat → Act)
    (hassign : ∀ (l k B : Nat) (W : World) (K : Act → World → Prop), k < N → W.heap.size = B → K (a₁ k B) (W.alloc (o k)) →
      assign.wpIn (Fence.wide.inRound l) 1 P (Exit.then K (fun _ _ _ => False)) { tmps := (ps.zip (args k)).foldl (fun t (p, v) => t.setIfInBounds p v) a.tmps, defers := [] } W)
    (hbody : ∀ (l k B : Nat) (W : World), k < N → J k W → Below n₀ w₀ W → W.heap[B]? = some (o k) → w.heap.size ≤ B →
      body.wpIn (Fence.wide.inRound l) 1 P (roundPost w.heap.size (fun k W => J k W ∧ Below n₀ w₀ W) (fun c k W => Jx c k W ∧ Below n₀ w₀ W) k W) (a₁ k B) W)
    (hdone : ∀ (D : Nat) (W : World), w.heap.size ≤ D → J N W → Below n₀ w₀ W → W.heap[D]? = some (.deferred (some [])) → Q .normal { a with defers := { target := .collected D, args := #[] } :: a.defers } W)
    (hstop : ∀ (D : Nat) (c : Code) (k : Nat) (W : World), w.heap.size ≤ D → k < N → Jx c k W → Below n₀ w₀ W → W.heap[D]? = some (.deferred (some [])) → c.wpIn Fence.wide 3 P Q { a with defers := { target := .collected D, args := #[] } :: a.defers } W) :
    (Code.rangeFunc g ps assign body).wpIn Fence.wide 3 P Q a w := by
  have hown : ∀ {β : Type} {F : β → World → Prop}, (∀ s W W', F s W → Cel W W' → F s W') → OwnFrom w.heap.size (fun s W => (F s W ∧ w.heap.size ≤ W.heap.size) ∧ Below n₀ w₀ W) := fun hF s W W' row hs hgr hr =>
    ⟨⟨hF s W W' hs.1.1 (cel_grown hgr hr), Nat.le_trans hs.1.2 hgr.size⟩, (ownFrom_below (β := Unit) hn hn2) () W W' row hs.2 hgr hr⟩
  refine range_knownA hg eg hseq hps (fun k W => (J k W ∧ w.heap.size ≤ W.heap.size) ∧ Below n₀ w₀ W) (fun c k W => (Jx c k W ∧ w.heap.size ≤ W.heap.size) ∧ Below n₀ w₀ W) (hown hJ) (fun c => hown (hJx c)) (fun k W h => hKn k W h.1.1)
    (fun k W W' h hb => ⟨⟨hJ k W W' h.1.1 (Cel.of hb), Nat.le_trans h.1.2 hb.size⟩, h.2.trans (hb.mono (Nat.le_trans hn h.2.size))⟩) ⟨⟨h0.1, Nat.le_refl _⟩, h0.2⟩
    (fun p W2 => (((∃ B, p.2 = a₁ p.1 B ∧ W2.heap[B]? = some (o p.1) ∧ w.heap.size ≤ B) ∧ J p.1 W2) ∧ w.heap.size ≤ W2.heap.size) ∧ Below n₀ w₀ W2) (hown ?_) ?_ ?_ (fun D W hD h hK => hdone D W hD h.1.1 h.2 hK) (fun D c k W hD hk h hK => hstop D c k W hD hk h.1.1 h.2 hK)
  · rintro s W W' ⟨⟨B, e1, e2, e3⟩, e4⟩ hc
    exact ⟨⟨B, e1, hc _ _ e2 (ho _), e3⟩, hJ _ _ _ e4 hc⟩
  · intro l k W K hk hI hK
    exact hassign l k W.heap.size W K hk rfl (hK _ _ (bel _ _) ⟨⟨⟨⟨W.heap.size, rfl, World.alloc_heap_new W _, hI.1.2⟩, hJ _ _ _ hI.1.1 (Cel.of (bel _ _))⟩, Nat.le_trans hI.1.2 (bel W _).size⟩, bafter hI.2 (bel _ _) hn⟩)
  · rintro l k a1 W hk ⟨⟨⟨⟨B, e1, e2, e3⟩, e4⟩, e6⟩, e5⟩
    dsimp only at e1 e2
    subst e1
    refine wpIn_mono (hbody l k B W hk e4 e5 e2 e3) ?_
    rintro e a3 W3 hp
    cases e with
    | normal => exact ⟨hp.1, ⟨hp.2.1, Nat.le_trans e6 hp.1.size⟩, hp.2.2⟩
    | ret => exact ⟨hp.1, ⟨hp.2.1, Nat.le_trans e6 hp.1.size⟩, hp.2.2⟩
    | exit id => exact ⟨hp.1, ⟨hp.2.1, Nat.le_trans e6 hp.1.size⟩, hp.2.2⟩
    | goto t => exact ⟨hp.1, ⟨hp.2.1, Nat.le_trans e6 hp.1.size⟩, hp.2.2⟩
    | panic c => exact hp
    | outgrown => exact hp

end Go.Proofs.YtkdhcpfmlelfcaaDoor

namespace Go.Proofs.YtkdhcpfmlelfcaaDoor
set_option linter.unusedVariables false
set_option linter.unusedSimpArgs false
set_option maxRecDepth 100000
open Go Go.RowKit Go.Shelf Go.Lib

theorem nf_bnd {k : Nat} {l m : Ps} (h : NF l) (hc : ∀ u, cf u l = cf u m) (hb : Bnd k m) : Bnd (k + m.length) l := fun p hp => by
  rw [← nf_mem h hp, hc]
  exact cf_bound hb p.1
theorem TermA.tidies {k : Nat} {w : World} {cn : Bool} {cm pv : Value} {c : Int} {M : List Pt} (h : TermA k w (.agg #[.bool cn, cm, pv]) c M) (hk : k ≤ 500000) (W : World) (hb : Below w.heap.size w W) :
    Calls Tryd.prog 20 #[pv] W fun e w' => TidyE W M e w' := by
  obtain ⟨cn, ca, cL, cc, pa, pl, pc, e, h1, h2, h3, h4, h5, h6, h7⟩ := h
  simp only [Value.agg.injEq, Array.mk.injEq, List.cons.injEq, and_true] at e
  obtain ⟨_, rfl, rfl⟩ := e
  exact tidy_calls (h3.below hb) (h4.below hb) h5 hk (h6.imp id (fun h => h.below hb)) h7
theorem TermA.num {k : Nat} {w : World} {cn : Bool} {cm pv : Value} {c : Int} {M : List Pt} (h : TermA k w (.agg #[.bool cn, cm, pv]) c M) : BArg w (.agg #[.bool cn, cm]) c := by
  obtain ⟨cn, ca, cL, cc, pa, pl, pc, e, h1, h2, h3, h4, h5, h6, h7⟩ := h
  simp only [Value.agg.injEq, Array.mk.injEq, List.cons.injEq, and_true] at e
  obtain ⟨e0, rfl, rfl⟩ := e
  rw [e0]
  exact h1
theorem TermA.form {k : Nat} {w : World} {v : Value} {c : Int} {M : List Pt} (h : TermA k w v c M) : ∃ cn ca cL cc pa pl pc, v = .agg #[.bool cn, .slice ca cL cc, .slice pa pl pc] := by
  obtain ⟨cn, ca, cL, cc, pa, pl, pc, e, _⟩ := h
  exact ⟨cn, ca, cL, cc, pa, pl, pc, e⟩
theorem TermA.len {k : Nat} {w : World} {v : Value} {c : Int} {M : List Pt} (h : TermA k w v c M) : M.length ≤ 1000 := by
  obtain ⟨cn, ca, cL, cc, pa, pl, pc, e, h1, h2, h3, h4, h5, h6, h7⟩ := h
  exact h7
theorem TermA.bnd {k : Nat} {w : World} {v : Value} {c : Int} {M : List Pt} (h : TermA k w v c M) : Bnd k (ps M) ∧ c.natAbs < R ^ k := by
  obtain ⟨cn, ca, cL, cc, pa, pl, pc, e, h1, h2, h3, h4, h5, h6, h7⟩ := h
  exact ⟨h5, h2⟩
theorem len_of {M M' : List Pt} (h : NF (ps M')) (hc : ∀ u, cf u (ps M') = cf u (ps M)) : M'.length ≤ M.length := by
  have := nf_length h hc
  rw [ps_length, ps_length] at this
  exact this
theorem RowP.shape {W : World} {v : Value} {M : List Pt} (h : RowP W v M) : ∃ a n c, v = .slice a n c := by
  obtain ⟨a, c, e, _⟩ := h
  exact ⟨_, _, _, e⟩

set_option maxHeartbeats 4000000 in
theorem lnormF_calls {k : Nat} {w : World} {v : Value} {c : Int} {M : List Pt} (h : TermA k w v c M) (hk : k ≤ 500000) :
    Calls Tryd.prog 6 #[v] w fun e w' => TermF w c (fun u => cf u (ps M)) e w' := by
  obtain ⟨cn, ca, cL, cc, pa, pl, pc, rfl⟩ := h.form
  have tb := (Thr.new w (.bool cn) (.slice ca cL cc) (.slice pa pl pc) 27).alloc (.cells #[.bool false, .slice none 0 0, .slice none 0 0] 27)
  have tz := Thr.new1 w (.cells #[.bool cn, .slice ca cL cc, .slice pa pl pc] 27) (.bool false) (.slice none 0 0) (.slice none 0 0) 27
  have hba : Below w.heap.size w ((w.alloc (.cells #[.bool cn, .slice ca cL cc, .slice pa pl pc] 27)).alloc (.cells #[.bool false, .slice none 0 0, .slice none 0 0] 27)) := (bel _ _).trans ((bel _ _).mono (by simp))
  generalize hwA : (w.alloc (.cells #[.bool cn, .slice ca cL cc, .slice pa pl pc] 27)).alloc (.cells #[.bool false, .slice none 0 0, .slice none 0 0] 27) = wA at *
  have HWA := hide hwA
  have TB := hide tb
  have TZ := hide tz
  have HBA := hide hba
  have HT := hide h
  have HS : Hid (∀ X : World, Below wA.heap.size wA X → X.cell? ⟨w.heap.size, 0, none⟩ = some (.bool cn) ∧ X.cell? ⟨w.heap.size, 1, none⟩ = some (.slice ca cL cc) ∧ X.cell? ⟨w.heap.size, 2, none⟩ = some (.slice pa pl pc)) := fun X hX => ⟨(TB.out.keep hX).c0, (TB.out.keep hX).c1, (TB.out.keep hX).c2⟩
  have HC1 := hide (fun (X : World) (hX : Below wA.heap.size wA X) => bnorm_calls (h.num.below (bafter hba hX (Nat.le_refl _))))
  clear hwA tb tz hba h
  go_enter Tryd.func6, Tryd.ntmps6
  go_upto_region 1 with fail
  rw [HWA.out]
  refine wp_region_held_drew (S := fun X : World => X.cell? ⟨w.heap.size, 0, none⟩ = some (.bool cn) ∧ X.cell? ⟨w.heap.size, 1, none⟩ = some (.slice ca cL cc) ∧ X.cell? ⟨w.heap.size, 2, none⟩ = some (.slice pa pl pc)) (by kernel_rfl) ?_ (fun hHeld => ?_)
  · exact HS.out _ (by (first | exact (Below.refl _ _).drew | exact Below.refl _ _))
  refine takeD (i := 0) (v := ?v1) (some 3) rfl (by kernel_rfl) (by kernel_rfl) (by kernel_rfl) (fun _ _ _ h => h) (Or.inl ⟨by rfl, ?hy1⟩) (by assumption) (by rfl) ?rest1
  case hy1 => first | (intro w hSw; (try dsimp only at hSw); obtain ⟨q0, q1, q2⟩ := hSw; go_simp; done) | (intro w hSw; (try dsimp only at hSw); obtain ⟨q0, q1, q2⟩ := hSw; go_simp; with_reducible rfl)
  try simp only [Act.put, List.setIfInBounds_toArray, List.set_cons_zero, List.set_cons_succ]
  refine takeD (i := 1) (v := ?v2) (some 4) rfl (by kernel_rfl) (by kernel_rfl) (by kernel_rfl) (fun _ _ _ h => h) (Or.inl ⟨by rfl, ?hy2⟩) (by assumption) (by rfl) ?rest2
  case hy2 => first | (intro w hSw; (try dsimp only at hSw); obtain ⟨q0, q1, q2⟩ := hSw; go_simp; done) | (intro w hSw; (try dsimp only at hSw); obtain ⟨q0, q1, q2⟩ := hSw; go_simp; with_reducible rfl)
  try simp only [Act.put, List.setIfInBounds_toArray, List.set_cons_zero, List.set_cons_succ]
  refine takeD (i := 3) (v := ?v3) (some 6) rfl (by kernel_rfl) (by kernel_rfl) (by kernel_rfl) (fun _ _ _ h => h) (Or.inl ⟨by rfl, ?hy3⟩) (by assumption) (by rfl) ?rest3
  case hy3 => first | (intro w hSw; (try dsimp only at hSw); obtain ⟨q0, q1, q2⟩ := hSw; go_simp; done) | (intro w hSw; (try dsimp only at hSw); obtain ⟨q0, q1, q2⟩ := hSw; go_simp; with_reducible rfl)
  try simp only [Act.put, List.setIfInBounds_toArray, List.set_cons_zero, List.set_cons_succ]
  refine takeD (i := 4) (v := ?v4) (some 7) rfl (by kernel_rfl) (by kernel_rfl) (by kernel_rfl) (fun _ _ _ h => h) (Or.inl ⟨by rfl, ?hy4⟩) (by assumption) (by rfl) ?rest4
  case hy4 => first | (intro w hSw; (try dsimp only at hSw); obtain ⟨q0, q1, q2⟩ := hSw; go_simp; done) | (intro w hSw; (try dsimp only at hSw); obtain ⟨q0, q1, q2⟩ := hSw; go_simp; with_reducible rfl)
  try simp only [Act.put, List.setIfInBounds_toArray, List.set_cons_zero, List.set_cons_succ]
  refine wpAnyH_ready (rs := [2]) (by kernel_rfl) (by simp) ?_
  refine AllReadyH.cons rfl (fun K hK => ?_) AllReadyH.nil
  go_simp
  refine (HC1.out _ (by (first | exact (Below.refl _ _).drew | exact Below.refl _ _))).mono ?_
  rintro e w1 ⟨v1, rfl, hr1, hb1⟩
  obtain ⟨nb, na, nL, nc, rfl⟩ := hr1.form
  have HB1 : Hid (Below wA.heap.size wA w1) := bafter (by (first | exact (Below.refl _ _).drew | exact Below.refl _ _)) hb1 (Nat.le_refl _)
  have HR1 := hide hr1
  clear hr1 hb1 hHeld
  go_wp2_with fail
  refine hK.out _ _ (HS.out _ HB1.out) (fun hHeld => ?_)
  clear hK K
  try simp only [Act.put, List.setIfInBounds_toArray, List.set_cons_zero, List.set_cons_succ]
  refine wpAnyH_ready (rs := [5]) (by kernel_rfl) (by simp) ?_
  refine AllReadyH.cons rfl (fun K hK => ?_) AllReadyH.nil
  go_simp
  refine (HT.out.tidies hk w1 (bafter HBA.out HB1.out (Nat.le_refl _))).mono ?_
  rintro e w2 ⟨v2, M2, rfl, hr2, hg2, hn2, hc2, hb2⟩
  obtain ⟨sa, sL, sc, rfl⟩ := hr2.shape
  have HB2 := hide (bafter HB1.out hb2 (Nat.le_refl _))
  have HR2 := hide hr2
  have HG2 := hide hg2
  have HN2 := hide hn2
  have HC2 := hide hc2
  have HB12 := hide hb2
  clear hr2 hg2 hn2 hc2 hb2 hHeld
  go_wp2_with fail
  refine hK.out _ _ (HS.out _ HB2.out) (fun hHeld => ?_)
  clear hK K
  try simp only [Act.put, List.setIfInBounds_toArray, List.set_cons_zero, List.set_cons_succ]
  refine wpAnyH_ready (rs := [6]) (by kernel_rfl) (by simp) ?_
  refine AllReadyH.cons rfl (fun K hK => ?_) AllReadyH.nil
  go_simp
  refine (clone_calls HR2.out HG2.out.sl (by have := len_of HN2.out HC2.out; have := HT.out.len; omega)).mono ?_
  rintro e w3 ⟨v3, rfl, ho3, hb3⟩
  obtain ⟨ta, tL, tc, rfl⟩ := ho3.row.shape
  have HB3 := hide (bafter HB2.out hb3 (Nat.le_refl _))
  have HO3 := hide ho3.row
  have HOW3 := hide ho3
  have HB23 := hide hb3
  clear ho3 hb3 hHeld
  go_wp2_with fail
  refine hK.out _ _ (HS.out _ HB3.out) (fun hHeld => ?_)
  clear hK K
  try simp only [Act.put, List.setIfInBounds_toArray, List.set_cons_zero, List.set_cons_succ]
  refine wpAnyH_ready (rs := [7]) (by kernel_rfl) (by simp) ?_
  refine AllReadyH.cons rfl (fun K hK => ?_) AllReadyH.nil
  go_simp
  refine madeF_calls.mono ?_
  rintro e w4 ⟨ra, rl, rc, rfl, hrow4, how4, hb4⟩
  have HOW4 : Hid (OwnT w.heap.size w4 (.agg #[.bool nb, .slice na nL nc, .slice ra rl rc]) M2) := ⟨_, _, _, _, _, rfl, (how4 _ w4 M2 (HOW3.out.below hb4)).down (Nat.le_trans HBA.out.size HB2.out.size)⟩
  clear how4
  have HB4 := hide (bafter HB3.out hb4 (Nat.le_refl _))
  have HR4 := hide (hrow4 w4 M2 (HO3.out.below hb4))
  have HB34 := hide hb4
  clear hrow4 hb4 hHeld
  go_wp2_with fail
  refine hK.out _ _ (HS.out _ HB4.out) (fun hHeld => ?_)
  clear hK K
  try simp only [Act.put, List.setIfInBounds_toArray, List.set_cons_zero, List.set_cons_succ]
  have TZ4 := hide (TZ.out.keep HB4.out)
  obtain ⟨d0, d1, d2, f0, f1, f2⟩ := TZ4.out.every
  have HTR : Hid (TermR w4 (.agg #[.bool nb, .slice na nL nc, .slice ra rl rc]) c M2) := ⟨_, _, _, _, _, _, _, rfl, ((HR1.out.below HB12.out).below HB23.out).below HB34.out, HR4.out, (HG2.out.below HB23.out).below HB34.out, HN2.out⟩
  have HS5 : Hid (let X := put3 w4 (w.heap.size + 1) (.bool nb) (.slice na nL nc) (.slice ra rl rc); X.cell? ⟨w.heap.size, 0, none⟩ = some (.bool cn) ∧ X.cell? ⟨w.heap.size, 1, none⟩ = some (.slice ca cL cc) ∧ X.cell? ⟨w.heap.size, 2, none⟩ = some (.slice pa pl pc)) := by
    have hk : (put3 w4 (w.heap.size + 1) (.bool nb) (.slice na nL nc) (.slice ra rl rc)).heap[w.heap.size]? = w4.heap[w.heap.size]? := put3_other (by omega) _ _ _
    obtain ⟨y0, y1, y2⟩ := HS.out _ HB4.out
    exact ⟨(World.cell?_of_block (a := ⟨w.heap.size, 0, none⟩) hk).trans y0, (World.cell?_of_block (a := ⟨w.heap.size, 1, none⟩) hk).trans y1, (World.cell?_of_block (a := ⟨w.heap.size, 2, none⟩) hk).trans y2⟩
  refine wpAnyH_ready (rs := [8]) (by kernel_rfl) (by simp) ?_
  refine AllReadyH.cons rfl (fun K hK => ?_) AllReadyH.nil
  go_simp
  refine hK.out _ _ (HS5.out) (fun hHeld => ?_)
  clear hK K hHeld
  try simp only [Act.put, List.setIfInBounds_toArray, List.set_cons_zero, List.set_cons_succ]
  refine wpAnyH_done (by kernel_rfl) ?_ _
  clear d0 d1 d2 f0 f1 f2
  go_wp2
  refine bodyPost_ret (results_term rfl rfl (TZ4.out.put _ _ _)) rfl ?_
  exact ⟨_, M2, rfl, HTR.out.but (TZ4.out.but _ _ _), HC2.out, HOW4.out.put TZ4.out _ _ _, put3_below (bafter HBA.out HB4.out (Nat.le_refl _)) (by omega) _ _ _⟩
theorem lnorm_calls {k : Nat} {w : World} {v : Value} {c : Int} {M : List Pt} (h : TermA k w v c M) (hk : k ≤ 500000) :
    Calls Tryd.prog 6 #[v] w fun e w' => TermE w c (fun u => cf u (ps M)) e w' :=
  (lnormF_calls h hk).mono fun e w' ⟨v, M, h1, h2, h3, _, h4⟩ => ⟨v, M, h1, h2, h3, h4⟩

end Go.Proofs.YtkdhcpfmlelfcaaDoor

namespace Go.Proofs.YtkdhcpfmlelfcaaDoor
set_option linter.unusedVariables false
set_option linter.unusedSimpArgs false
set_option maxRecDepth 100000
open Go Go.RowKit Go.Shelf Go.Lib

def atP (M : List Pt) (k : Nat) : Pt := M[k]?.getD (0, false, .slice none 0 0, 0)
theorem atP_of {M : List Pt} {k : Nat} {m : Pt} (h : M[k]? = some m) : atP M k = m := by unfold atP; rw [h]; rfl
def varV (M : List Pt) (k : Nat) : Array Value := #[.int .i64 (atP M k).1, .agg #[.bool (atP M k).2.1, (atP M k).2.2.1]]
def VarsKnow (B : Nat) (v : Value) (M : List Pt) (W : World) : Prop := W.cell? ⟨B, 0, none⟩ = some v ∧ RowP W v M
theorem VarsKnow.cel {B : Nat} {v : Value} {M : List Pt} {W W' : World} (h : VarsKnow B v M W) (hc : Cel W W') : VarsKnow B v M W' := ⟨hc.cell h.1, hc.row h.2⟩

set_option maxHeartbeats 2000000 in
theorem vars_hands (B : Nat) (v : Value) (M : List Pt) (hsl : Sl M) (hl : M.length ≤ 1048576) :
    HandsB Tryd.prog 48 #[.pointer (some ⟨B, 0, none⟩)] M.length (varV M) (fun _ W => VarsKnow B v M W) := by
  intro l J Jx W hKn hSt hY h0
  obtain ⟨hc0, hr0⟩ := hKn 0 W h0
  obtain ⟨a, n, c, rfl⟩ := hr0.shape
  obtain rfl : n = M.length := by
    obtain ⟨_, _, e, _⟩ := hr0
    cases e
    rfl
  generalize hLn : M.length = Ln at *
  have HLN := hide hLn
  have HKn := hide hKn
  have HSt := hide hSt
  have HY := hide hY
  have HSL := hide hsl
  clear hr0 hKn hSt hY hLn hsl
  refine callsIn_of_wp Tryd.func48 rfl trivial ?_ rfl
  simp only [Tryd.ntmps48, List.size_toArray, List.length_cons, List.length_nil, Nat.reduceAdd, Nat.reduceSub, Array.replicate_succ, Array.replicate_zero, List.push_toArray, List.append_toArray, List.nil_append, List.cons_append]
  gi_wp2
  gi_loopw [7] (fun i wr => ∃ k : Nat, k ≤ Ln ∧ i = .int .i64 (k : Int) ∧ J k wr) (fun i _ => Ln - (RowKit.intOf i).toNat)
  case atStart => exact ⟨0, Nat.zero_le _, rfl, h0⟩
  case round =>
    obtain ⟨k, hk, rfl, hJ⟩ := hrel
    clear h0 hc0
    by_cases hlt : k < Ln
    · obtain ⟨⟨vr, neg, mv, z⟩, hm⟩ : ∃ m, M[k]? = some m := ⟨_, List.getElem?_eq_getElem (by rw [HLN.out]; exact hlt)⟩
      obtain ⟨ma, mL, mc, e⟩ := HSL.out _ (List.mem_of_getElem? hm)
      simp only at e
      subst e
      obtain ⟨_, hr⟩ := HKn.out k _ hJ
      obtain ⟨_, _, e, _, _, h3⟩ := hr
      simp only [Value.slice.injEq] at e
      obtain ⟨ea, eL, ec⟩ := e
      clear eL
      subst ea
      subst ec
      obtain ⟨b, o, rfl, hc⟩ := h3 k _ hm
      obtain ⟨c0, c1, c2⟩ := hc
      dsimp only at c0 c1 c2
      have hJ2 := HSt.out k _ _ hJ (bel wr (.cells #[.int .i64 vr, .bool neg, .slice ma mL mc] 31))
      have hy0 := HY.out k _ hlt hJ2
      have ev : varV M k = #[.int .i64 vr, .agg #[.bool neg, .slice ma mL mc]] := by
        unfold varV
        rw [atP_of hm]
      rw [ev] at hy0
      have d1 : (k : Int) < (Ln : Int) := by omega
      have d0 : (0 : Int) ≤ (k : Int) := by omega
      have lb : b < wr.heap.size := block_lt_of_cell c0
      clear ev hm h3 hJ2 hJ
      obtain ⟨fn, tmps, assign, body, hy, hR⟩ := hy0
      gi_wp2
      refine hR.mono ?_
      rintro e W3 (⟨rfl, hJ3⟩ | ⟨rfl, hJx3⟩)
      · clear hR hy
        gi_wp2
        go_roundw
        case rel => exact ⟨k + 1, by omega, by go_num, hJ3⟩
        case measure => simp [RowKit.intOf]; omega
      · clear hR hy
        gi_wp2
        refine bodyPost_ret (results_none rfl _ _ _) rfl ?_
        exact ⟨⟨_, rfl⟩, .inr ⟨k, hlt, hJx3⟩⟩
    · obtain rfl : k = Ln := by omega
      have dge : ¬ (k : Int) < (k : Int) := by omega
      gi_wp2
      go_end0
      exact ⟨⟨_, rfl⟩, .inl hJ⟩

/-- What Vars answers: an iterator over the parts of the one form. -/
def VarsE (w : World) (M : List Pt) (e : Ending) (w' : World) : Prop :=
  ∃ B M' a n c, e = .returned (.func (.func 48) #[] #[.pointer (some ⟨B, 0, none⟩)]) ∧ Uno w' B (.slice a n c) 25 ∧ w.heap.size ≤ B ∧ OwnP w.heap.size w' (.slice a n c) M' ∧ GoodR w' M' ∧ NF (ps M') ∧ (∀ u, cf u (ps M') = cf u (ps M)) ∧ Below w.heap.size w w'

set_option maxHeartbeats 2000000 in
theorem vars_calls {k : Nat} {w : World} {v : Value} {c : Int} {M : List Pt} (h : TermA k w v c M) (hk : k ≤ 500000) :
    Calls Tryd.prog 29 #[v] w fun e w' => VarsE w M e w' := by
  obtain ⟨cn, ca, cL, cc, pa, pl, pc, rfl⟩ := h.form
  have HT := hide h
  have hb0 := bel w (.cells #[.bool cn, .slice ca cL cc, .slice pa pl pc] 27)
  have hti := h.tidies hk _ hb0
  have HB0 := hide hb0
  clear hb0 h
  go_enter Tryd.func29, Tryd.ntmps29
  go_wp2_with fail
  refine hti.mono ?_
  rintro e w2 ⟨v2, M2, rfl, hr2, hg2, hn2, hc2, hb2⟩
  obtain ⟨sa, sL, sc, rfl⟩ := hr2.shape
  have hcl := clone_calls hr2 hg2.sl (by have := len_of hn2 hc2; have := HT.out.len; omega)
  have HB2 := hide (bafter HB0.out hb2 (Nat.le_refl _))
  have HR2 := hide hr2
  have HG2 := hide hg2
  have HN2 := hide hn2
  have HC2 := hide hc2
  clear hr2 hg2 hn2 hc2 hb2 hti
  go_wp2_with fail
  refine hcl.mono ?_
  rintro e w3 ⟨v3, rfl, ho3, hb3⟩
  obtain ⟨ta, tL, tc, rfl⟩ := ho3.row.shape
  have HO3 : Hid (OwnP w.heap.size w3 (.slice ta tL tc) M2) := ⟨⟨ho3.1.1, ho3.1.2.imp id (fun ⟨g, cap, cur, hv, h1, h2⟩ => ⟨g, cap, cur, hv, Nat.le_trans HB2.out.size h1, h2⟩)⟩, ho3.2⟩
  have HB3 := hide hb3
  clear ho3 hb3 hcl
  go_wp2
  go_ret
  have hbl := bel w3 (.cells #[.slice ta tL tc] 25)
  exact ⟨w3.heap.size, M2, _, _, _, rfl, World.alloc_heap_new w3 _, Nat.le_trans HB2.out.size HB3.out.size, HO3.out.below hbl, (HG2.out.below HB3.out).below hbl, HN2.out, HC2.out, bafter (bafter HB2.out HB3.out (Nat.le_refl _)) hbl (Nat.le_refl _)⟩

end Go.Proofs.YtkdhcpfmlelfcaaDoor
