/- Rows of one's own whose room behind the end holds noughts: append keeps all else that lies in memory. -/
import Derived.Laws.AppendOwn
import Derived.ArgAppend
import Derived.Maps.AppendAt
import Derived.Lib.AppendZeros
namespace Go.Proofs.YtbjolmgobeagoaaGreatDoor
set_option linter.unusedVariables false
set_option linter.unusedSimpArgs false
open Go

/-- A row of one's own, with nothing but noughts behind its end. -/
def OwnZ (W : World) (base : Nat) (e : TypeId) (z : Value) (v : Value) (n : Nat) (xs : List Value) : Prop :=
  W.ownsRow base e z.cells.size v n xs ∧ ∀ g i u, v.ownBlock = some g → n * z.cells.size ≤ i → W.cell? ⟨g, i, none⟩ = some u → u ∈ z.cells.toList

/-- What a row's growth keeps. -/
def KeptZ (w w' : World) (z : Value) (row : Option Nat) (len : Nat) : Prop :=
  ∀ (a : Addr) (u : Value), w.cell? a = some u → (u ∉ z.cells.toList ∨ row ≠ some a.block ∨ a.off < len) → w'.cell? a = some u

theorem mem_zeroCells {z : Array Value} {n i : Nat} {u : Value} (h : (Builtin.zeroCells z n)[i]? = some u) : u ∈ z.toList := by
  unfold Builtin.zeroCells at h
  obtain ⟨hi, he⟩ := Array.getElem?_eq_some_iff.1 h
  simp only [Array.size_map, Array.size_range] at hi
  simp only [Array.getElem_map, Array.getElem_range] at he
  have h0 : 0 < z.size := by
    rcases Nat.eq_zero_or_pos z.size with e | e
    · rw [e, Nat.mul_zero] at hi; omega
    · exact e
  have h1 : i % z.size < z.size := Nat.mod_lt _ h0
  rw [getElem!_pos z _ h1] at he
  rw [← he]
  simp

theorem ownZ_nil (W : World) (base : Nat) (e : TypeId) (z : Value) : OwnZ W base e z (.slice none 0 0) 0 [] :=
  ⟨World.ownsRow_nil _ _ _ _, fun g i u h => by simp [Value.ownBlock] at h⟩

theorem cell_alloc_old {w : World} {o : Obj} {a : Addr} {u : Value} (h : w.cell? a = some u) : (w.alloc o).cell? a = some u := by
  have hb : a.block < w.heap.size := by
    unfold World.cell? at h
    rcases Nat.lt_or_ge a.block w.heap.size with hl | hl
    · exact hl
    · rw [Array.getElem?_eq_none hl] at h; simp at h
  rw [World.cell?_of_block (heap_alloc_old w o a.block hb)]
  exact h

theorem run_appZ {P : Program} (w : World) (base : Nat) (t ty e : TypeId) (i : TypeInfo) (z : Value) (bytes : Nat) (ht : P.underlying t = some (.slice e)) (hi : P.info? e = some i) (hz : i.zero = some z)
    (hsize : i.size = z.cells.size) (hby : i.bytes = bytes) (hsz : 0 < z.cells.size)
    (v : Value) (n : Nat) (xs : List Value) (hown : OwnZ w base e z v n xs)
    (a : Addr) (m c : Nat) (news : List Value) (hl : news.length = m * z.cells.size) (hnews : ∀ j u, news[j]? = some u → w.cell? (a.add j) = some u) (h1 : ∀ u ∈ news, u.oneCell' = true)
    (h63 : n + m ≤ maxLen) (hbytes : (n + m) * bytes ≤ 140737488355328) (hbase : base ≤ w.heap.size) :
    ∃ v' w', (Builtin.append_ #[t, t] ty #[v, .slice (some a) m c]).run P w = .ok v' w' ∧ OwnZ w' base e z v' (n + m) (xs ++ news) ∧ w.grownBy w' v.ownBlock ∧
      (v'.ownBlock = v.ownBlock ∨ v'.ownBlock = some w.heap.size) ∧ KeptZ w w' z v.ownBlock (n * z.cells.size) := by
  subst hby
  have hsmall : n + m ≤ 9223372036854775807 := by simp only [maxLen] at h63; omega
  have hlen : (xs ++ news).length = (n + m) * z.cells.size := by rw [List.length_append, hown.1.1, hl, Nat.add_mul]
  have hxl := hown.1.1
  -- what the growing arm leaves
  have grown : ∀ (old : Nat), old < n + m → ∀ (row : Option Nat),
      OwnZ (w.drew.alloc (.cells (xs.toArray ++ news.toArray ++ Builtin.zeroCells z.cells (grownCap w (n + m) old e - (n + m))) e)) base e z
        (.slice (some ⟨w.heap.size, 0, none⟩) (n + m) (grownCap w (n + m) old e)) (n + m) (xs ++ news) ∧
      w.grownBy (w.drew.alloc (.cells (xs.toArray ++ news.toArray ++ Builtin.zeroCells z.cells (grownCap w (n + m) old e - (n + m))) e)) row ∧
      KeptZ w (w.drew.alloc (.cells (xs.toArray ++ news.toArray ++ Builtin.zeroCells z.cells (grownCap w (n + m) old e - (n + m))) e)) z v.ownBlock (n * z.cells.size) := by
    intro old ho row
    have hge := grownCap_ge w (n + m) old e
    have hcm : grownCap w (n + m) old e ≤ maxLen := grownCap_le_maxLen w (n + m) old e h63
    refine ⟨⟨⟨hlen, .inr ⟨w.heap.size, _, _, rfl, hbase, heap_alloc_new w.drew _, hge, hcm, ?_, ?_⟩⟩, ?_⟩, ⟨rfl, rfl, rfl, by simp, fun k hk _ => heap_alloc_old w.drew _ k hk⟩, ?_⟩
    · simp only [Array.size_append, List.size_toArray, size_zeroCells, hxl, hl, ← Nat.add_mul]
      congr 1
      omega
    · simp only [Array.toList_append, List.append_assoc]
      rw [← List.append_assoc, ← hlen]
      exact List.take_left
    · intro g j u hg hj hc
      simp only [Value.ownBlock, Option.some.injEq] at hg
      subst hg
      have hc2 : (xs.toArray ++ news.toArray ++ Builtin.zeroCells z.cells (grownCap w (n + m) old e - (n + m)))[j]? = some u := by
        have h2 := heap_alloc_new w.drew (.cells (xs.toArray ++ news.toArray ++ Builtin.zeroCells z.cells (grownCap w (n + m) old e - (n + m))) e)
        unfold World.cell? at hc
        rw [show (w.drew).heap.size = w.heap.size from rfl] at h2
        simp only [h2] at hc
        simpa using hc
      rw [Array.getElem?_append_right (by simp only [Array.size_append, List.size_toArray]; rw [← List.length_append, hlen]; exact hj)] at hc2
      exact mem_zeroCells hc2
    · intro ad u hc _
      exact cell_alloc_old (w := w.drew) hc
  rcases hown.1.2 with ⟨rfl, rfl⟩ | ⟨g, cap, cur, rfl, hbg, hg, hnc, hcm, hcs, htake⟩
  · have hx : xs = [] := List.eq_nil_of_length_eq_zero (by simpa using hxl)
    subst hx
    by_cases hm : m = 0
    · subst hm
      have hn : news = [] := List.eq_nil_of_length_eq_zero (by simpa using hl)
      subst hn
      refine ⟨.slice none 0 0, w, ?_, ownZ_nil w base e z, ⟨rfl, rfl, rfl, Nat.le_refl _, fun _ _ _ => rfl⟩, Or.inl rfl, fun a u h _ => h⟩
      simp [Builtin.append_, run_underlying ht, sizeOf, typeInfo, hi, Builtin.lenOf, Builtin.firstCells, loadCells, loadCellsFrom]
    · have hr := run_append_nil (P := P) w t ty e i z ht hi hz a m c news (by rw [hsize]; exact hl) hnews (by omega) (by omega) (by have hb := hbytes; simp only [Nat.zero_add] at hb; omega)
      have hgr := grown 0 (by omega) (Value.ownBlock (.slice none 0 0))
      simp only [Nat.zero_add, List.nil_append, Array.empty_append] at hgr ⊢
      exact ⟨_, _, hr, hgr.1, hgr.2.1, Or.inr rfl, by simpa using hgr.2.2⟩
  · by_cases hroom : n + m ≤ cap
    · have hfit : n * i.size + news.length ≤ cur.size := by rw [hl, hcs, hsize, ← Nat.add_mul]; exact Nat.mul_le_mul_right _ hroom
      have hr := run_append_room (P := P) w t ty e i ht hi g n cap cur hg a m c news (by rw [hsize]; exact hl) hnews h1 hroom hfit
      rw [hsize] at hr
      have hcl : (cur.toList.take (n * z.cells.size) ++ news).length = (n + m) * z.cells.size := by rw [htake]; exact hlen
      have hcell : ∀ j, (w.setRow g (cur.toList.take (n * z.cells.size) ++ news ++ cur.toList.drop (n * z.cells.size + news.length)).toArray).cell? ⟨g, j, none⟩ = (cur.toList.take (n * z.cells.size) ++ news ++ cur.toList.drop (n * z.cells.size + news.length))[j]? := by
        intro j
        have h2 := setRow_heap w g cur (cur.toList.take (n * z.cells.size) ++ news ++ cur.toList.drop (n * z.cells.size + news.length)).toArray e (0, 0) hg
        unfold World.cell?
        simp only [h2]
        simp
      have hold : ∀ j, w.cell? ⟨g, j, none⟩ = cur.toList[j]? := by
        intro j
        unfold World.cell?
        simp only [hg]
        simp
      have hdrop : ∀ j, (n + m) * z.cells.size ≤ j → (cur.toList.take (n * z.cells.size) ++ news ++ cur.toList.drop (n * z.cells.size + news.length))[j]? = cur.toList[j]? := by
        intro j hj
        rw [List.getElem?_append_right (by rw [hcl]; exact hj), hcl, List.getElem?_drop]
        congr 1
        rw [hl, ← Nat.add_mul]
        omega
      refine ⟨_, _, hr, ⟨⟨hlen, .inr ⟨g, cap, _, rfl, hbg, setRow_heap w g cur _ e _ hg, hroom, hcm, ?_, ?_⟩⟩, ?_⟩, ⟨rfl, rfl, rfl, by simp, fun k _ hk => setRow_other w g k _ (fun e => hk (by simp [Value.ownBlock, e]))⟩, Or.inl rfl, ?_⟩
      · simp only [List.size_toArray, List.length_append, List.length_take, List.length_drop, Array.length_toList]
        rw [hsize] at hfit
        omega
      · rw [htake, ← hlen]
        exact List.take_left
      · intro g' j u hg' hj hc
        simp only [Value.ownBlock, Option.some.injEq] at hg'
        subst hg'
        rw [hcell, hdrop j hj, ← hold] at hc
        exact hown.2 g j u rfl (Nat.le_trans (Nat.mul_le_mul_right _ (Nat.le_add_right n m)) hj) hc
      · intro ad u hc hcase
        by_cases hb : ad.block = g
        · obtain ⟨ab, ao, asp⟩ := ad
          have hs : asp = none := World.cell?_spot hc
          subst hs
          simp only at hb
          subst hb
          have hlt : ao < n * z.cells.size := by
            rcases Nat.lt_or_ge ao (n * z.cells.size) with h | h
            · exact h
            · rcases hcase with h2 | h2 | h2
              · exact absurd (hown.2 ab ao u rfl h hc) h2
              · exact absurd rfl h2
              · exact absurd h2 (by simp only; omega)
          rw [hcell]
          rw [hold] at hc
          rw [List.append_assoc, List.getElem?_append_left (by simp only [List.length_take, Array.length_toList]; have : ao < cur.size := by (have := (List.getElem?_eq_some_iff.1 hc).1; simpa using this)
                                                               omega), List.getElem?_take, if_pos hlt]
          exact hc
        · rw [World.cell?_of_block (setRow_other w g ad.block _ hb)]
          exact hc
    · have holds : ∀ j u, xs[j]? = some u → w.cell? ((⟨g, 0, none⟩ : Addr).add j) = some u := hown.1.cells (g := g) rfl
      have hr := run_append_grow (P := P) w t ty e i z ht hi hz ⟨g, 0, none⟩ n cap xs (by rw [hsize]; exact hxl) holds a m c news (by rw [hsize]; exact hl) hnews (by omega) (by omega) (growslice_fits (by omega) hbytes)
      have hgr := grown cap (by omega) (Value.ownBlock (.slice (some ⟨g, 0, none⟩) n cap))
      exact ⟨_, _, hr, hgr.1, hgr.2.1, Or.inr rfl, hgr.2.2⟩

end Go.Proofs.YtbjolmgobeagoaaGreatDoor
