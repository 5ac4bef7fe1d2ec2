/- bytes.Clone and slices.Clone of edits, Bytes and Edits of a document. -/
import Derived.Test.YthhpfdjcggfhaaaDoorTBody
import Derived.Test.YthhpfdjcggfhaaaDoorTEdits
import Derived.Lib.SliceRun
namespace Go.Proofs.YthhpfdjcggfhaaaDoor
set_option linter.unusedVariables false
set_option linter.unusedSimpArgs false
set_option maxRecDepth 100000
open Go Go.RowKit Go.Shelf Go.Lib

theorem OwnB.byts {n₀ : Nat} {W : World} {v : Value} {T : List Nat} (hT : ∀ x ∈ T, x < 256) (h : OwnB n₀ W v T) : ∃ ao cap, v = .slice ao T.length cap ∧ Byt W ao cap T ∧ Far n₀ ao := by
  rcases h.2 with ⟨rfl, h0⟩ | ⟨g, cap, cur, rfl, hg, hh, hn, hm, hc, ht⟩
  · refine ⟨none, 0, by rw [h0], ⟨⟨none, 0, by rw [h0], hT, fun j hj => by omega⟩, by omega, fun _ => rfl⟩, fun a e => by cases e⟩
  · refine ⟨some ⟨g, 0, none⟩, cap, rfl, ⟨⟨some ⟨g, 0, none⟩, cap, rfl, hT, fun j hj => ⟨g, 0, rfl, ?_⟩⟩, hn, fun e => by cases e⟩, fun a e => by cases e; exact hg⟩
    have := World.ownsRow.cellAt (show W.ownsRow n₀ 5 1 (.slice (some ⟨g, 0, none⟩) T.length cap) T.length (u8s T) from h) j (by omega)
    rw [Nat.zero_add, this]
    simp [u8s, nth, hj]

theorem own_none (w : World) : OwnB w.heap.size (w.alloc (.cells #[] 5)) (.slice (some ⟨w.heap.size, 0, none⟩) 0 0) [] :=
  World.ownsRow_lit w #[] 0 (Nat.le_refl _) (by unfold maxLen; omega) rfl

set_option maxHeartbeats 4000000 in
theorem bclone_calls (w : World) (a : Addr) (cap : Nat) (T : List Nat) (h : Byt w (some a) cap T) (hlen : T.length ≤ 100000000) :
    Calls Tryd.prog 33 #[.slice (some a) T.length cap] w fun e w' => ∃ ao c, e = .returned (.slice ao T.length c) ∧ Byt w' ao c T ∧ Below w.heap.size w w' := by
  have H := hide h
  clear h
  have qT : ∀ (w : World) (a : Addr) (n c : Nat), (binOp .eql 36 (.slice (some a) n c) (.slice none 0 0)).run Tryd.prog w = .ok (.bool false) w := fun w a n c => Lib.run_eql_slice_nil w 36 5 (some a) n c 0 0 Tryd.underlying36
  have HB := hide (bel w (.cells #[] 5))
  have HO := hide (own_none w)
  have HY := hide (H.out.below HB.out)
  go_enter Tryd.func33, Tryd.ntmps33
  go_wp2_with (at_builtin; go_must (refine wpList_appB _ rfl (.tmp 5) (.tmp 6) rfl w.heap.size _ [] rfl HO.out _ T rfl HY.out.1 (by (try simp only [List.length_nil]); omega) (by simp) ?_; intro v' w2 hown' hgrow))
  have hb2 : Below w.heap.size w w2 := HB.out.grown hgrow (by simp) (fun j hj => by have := (HO.out.lt j hj).1; omega)
  obtain ⟨ao, c, rfl, hy, hfar⟩ := OwnB.byts (H.out.1.small) (show OwnB w.heap.size w2 v' T from hown')
  have HB2 := hide hb2
  have HY2 := hide hy
  clear hb2 hy hown' hgrow
  go_wp2
  go_ret
  exact ⟨ao, c, rfl, HY2.out, HB2.out⟩

theorem infoEd : (Tryd.prog.info? 66).map (fun i => (i.zero, i.size, i.bytes)) = some (some (.agg #[.int .i64 0, .int .i64 0, .int .i64 0]), 3, 24) := by kernel_rfl
theorem ecells_length (L : List Ed) : (ecells L).length = L.length * 3 := by
  induction L with
  | nil => rfl
  | cons a l ih =>
    have e : ecells (a :: l) = edCells a ++ ecells l := by simp [ecells]
    rw [e, List.length_append, ih]
    simp [edCells]
    omega
theorem ecells_one (L : List Ed) : ∀ u ∈ ecells L, u.oneCell' = true := fun u hu => by
  simp only [ecells, List.mem_flatMap, edCells, List.mem_cons, List.not_mem_nil, or_false] at hu
  obtain ⟨x, _, rfl | rfl | rfl⟩ := hu <;> rfl
theorem eds_cells {W : World} {b off cap : Nat} {L : List Ed} (h : EdsIn W (.slice (some ⟨b, off, none⟩) L.length cap) L) : ∀ j u, (ecells L)[j]? = some u → W.cell? ((⟨b, off, none⟩ : Addr).add j) = some u := by
  intro j u hj
  obtain ⟨ao, c, e, _, hs⟩ := h
  cases e
  have hlt : j < L.length * 3 := by rw [← ecells_length]; exact (List.getElem?_eq_some_iff.1 hj).1
  have hq : j / 3 < L.length := by omega
  obtain ⟨b', o', e', c0, c1, c2⟩ := hs (j / 3) L[j / 3] (List.getElem?_eq_getElem hq)
  cases e'
  have hg := ecells_get L (j / 3) L[j / 3] (List.getElem?_eq_getElem hq) (j % 3) (by omega)
  rw [show j / 3 * 3 + j % 3 = j by omega, hj] at hg
  rw [addr_add']
  have hm : j % 3 = 0 ∨ j % 3 = 1 ∨ j % 3 = 2 := by omega
  rcases hm with e | e | e
  · rw [e] at hg
    rw [show off + j = off + j / 3 * 3 by omega, c0, hg]
    rfl
  · rw [e] at hg
    rw [show off + j = off + j / 3 * 3 + 1 by omega, c1, hg]
    rfl
  · rw [e] at hg
    rw [show off + j = off + j / 3 * 3 + 2 by omega, c2, hg]
    rfl
theorem own_noned (w : World) : (w.alloc (.cells #[] 66)).ownsRow w.heap.size 66 3 (.slice (some ⟨w.heap.size, 0, none⟩) 0 0) 0 (ecells []) :=
  World.ownsRow_lit w #[] 0 (Nat.le_refl _) (by unfold maxLen; omega) rfl

set_option maxHeartbeats 4000000 in
theorem eclone_calls (w : World) (b off cap : Nat) (L : List Ed) (h : EdsIn w (.slice (some ⟨b, off, none⟩) L.length cap) L) (hlen : L.length ≤ 1000000) :
    Calls Tryd.prog 34 #[.slice (some ⟨b, off, none⟩) L.length cap] w fun e w' => ∃ rv, e = .returned rv ∧ EdsIn w' rv L ∧ Below w.heap.size w w' := by
  obtain ⟨i0, hi, hz0, hz1, hz2⟩ := info_parts infoEd
  have H := hide h
  clear h
  have qT : ∀ (w : World) (a : Addr) (n c : Nat), (binOp .eql 41 (.slice (some a) n c) (.slice none 0 0)).run Tryd.prog w = .ok (.bool false) w := fun w a n c => Lib.run_eql_slice_nil w 41 66 (some a) n c 0 0 Tryd.underlying41
  have HB := hide (bel w (.cells #[] 66))
  have HO := hide (own_noned w)
  have HY := hide (eds_cells (H.out.below HB.out))
  have H1 := hide (ecells_one L)
  have HL := hide (ecells_length L)
  go_enter Tryd.func34, Tryd.ntmps34
  go_wp2_with (at_builtin; go_must (refine wpList_append_own _ rfl (.tmp 5) (.tmp 6) 41 rfl w.heap.size 66 i0 (.agg #[.int .i64 0, .int .i64 0, .int .i64 0]) 3 24 Tryd.underlying41 hi hz0 hz1 hz2 rfl (by decide) _ 0 (ecells []) rfl HO.out ⟨b, off, none⟩ L.length cap (ecells L) rfl HL.out HY.out H1.out (by unfold maxLen; omega) (by omega) (by simp) ?_; intro v' w2 hown' hgrow hnil))
  have hb2 : Below w.heap.size w w2 := HB.out.grown hgrow (by simp) (fun j hj => by have := (HO.out.lt j hj).1; omega)
  have hy : EdsIn w2 v' L := edsIn_of (n₀ := w.heap.size) (e := 66) (by
    have e1 : 0 + L.length = L.length := Nat.zero_add _
    rw [e1] at hown'
    exact hown')
  have HB2 := hide hb2
  have HY2 := hide hy
  clear hb2 hy hown' hgrow hnil
  go_wp2
  go_ret
  exact ⟨_, rfl, HY2.out, HB2.out⟩

end Go.Proofs.YthhpfdjcggfhaaaDoor
