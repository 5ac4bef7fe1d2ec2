/- From a row's own conditions to what the walks of text ask: spans, edits, changes that came in. -/
import Derived.Test.YthhpfdjcggfhaaaDoorULaw1
import Derived.Test.YthhpfdjcggfhaaaDoorTMoved
import Derived.Deep.Slices
import Derived.Deep.Strs
import Derived.Lib.SmallJoins
namespace Go.Proofs.YthhpfdjcggfhaaaDoor
set_option linter.unusedVariables false
set_option linter.unusedSimpArgs false
set_option maxRecDepth 100000
open Go Go.RowKit Go.Shelf Go.Lib Go.ChangeShapes Go.WideShapes

theorem cellsSpan : Tryd.prog.cellsOf 56 = 2 := by kernel_rfl
theorem cellsPos : Tryd.prog.cellsOf 48 = 2 := by kernel_rfl
theorem cellsEdit : Tryd.prog.cellsOf 66 = 3 := by kernel_rfl
theorem cellsChange : Tryd.prog.cellsOf 71 = 6 := by kernel_rfl
theorem cellsBool : Tryd.prog.cellsOf 4 = 1 := by kernel_rfl
theorem cellsStr : Tryd.prog.cellsOf 9 = 1 := by kernel_rfl

theorem add_plain (b off j : Nat) : (⟨b, off, none⟩ : Addr).add j = ⟨b, off + j, none⟩ := by
  unfold Addr.add
  split
  · rename_i h0; simp [h0]
  · rfl

theorem wf64 {x : Int} (h : (Lit.int .i64 x).wf = true) : -9223372036854775808 ≤ x ∧ x ≤ 9223372036854775807 := by
  simp [Lit.wf, IntKind.min, IntKind.max, IntKind.signed, IntKind.bits] at h
  omega

theorem span_in {H : Type} {enc : TypeId × Value → H} {W : World} {base : Nat} {v : Value} {d : DataW H} {ps : List MemPlace}
    (hval : Value.okWide Tryd.prog W .any base 56 v) (h : DataW.Trod enc Tryd.prog W 0 (fun _ => true) true 56 v d ps) : ∃ f t : Int, v = .agg #[.int .i64 f, .int .i64 t] := by
  obtain ⟨cs, rfl, hcl⟩ := okWide_struct Tryd.underlying56 hval
  rw [cellsSpan] at hcl
  obtain ⟨l⟩ := cs
  match l, hcl with
  | [c0, c1], _ =>
    obtain ⟨fuel, hf⟩ := h
    obtain ⟨z0, z1, m', _, _, hz0, hz1⟩ := trod_struct2 Tryd.underlying56 hf
    simp [Value.cells, cellsInt] at hz0 hz1
    obtain ⟨f, e3, _, _⟩ := DataW.trod_int Tryd.underlying3 hz0
    obtain ⟨t, e4, _, _⟩ := DataW.trod_int Tryd.underlying3 hz1
    simp at e3 e4
    subst e3 e4
    exact ⟨f, t, rfl⟩

theorem pos_part {H : Type} {enc : TypeId × Value → H} {W : World} {fuel : Nat} {c0 c1 : Value} {x : DataW H × List MemPlace}
    (hf : DataW.trod enc Tryd.prog W 0 (fun _ => true) true fuel 48 [c0, c1] = some x) : ∃ f t : Int, c0 = .int .i64 f ∧ c1 = .int .i64 t ∧ (-9223372036854775808 ≤ f ∧ f ≤ 9223372036854775807) ∧ (-9223372036854775808 ≤ t ∧ t ≤ 9223372036854775807) := by
  obtain ⟨z0, z1, m', _, _, hz0, hz1⟩ := trod_struct2 Tryd.underlying48 hf
  simp [Value.cells, cellsInt] at hz0 hz1
  obtain ⟨f, e3, _, w3⟩ := DataW.trod_int Tryd.underlying3 hz0
  obtain ⟨t, e4, _, w4⟩ := DataW.trod_int Tryd.underlying3 hz1
  simp at e3 e4
  subst e3 e4
  exact ⟨f, t, rfl, rfl, wf64 w3, wf64 w4⟩

theorem pos_in {H : Type} {enc : TypeId × Value → H} {W : World} {base : Nat} {v : Value} {d : DataW H} {ps : List MemPlace}
    (hval : Value.okWide Tryd.prog W .any base 48 v) (h : DataW.Trod enc Tryd.prog W 0 (fun _ => true) true 48 v d ps) : ∃ f t : Int, v = .agg #[.int .i64 f, .int .i64 t] ∧ t ≤ 9223372036854775807 := by
  obtain ⟨cs, rfl, hcl⟩ := okWide_struct Tryd.underlying48 hval
  rw [cellsPos] at hcl
  obtain ⟨l⟩ := cs
  match l, hcl with
  | [c0, c1], _ =>
    obtain ⟨fuel, hf⟩ := h
    obtain ⟨f, t, rfl, rfl, _, h2⟩ := pos_part (by simpa [Value.cells] using hf)
    exact ⟨f, t, rfl, h2.2⟩

theorem ed_of {H : Type} {enc : TypeId × Value → H} {W : World} {n : Nat} {b off i : Nat} {cs : List Value} {x : DataW H × List MemPlace}
    (h1 : W.cells? 0 ((⟨b, off, none⟩ : Addr).add (i * 3)) 3 = some cs) (h2 : DataW.trod enc Tryd.prog W 0 (fun _ => true) true n 66 cs = some x) :
    ∃ y : Ed, W.cell? ⟨b, off + i * 3, none⟩ = some (.int .i64 y.1) ∧ W.cell? ⟨b, off + i * 3 + 1, none⟩ = some (.int .i64 y.2.1) ∧ W.cell? ⟨b, off + i * 3 + 2, none⟩ = some (.int .i64 y.2.2) := by
  obtain ⟨_, hlen, hcell⟩ := World.cells?_some h1
  match cs, hlen with
  | [v0, v1, v2], _ =>
    obtain ⟨y0, y1, y2, k, _, _, g0, g1, g2⟩ := Go.Deep.trod_struct3 Tryd.underlying66 h2
    simp [cellsInt] at g0 g1 g2
    obtain ⟨p, e0, _, _⟩ := DataW.trod_int Tryd.underlying3 g0
    obtain ⟨q, e1, _, _⟩ := DataW.trod_int Tryd.underlying3 g1
    obtain ⟨r, e2, _, _⟩ := DataW.trod_int Tryd.underlying3 g2
    simp at e0 e1 e2
    subst e0 e1 e2
    have k0 := hcell 0 (by omega)
    have k1 := hcell 1 (by omega)
    have k2 := hcell 2 (by omega)
    rw [add_plain, add_plain] at k0 k1 k2
    exact ⟨(p, q, r), by simpa using k0, by simpa using k1, by simpa using k2⟩

theorem spot_none {W : World} {a : Addr} {n : Nat} {cs : List Value} (h1 : W.cells? 0 (a.add 0) (n + 1) = some cs) : ∃ b off, a = ⟨b, off, none⟩ := by
  obtain ⟨b, off, spot⟩ := a
  obtain ⟨_, hlen, hcell⟩ := World.cells?_some h1
  have k0 := hcell 0 (by omega)
  have hs : cs[0]? = some cs[0] := List.getElem?_eq_getElem (by omega)
  rw [hs] at k0
  have hspot : spot = none := by simpa [Addr.add] using World.cell?_spot k0
  subst hspot
  exact ⟨b, off, rfl⟩

theorem eds_part {H : Type} {enc : TypeId × Value → H} {W : World} {fuel : Nat} {v : Value} {x : DataW H × List MemPlace}
    (hf : DataW.trod enc Tryd.prog W 0 (fun _ => true) true fuel 41 [v] = some x) : ∃ ao cap L, v = .slice ao L.length cap ∧ EdsIn W (.slice ao L.length cap) L := by
  rcases Go.Deep.open_slice Tryd.underlying41 hf with ⟨h0, _⟩ | ⟨a, len, cap, m, n, D, Pl, hcs, hb, hl, hm, hmm, hx, hel⟩
  · simp at h0
    subst h0
    exact ⟨none, 0, [], rfl, none, 0, rfl, Nat.le_refl _, fun j x hj => by simp at hj⟩
  · simp at hcs
    subst hcs
    simp only [if_true] at hmm
    subst hmm
    rw [cellsEdit] at hel
    rcases Nat.eq_zero_or_pos len with h0 | hpos
    · subst h0
      exact ⟨some a, m, [], rfl, some a, m, rfl, Nat.zero_le _, fun j x hj => by simp at hj⟩
    · obtain ⟨cs0, hc0, _⟩ := hel 0 (by omega)
      rw [Nat.zero_mul] at hc0
      obtain ⟨b, off, rfl⟩ := spot_none hc0
      obtain ⟨f, hff⟩ := Go.Deep.choose_lt (α := Ed) (n := len) (p := fun i y => W.cell? ⟨b, off + i * 3, none⟩ = some (.int .i64 y.1) ∧ W.cell? ⟨b, off + i * 3 + 1, none⟩ = some (.int .i64 y.2.1) ∧ W.cell? ⟨b, off + i * 3 + 2, none⟩ = some (.int .i64 y.2.2)) (fun i hi => by
        obtain ⟨cs', h1, h2⟩ := hel i (by omega)
        exact ed_of h1 h2)
      refine ⟨some ⟨b, off, none⟩, m, (List.range len).map f, by simp, _, _, rfl, by simpa using hl, fun j y hj => ?_⟩
      simp only [List.getElem?_map, Option.map_eq_some_iff] at hj
      obtain ⟨i, hi, rfl⟩ := hj
      obtain ⟨hi1, rfl⟩ := List.getElem?_eq_some_iff.1 hi
      simp only [List.length_range] at hi1
      simp only [List.getElem_range]
      exact ⟨b, off, rfl, hff j hi1⟩

theorem eds_in {H : Type} {enc : TypeId × Value → H} {W : World} {base : Nat} {v : Value} {d : DataW H} {ps : List MemPlace}
    (hval : Value.okWide Tryd.prog W .any base 41 v) (h : DataW.Trod enc Tryd.prog W 0 (fun _ => true) true 41 v d ps) : ∃ ao cap L, v = .slice ao L.length cap ∧ EdsIn W (.slice ao L.length cap) L := by
  obtain ⟨a0, len0, cap0, rfl⟩ := okWide_slice Tryd.underlying41 hval
  obtain ⟨fuel, hf⟩ := h
  exact eds_part (by simpa [Value.cells] using hf)

/-- A change: ranged, a position, another, and the text's bytes. -/
abbrev Ch := Bool × Int × Int × Int × Int × List Nat
/-- Its numbers are of 64 bits, its letters bytes. -/
def ChOk (x : Ch) : Prop := x.2.2.1 ≤ 9223372036854775807 ∧ x.2.2.2.2.1 ≤ 9223372036854775807 ∧ ∀ y ∈ x.2.2.2.2.2, y < 256
def ChAt (W : World) (b o : Nat) (x : Ch) : Prop :=
  W.cell? ⟨b, o, none⟩ = some (.bool x.1) ∧ W.cell? ⟨b, o + 1, none⟩ = some (.int .i64 x.2.1) ∧ W.cell? ⟨b, o + 2, none⟩ = some (.int .i64 x.2.2.1) ∧ W.cell? ⟨b, o + 3, none⟩ = some (.int .i64 x.2.2.2.1) ∧ W.cell? ⟨b, o + 4, none⟩ = some (.int .i64 x.2.2.2.2.1) ∧ W.cell? ⟨b, o + 5, none⟩ = some (.string (strOf x.2.2.2.2.2))
theorem ChAt.below {W W' : World} {b o : Nat} {x : Ch} (h : ChAt W b o x) (hb : Below W.heap.size W W') : ChAt W' b o x := by
  obtain ⟨h0, h1, h2, h3, h4, h5⟩ := h
  exact ⟨(hb.cell (p := ⟨b, o, none⟩) (block_lt h0)).trans h0, (hb.cell (p := ⟨b, o + 1, none⟩) (block_lt h1)).trans h1, (hb.cell (p := ⟨b, o + 2, none⟩) (block_lt h2)).trans h2, (hb.cell (p := ⟨b, o + 3, none⟩) (block_lt h3)).trans h3, (hb.cell (p := ⟨b, o + 4, none⟩) (block_lt h4)).trans h4, (hb.cell (p := ⟨b, o + 5, none⟩) (block_lt h5)).trans h5⟩
/-- A slice of changes: it holds these. -/
def ChsIn (W : World) (v : Value) (L : List Ch) : Prop := ∃ ao cap, v = .slice ao L.length cap ∧ L.length ≤ cap ∧ ∀ j x, L[j]? = some x → ChOk x ∧ ∃ b off, ao = some ⟨b, off, none⟩ ∧ ChAt W b (off + j * 6) x
theorem ChsIn.below {W W' : World} {v : Value} {L : List Ch} (h : ChsIn W v L) (hb : Below W.heap.size W W') : ChsIn W' v L := by
  obtain ⟨ao, cap, h1, h2, h3⟩ := h
  refine ⟨ao, cap, h1, h2, fun j s hj => ?_⟩
  obtain ⟨k, b, off, e, c⟩ := h3 j s hj
  exact ⟨k, b, off, e, c.below hb⟩

theorem strOf_of (s : ByteArray) : ∃ T, s = strOf T ∧ (∀ x ∈ T, x < 256) ∧ T.length = s.size := by
  refine ⟨s.data.toList.map UInt8.toNat, ?_, ?_, ?_⟩
  · obtain ⟨⟨l⟩⟩ := s
    have e : (l.map UInt8.toNat).map UInt8.ofNat = l := by
      rw [List.map_map]
      have : (UInt8.ofNat ∘ UInt8.toNat) = id := by funext y; exact UInt8.ofNat_toNat
      rw [this, List.map_id]
    show ByteArray.mk ⟨l⟩ = ByteArray.mk ((l.map UInt8.toNat).map UInt8.ofNat).toArray
    rw [e]
  · intro x hx
    obtain ⟨y, _, rfl⟩ := List.mem_map.1 hx
    exact y.toNat_lt
  · rw [List.length_map]
    rfl

theorem ch_of {H : Type} {enc : TypeId × Value → H} {W : World} {n : Nat} {b off i : Nat} {cs : List Value} {x : DataW H × List MemPlace}
    (h1 : W.cells? 0 ((⟨b, off, none⟩ : Addr).add (i * 6)) 6 = some cs) (h2 : DataW.trod enc Tryd.prog W 0 (fun _ => true) true n 71 cs = some x) :
    ∃ y : Ch, ChOk y ∧ ChAt W b (off + i * 6) y := by
  obtain ⟨_, hlen, hcell⟩ := World.cells?_some h1
  match cs, hlen with
  | [v0, v1, v2, v3, v4, v5], _ =>
    obtain ⟨y0, y1, y2, y3, k, _, _, g0, g1, g2, g3⟩ := Go.Joins.trod_struct4 Tryd.underlying71 h2
    simp [cellsBool, cellsPos, cellsStr] at g0 g1 g2 g3
    obtain ⟨rg, e0, _⟩ := DataW.trod_bool Tryd.underlying4 g0
    obtain ⟨p, u, e1, e2, _, hu⟩ := pos_part g1
    obtain ⟨q, z, e3, e4, _, hz⟩ := pos_part g2
    obtain ⟨s, e5, _, _⟩ := DataW.trod_string Tryd.underlying9 g3
    simp at e0 e5
    obtain ⟨T, hT, hs, _⟩ := strOf_of s
    subst hT
    subst e0 e1 e2 e3 e4 e5
    have k0 := hcell 0 (by omega)
    have k1 := hcell 1 (by omega)
    have k2 := hcell 2 (by omega)
    have k3 := hcell 3 (by omega)
    have k4 := hcell 4 (by omega)
    have k5 := hcell 5 (by omega)
    rw [add_plain, add_plain] at k0 k1 k2 k3 k4 k5
    exact ⟨(rg, p, u, q, z, T), ⟨hu.2, hz.2, hs⟩, by simpa using k0, by simpa using k1, by simpa using k2, by simpa using k3, by simpa using k4, by simpa using k5⟩

theorem chs_part {H : Type} {enc : TypeId × Value → H} {W : World} {fuel : Nat} {v : Value} {x : DataW H × List MemPlace}
    (hf : DataW.trod enc Tryd.prog W 0 (fun _ => true) true fuel 22 [v] = some x) : ∃ ao cap L, v = .slice ao L.length cap ∧ ChsIn W (.slice ao L.length cap) L := by
  rcases Go.Deep.open_slice Tryd.underlying22 hf with ⟨h0, _⟩ | ⟨a, len, cap, m, n, D, Pl, hcs, hb, hl, hm, hmm, hx, hel⟩
  · simp at h0
    subst h0
    exact ⟨none, 0, [], rfl, none, 0, rfl, Nat.le_refl _, fun j x hj => by simp at hj⟩
  · simp at hcs
    subst hcs
    simp only [if_true] at hmm
    subst hmm
    rw [cellsChange] at hel
    rcases Nat.eq_zero_or_pos len with h0 | hpos
    · subst h0
      exact ⟨some a, m, [], rfl, some a, m, rfl, Nat.zero_le _, fun j x hj => by simp at hj⟩
    · obtain ⟨cs0, hc0, _⟩ := hel 0 (by omega)
      rw [Nat.zero_mul] at hc0
      obtain ⟨b, off, rfl⟩ := spot_none hc0
      obtain ⟨f, hff⟩ := Go.Deep.choose_lt (α := Ch) (n := len) (p := fun i y => ChOk y ∧ ChAt W b (off + i * 6) y) (fun i hi => by
        obtain ⟨cs', h1, h2⟩ := hel i (by omega)
        exact ch_of h1 h2)
      refine ⟨some ⟨b, off, none⟩, m, (List.range len).map f, by simp, _, _, rfl, by simpa using hl, fun j y hj => ?_⟩
      simp only [List.getElem?_map, Option.map_eq_some_iff] at hj
      obtain ⟨i, hi, rfl⟩ := hj
      obtain ⟨hi1, rfl⟩ := List.getElem?_eq_some_iff.1 hi
      simp only [List.length_range] at hi1
      simp only [List.getElem_range]
      exact ⟨(hff j hi1).1, b, off, rfl, (hff j hi1).2⟩

theorem chs_in {H : Type} {enc : TypeId × Value → H} {W : World} {base : Nat} {v : Value} {d : DataW H} {ps : List MemPlace}
    (hval : Value.okWide Tryd.prog W .any base 22 v) (h : DataW.Trod enc Tryd.prog W 0 (fun _ => true) true 22 v d ps) : ∃ ao cap L, v = .slice ao L.length cap ∧ ChsIn W (.slice ao L.length cap) L := by
  obtain ⟨a0, len0, cap0, rfl⟩ := okWide_slice Tryd.underlying22 hval
  obtain ⟨fuel, hf⟩ := h
  exact chs_part (by simpa [Value.cells] using hf)

end Go.Proofs.YthhpfdjcggfhaaaDoor
