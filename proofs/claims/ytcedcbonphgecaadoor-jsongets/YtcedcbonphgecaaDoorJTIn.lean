/- Json: a value that came in is a tree. -/
import Derived.Test.YtcedcbonphgecaaDoorJRefl
import Derived.Test.YtcedcbonphgecaaDoorJRow
import Derived.Deep.Slices
namespace Go.Proofs.YtcedcbonphgecaaDoor
set_option linter.unusedVariables false
set_option linter.unusedSimpArgs false
set_option maxRecDepth 100000
open Go Go.RowKit Go.Shelf Go.Lib Go.ChangeShapes Go.WideShapes Go.ChangeAt

theorem cellsJV : Tryd.prog.cellsOf 27 = 4 := by kernel_rfl
theorem cellsJVs : Tryd.prog.cellsOf 25 = 1 := by kernel_rfl
theorem cellsStrs : Tryd.prog.cellsOf 24 = 1 := by kernel_rfl

theorem strs_part {H : Type} {enc : TypeId × Value → H} {W : World} {fuel : Nat} {v : Value} {x : DataW H × List MemPlace}
    (hf : DataW.trod enc Tryd.prog W 0 (fun _ => true) true fuel 24 [v] = some x) : ∃ K, StrsS W (fun _ => True) v K := by
  rcases Deep.open_strs Tryd.underlying24 Tryd.underlying9 cellsStr hf with ⟨hcs, _⟩ | ⟨a, len0, cap0, m, Sx, hcs, _, hl, hm, hmm, _, hx⟩
  · simp at hcs
    subst hcs
    exact ⟨[], strs_nil⟩
  · simp at hcs
    subst hcs
    have hlen : ((List.range len0).map Sx).length = len0 := by simp
    refine ⟨(List.range len0).map Sx, some a, cap0, by rw [hlen], fun j hj => ?_⟩
    rw [hlen] at hj
    have hc := (hx j (by rw [hmm]; simp; omega)).1
    have hc0 := (hx 0 (by rw [hmm]; simp; omega)).1
    obtain ⟨b, off, spot⟩ := a
    have hspot : spot = none := by simpa [Addr.add] using World.cell?_spot hc0
    subst hspot
    rw [addr_plus] at hc
    refine ⟨b, off, rfl, trivial, ?_⟩
    rw [hc]
    simp [nthS, hj]
theorem spot_none4 {W : World} {a : Addr} {n : Nat} {cs : List Value} (hn : 0 < n) (h : W.cells? 0 a n = some cs) : ∃ b o, a = ⟨b, o, none⟩ := by
  obtain ⟨_, hlen, hcell⟩ := World.cells?_some h
  have h0 := hcell 0 (by omega)
  rw [List.getElem?_eq_getElem (by omega)] at h0
  obtain ⟨b, o, sp⟩ := a
  have hs : sp = none := by
    have := World.cell?_spot h0
    simpa [Addr.add] using this
  subst hs
  exact ⟨b, o, rfl⟩

theorem tree_of {H : Type} {enc : TypeId × Value → H} {W : World} : ∀ (fuel : Nat) (cs : List Value) (x : DataW H × List MemPlace), DataW.trod enc Tryd.prog W 0 (fun _ => true) true fuel 27 cs = some x → cs.length = 4 → ∃ y T, cs = vcell y ∧ TIn W (fun _ => True) y T := by
  intro fuel
  induction fuel using Nat.strongRecOn with
  | ind fuel IH =>
    intro cs x h hlen
    obtain ⟨xs, n, hn, rfl, hl, hxl, hf⟩ := DataW.trod_struct Tryd.underlying27 h
    match cs, hlen, xs, hxl with
    | [v0, v1, v2, v3], _, [y0, y1, y2, y3], _ =>
      have g0 := hf 0 _ rfl
      have g1 := hf 1 _ rfl
      have g2 := hf 2 _ rfl
      have g3 := hf 3 _ rfl
      simp [cellsInt, cellsStr, cellsStrs, cellsJVs] at g0 g1 g2 g3
      obtain ⟨z, e0, _, _⟩ := DataW.trod_int Tryd.underlying3 g0
      obtain ⟨s, e1, _, _⟩ := DataW.trod_string Tryd.underlying9 g1
      obtain ⟨K, hK⟩ := strs_part g2
      simp at e0 e1
      subst e0 e1
      rcases DataW.trod_slice Tryd.underlying25 g3 with ⟨e3, _⟩ | ⟨a, len, cap, elems, rest, n', hn', e3, _, _, _, _, hel, hcells, _, _⟩
      · simp at e3
        subst e3
        exact ⟨(z, s, v2, .slice none 0 0), .mk z s K [], rfl, .mk z s v2 none 0 K [] (fun _ => (0, ⟨#[]⟩, v2, v2)) hK (fun i hi => by simp at hi) (fun i hi => by simp at hi) (fun i hi => by simp at hi)⟩
      · simp at e3
        subst e3
        rw [cellsJV] at hcells
        rcases Nat.eq_zero_or_pos len with h0 | hpos
        · subst h0
          exact ⟨(z, s, v2, .slice (some a) 0 cap), .mk z s K [], rfl, .mk z s v2 (some a) cap K [] (fun _ => (0, ⟨#[]⟩, v2, v2)) hK (fun i hi => by simp at hi) (fun i hi => by simp at hi) (fun i hi => by simp at hi)⟩
        · have each : ∀ i, i < len → ∃ cs' q, W.cells? 0 (a.add (i * 4)) 4 = some cs' ∧ DataW.trod enc Tryd.prog W 0 (fun _ => true) true n' 27 cs' = some q := fun i hi => by
            have h1 := hcells i hi
            rw [List.getElem?_eq_getElem (by omega)] at h1
            obtain ⟨cs', h2, h3⟩ := Option.bind_eq_some_iff.1 h1
            exact ⟨cs', _, h2, h3⟩
          obtain ⟨cs0, _, hc0, _⟩ := each 0 hpos
          rw [Nat.zero_mul] at hc0
          obtain ⟨b, off, rfl⟩ : ∃ b o, a = ⟨b, o, none⟩ := by
            obtain ⟨b, o, e⟩ := spot_none4 (by omega) hc0
            obtain ⟨ab, ao, sp⟩ := a
            simp [Addr.add] at e
            exact ⟨b, o, by simp [e]⟩
          haveI : Inhabited (JC × JT) := ⟨((0, ⟨#[]⟩, v2, v2), .mk 0 ⟨#[]⟩ [] [])⟩
          obtain ⟨f, hff⟩ := Go.Deep.choose_lt (α := JC × JT) (n := len) (p := fun i y => (∀ r, r < 4 → W.cell? ⟨b, off + (i * 4 + r), none⟩ = (vcell y.1)[r]?) ∧ TIn W (fun _ => True) y.1 y.2) (fun i hi => by
            obtain ⟨cs', q, h1, h2⟩ := each i hi
            obtain ⟨_, hlen', hcell⟩ := World.cells?_some h1
            obtain ⟨y, T, e, hT⟩ := IH n' (by omega) cs' q h2 hlen'
            refine ⟨(y, T), fun r hr => ?_, hT⟩
            have := hcell r hr
            rw [addr_plus, addr_plus, Nat.add_assoc, e] at this
            exact this)
          have hll : ((List.range len).map fun i => (f i).2).length = len := by simp
          refine ⟨(z, s, v2, .slice (some ⟨b, off, none⟩) len cap), .mk z s K ((List.range len).map fun i => (f i).2), rfl, ?_⟩
          have ht := TIn.mk (W := W) (S := fun _ => True) z s v2 (some ⟨b, off, none⟩) cap K ((List.range len).map fun i => (f i).2) (fun i => (f i).1) hK (fun i hi => ⟨b, off, rfl, trivial, (hff i (by omega)).1⟩) (fun i hi => (hff i (by omega)).2.sl) (fun i hi => by
            rw [List.getElem_map, List.getElem_range]
            exact (hff i (by omega)).2)
          rw [hll] at ht
          exact ht

/-- A json.Value that came in. -/
theorem tree_in {H : Type} {enc : TypeId × Value → H} {W : World} {base : Nat} {v : Value} {d : DataW H} {ps : List MemPlace}
    (hval : Value.okWide Tryd.prog W .any base 27 v) (h : DataW.Trod enc Tryd.prog W 0 (fun _ => true) true 27 v d ps) :
    ∃ y T, v = vagg y ∧ TIn W (fun _ => True) y T := by
  obtain ⟨cs, rfl, hcl⟩ := okWide_struct Tryd.underlying27 hval
  rw [cellsJV] at hcl
  obtain ⟨l⟩ := cs
  obtain ⟨fuel, hf⟩ := h
  obtain ⟨y, T, e, hT⟩ := tree_of fuel l _ hf (by simpa using hcl)
  subst e
  exact ⟨y, T, rfl, hT⟩

end Go.Proofs.YtcedcbonphgecaaDoor
