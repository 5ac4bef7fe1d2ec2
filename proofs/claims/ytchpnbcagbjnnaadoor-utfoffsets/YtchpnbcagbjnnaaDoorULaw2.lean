/- A position's case that came in: bytes, lines, a truth, a position. -/
import Derived.Test.YtchpnbcagbjnnaaDoorULaw1
import Derived.Lib.SmallJoins
namespace Go.Proofs.YtchpnbcagbjnnaaDoor
set_option linter.unusedVariables false
set_option linter.unusedSimpArgs false
set_option maxRecDepth 100000
open Go Go.RowKit Go.Shelf Go.Lib Go.ChangeShapes Go.WideShapes

theorem add_plain (b off j : Nat) : (⟨b, off, none⟩ : Addr).add j = ⟨b, off + j, none⟩ := by
  unfold Addr.add
  split
  · rename_i h0; simp [h0]
  · rfl

theorem bytes_part {H : Type} {enc : TypeId × Value → H} {W : World} {fuel : Nat} {v : Value} {x : DataW H × List MemPlace}
    (hf : DataW.trod enc Tryd.prog W 0 (fun _ => true) true fuel 22 [v] = some x) : ∃ ao cap T, v = .slice ao T.length cap ∧ Byt W ao cap T := by
  rcases open_ints Tryd.underlying22 Tryd.underlying5 cellsU8 hf with ⟨hcs, _⟩ | ⟨y, len0, cap0, zs, hcs, _, hl, hm, hz, hx, hcell, hwz⟩
  · simp at hcs
    subst hcs
    exact ⟨none, 0, [], rfl, ⟨none, 0, rfl, fun x hx => by simp at hx, fun j hj => by simp at hj⟩, Nat.le_refl _, fun _ => rfl⟩
  · simp at hcs
    subst hcs
    simp only [if_true] at hz
    have hl0 : ((zs.take len0).map Int.toNat).length = len0 := by simp; omega
    have hw : ∀ n ∈ zs, 0 ≤ n ∧ n < 256 := fun n hn => by
      have := hwz n hn
      simp [Lit.wf, IntKind.min, IntKind.max, IntKind.signed, IntKind.bits] at this
      omega
    refine ⟨some y, cap0, (zs.take len0).map Int.toNat, by rw [hl0], ⟨some y, cap0, by rw [hl0], ?_, fun j hj => ?_⟩, by rw [hl0]; exact hl, fun e => by cases e⟩
    · intro z hy
      obtain ⟨n, hn, rfl⟩ := List.mem_map.1 hy
      have := hw n (List.mem_of_mem_take hn)
      omega
    · rw [hl0] at hj
      have hc := hcell j (by omega)
      have hc0 := hcell 0 (by omega)
      obtain ⟨b, off, spot⟩ := y
      have hspot : spot = none := by simpa [Addr.add] using World.cell?_spot hc0
      subst hspot
      rw [add_plain] at hc
      refine ⟨b, off, rfl, ?_⟩
      have hjz : j < zs.length := by omega
      have hmem := hw zs[j] (List.getElem_mem hjz)
      have e1 : nth ((zs.take len0).map Int.toNat) j = (zs[j]).toNat := by
        unfold nth
        rw [List.getElem?_eq_getElem (by simp; omega)]
        simp
      rw [e1, Int.toNat_of_nonneg hmem.1]
      simpa [List.getD, hjz] using hc

theorem ints_part {H : Type} {enc : TypeId × Value → H} {W : World} {fuel : Nat} {v : Value} {x : DataW H × List MemPlace}
    (hf : DataW.trod enc Tryd.prog W 0 (fun _ => true) true fuel 46 [v] = some x) : ∃ ao cap L, v = .slice ao L.length cap ∧ IntsIn W (.slice ao L.length cap) L := by
  rcases open_ints Tryd.underlying46 Tryd.underlying3 cellsInt hf with ⟨hcs, _⟩ | ⟨y, len0, cap0, zs, hcs, _, hl, hm, hz, hx, hcell, hwz⟩
  · simp at hcs
    subst hcs
    exact ⟨none, 0, [], rfl, none, 0, rfl, fun j hj => by simp at hj⟩
  · simp at hcs
    subst hcs
    simp only [if_true] at hz
    have hl0 : (zs.take len0).length = len0 := by simp; omega
    refine ⟨some y, cap0, zs.take len0, by rw [hl0], some y, cap0, rfl, fun j hj => ?_⟩
    rw [hl0] at hj
    have hc := hcell j (by omega)
    have hc0 := hcell 0 (by omega)
    obtain ⟨b, off, spot⟩ := y
    have hspot : spot = none := by simpa [Addr.add] using World.cell?_spot hc0
    subst hspot
    rw [add_plain] at hc
    refine ⟨b, off, rfl, ?_⟩
    have hjz : j < zs.length := by omega
    rw [nthI_eq (by rw [hl0]; exact hj), List.getElem_take]
    simpa [List.getD, hjz] using hc

theorem cellsCase : Tryd.prog.cellsOf 51 = 5 := by kernel_rfl
theorem cellsBytes : Tryd.prog.cellsOf 22 = 1 := by kernel_rfl
theorem cellsInts : Tryd.prog.cellsOf 46 = 1 := by kernel_rfl
theorem cellsBool : Tryd.prog.cellsOf 4 = 1 := by kernel_rfl
theorem cellsPos : Tryd.prog.cellsOf 49 = 2 := by kernel_rfl

theorem offcase_in {H : Type} {enc : TypeId × Value → H} {W : World} {base : Nat} {v : Value} {d : DataW H} {ps : List MemPlace}
    (hval : Value.okWide Tryd.prog W .any base 51 v) (h : DataW.Trod enc Tryd.prog W 0 (fun _ => true) true 51 v d ps) :
    ∃ (ao : Option Addr) (cap : Nat) (T : List Nat) (lo : Option Addr) (lc : Nat) (L : List Int) (own : Bool) (ln u : Int), v = .agg #[.slice ao T.length cap, .slice lo L.length lc, .bool own, .int .i64 ln, .int .i64 u] ∧ Byt W ao cap T ∧ IntsIn W (.slice lo L.length lc) L ∧ u ≤ 9223372036854775807 := by
  obtain ⟨cs, rfl, hcl⟩ := okWide_struct Tryd.underlying51 hval
  rw [cellsCase] at hcl
  obtain ⟨l⟩ := cs
  match l, hcl with
  | [c0, c1, c2, c3, c4], _ =>
    obtain ⟨fuel, hf⟩ := h
    obtain ⟨y0, y1, y2, y3, m, hx, _, hy0, hy1, hy2, hy3⟩ := Go.Joins.trod_struct4 Tryd.underlying51 hf
    simp [Value.cells, cellsBytes, cellsInts, cellsBool, cellsPos] at hy0 hy1 hy2 hy3
    obtain ⟨ao, cap, T, rfl, hB⟩ := bytes_part hy0
    obtain ⟨lo, lc, L, rfl, hI⟩ := ints_part hy1
    obtain ⟨own, e2, _⟩ := DataW.trod_bool Tryd.underlying4 hy2
    simp at e2
    subst e2
    obtain ⟨z0, z1, m', _, _, hz0, hz1⟩ := trod_struct2 Tryd.underlying49 hy3
    simp [cellsInt] at hz0 hz1
    obtain ⟨ln, e3, _, _⟩ := DataW.trod_int Tryd.underlying3 hz0
    obtain ⟨u, e4, _, hu⟩ := DataW.trod_int Tryd.underlying3 hz1
    simp at e3 e4
    subst e3 e4
    refine ⟨ao, cap, T, lo, lc, L, own, ln, u, rfl, hB, hI, ?_⟩
    simp [Lit.wf, IntKind.min, IntKind.max, IntKind.signed, IntKind.bits] at hu
    omega

end Go.Proofs.YtchpnbcagbjnnaaDoor
