/- Frame: pieces that came in; how great they are. -/
import Derived.Test.YtnflbplhokodjaaDoorFrameEndsW
import Derived.Deep.Slices
namespace Go.Proofs.YtnflbplhokodjaaDoor
set_option linter.unusedVariables false
set_option linter.unusedSimpArgs false
set_option maxRecDepth 100000
open Go Go.RowKit Go.Shelf Go.Lib Go.ChangeShapes Go.WideShapes

/-- A piece: where it lies, its room, its bytes. -/
abbrev Pc := Option Addr × Nat × List Nat
def PcsIn (W : World) (v : Value) (L : List Pc) : Prop := ∃ ao cap, v = .slice ao L.length cap ∧ ∀ j x, L[j]? = some x → Byt W x.1 x.2.1 x.2.2 ∧ ∃ b off, ao = some ⟨b, off, none⟩ ∧ W.cell? ⟨b, off + j, none⟩ = some (.slice x.1 x.2.2.length x.2.1)
theorem PcsIn.below {W W' : World} {v : Value} {L : List Pc} (h : PcsIn W v L) (hb : Below W.heap.size W W') : PcsIn W' v L := by
  obtain ⟨ao, cap, h1, h3⟩ := h
  refine ⟨ao, cap, h1, fun j s hj => ?_⟩
  obtain ⟨k, b, off, e, c⟩ := h3 j s hj
  exact ⟨k.below hb, b, off, e, (hb.cell (p := ⟨b, off + j, none⟩) (block_lt c)).trans c⟩
theorem cellsBytes : Tryd.prog.cellsOf 25 = 1 := by kernel_rfl
theorem spot_none {W : World} {a : Addr} {n : Nat} {cs : List Value} (h1 : W.cells? 0 (a.add 0) (n + 1) = some cs) : ∃ b off, a = ⟨b, off, none⟩ := by
  obtain ⟨b, off, spot⟩ := a
  obtain ⟨_, hlen, hcell⟩ := World.cells?_some h1
  have k0 := hcell 0 (by omega)
  have hs : cs[0]? = some cs[0] := List.getElem?_eq_getElem (by omega)
  rw [hs] at k0
  have hspot : spot = none := by simpa [Addr.add] using World.cell?_spot k0
  subst hspot
  exact ⟨b, off, rfl⟩
theorem bytes_part {H : Type} {enc : TypeId × Value → H} {W : World} {fuel : Nat} {v : Value} {x : DataW H × List MemPlace}
    (hf : DataW.trod enc Tryd.prog W 0 (fun _ => true) true fuel 25 [v] = some x) : ∃ ao cap T, v = .slice ao T.length cap ∧ Byt W ao cap T := by
  rcases open_ints Tryd.underlying25 Tryd.underlying5 cellsU8 hf with ⟨hcs, _⟩ | ⟨x, l, c, zs, hcs, _, hl, hm, hz, hx, hcell, hwz⟩
  · simp at hcs
    subst hcs
    exact ⟨none, 0, [], rfl, ⟨none, 0, rfl, fun x hx => by simp at hx, fun j hj => by simp at hj⟩, Nat.le_refl _, fun _ => rfl⟩
  · simp at hcs
    subst hcs
    simp only [if_true] at hz
    have hl0 : ((zs.take l).map Int.toNat).length = l := by simp; omega
    have hw : ∀ n ∈ zs, 0 ≤ n ∧ n < 256 := fun n hn => by
      have := hwz n hn
      simp [Lit.wf, IntKind.min, IntKind.max, IntKind.signed, IntKind.bits] at this
      omega
    refine ⟨some x, c, (zs.take l).map Int.toNat, by rw [hl0], ⟨some x, c, by rw [hl0], ?_, fun j hj => ?_⟩, by rw [hl0]; exact hl, fun e => by cases e⟩
    · intro y hy
      obtain ⟨n, hn, rfl⟩ := List.mem_map.1 hy
      have := hw n (List.mem_of_mem_take hn)
      omega
    · rw [hl0] at hj
      have hc := hcell j (by omega)
      have hc0 := hcell 0 (by omega)
      obtain ⟨b, off, spot⟩ := x
      have hspot : spot = none := by simpa [Addr.add] using World.cell?_spot hc0
      subst hspot
      rw [addr_plus] at hc
      refine ⟨b, off, rfl, ?_⟩
      have hjz : j < zs.length := by omega
      have hmem := hw zs[j] (List.getElem_mem hjz)
      have e1 : nth ((zs.take l).map Int.toNat) j = (zs[j]).toNat := by
        unfold nth
        rw [List.getElem?_eq_getElem (by simp; omega)]
        simp
      rw [e1, Int.toNat_of_nonneg hmem.1]
      simpa [List.getD, hjz] using hc
theorem pc_of {H : Type} {enc : TypeId × Value → H} {W : World} {n : Nat} {b off i : Nat} {cs : List Value} {x : DataW H × List MemPlace}
    (h1 : W.cells? 0 ((⟨b, off, none⟩ : Addr).add (i * 1)) 1 = some cs) (h2 : DataW.trod enc Tryd.prog W 0 (fun _ => true) true n 25 cs = some x) :
    ∃ y : Pc, Byt W y.1 y.2.1 y.2.2 ∧ W.cell? ⟨b, off + i, none⟩ = some (.slice y.1 y.2.2.length y.2.1) := by
  obtain ⟨_, hlen, hcell⟩ := World.cells?_some h1
  match cs, hlen with
  | [v0], _ =>
    obtain ⟨ao, cap, T, rfl, hB⟩ := bytes_part h2
    have k0 := hcell 0 (by omega)
    rw [addr_plus, addr_plus] at k0
    exact ⟨(ao, cap, T), hB, by simpa using k0⟩
theorem pcs_in {H : Type} {enc : TypeId × Value → H} {W : World} {base : Nat} {v : Value} {d : DataW H} {ps : List MemPlace}
    (hval : Value.okWide Tryd.prog W .any base 22 v) (h : DataW.Trod enc Tryd.prog W 0 (fun _ => true) true 22 v d ps) : ∃ ao cap L, v = .slice ao L.length cap ∧ PcsIn W (.slice ao L.length cap) L := by
  obtain ⟨a0, len0, cap0, rfl⟩ := okWide_slice Tryd.underlying22 hval
  obtain ⟨fuel, hf'⟩ := h
  have hf : DataW.trod enc Tryd.prog W 0 (fun _ => true) true fuel 22 [.slice a0 len0 cap0] = some (d, ps) := by simpa [Value.cells] using hf'
  rcases Go.Deep.open_slice Tryd.underlying22 hf with ⟨h0, _⟩ | ⟨a, len, cap, m, n, D, Pl, hcs, hb, hl, hm, hmm, hx, hel⟩
  · simp at h0
    obtain ⟨rfl, rfl, rfl⟩ := h0
    exact ⟨none, 0, [], rfl, none, 0, rfl, fun j x hj => by simp at hj⟩
  · simp at hcs
    obtain ⟨rfl, rfl, rfl⟩ := hcs
    simp only [if_true] at hmm
    subst hmm
    rw [cellsBytes] at hel
    rcases Nat.eq_zero_or_pos len0 with h0 | hpos
    · subst h0
      exact ⟨some a, _, [], rfl, some a, _, rfl, fun j x hj => by simp at hj⟩
    · obtain ⟨cs0, hc0, _⟩ := hel 0 (by omega)
      rw [Nat.zero_mul] at hc0
      obtain ⟨b, off, rfl⟩ := spot_none hc0
      obtain ⟨f, hff⟩ := Go.Deep.choose_lt (α := Pc) (n := len0) (p := fun i y => Byt W y.1 y.2.1 y.2.2 ∧ W.cell? ⟨b, off + i, none⟩ = some (.slice y.1 y.2.2.length y.2.1)) (fun i hi => by
        obtain ⟨cs', h1, h2⟩ := hel i (by omega)
        exact pc_of h1 h2)
      refine ⟨some ⟨b, off, none⟩, m, (List.range len0).map f, by simp, _, _, rfl, fun j y hj => ?_⟩
      simp only [List.getElem?_map, Option.map_eq_some_iff] at hj
      obtain ⟨i, hi, rfl⟩ := hj
      obtain ⟨hi1, rfl⟩ := List.getElem?_eq_some_iff.1 hi
      simp only [List.length_range] at hi1
      simp only [List.getElem_range]
      exact ⟨(hff j hi1).1, b, off, rfl, (hff j hi1).2⟩

/-- How many bytes pieces have, all together. -/
def sumP (L : List Pc) : Nat := (L.map (fun x => x.2.2.length)).sum
theorem sumP_snoc (L : List Pc) (x : Pc) : sumP (L ++ [x]) = sumP L + x.2.2.length := by simp [sumP]
theorem takeP {L : List Pc} {k : Nat} {x : Pc} (h : L[k]? = some x) : L.take (k + 1) = L.take k ++ [x] := by rw [List.take_add_one, h]; rfl
def Small (L : List Pc) : Prop := L.length ≤ 200 ∧ (∀ x ∈ L, x.2.2.length ≤ 6000) ∧ sumP L ≤ 20000

set_option maxHeartbeats 4000000 in
theorem light_calls (w : World) (ao : Option Addr) (cap : Nat) (L : List Pc) (h : PcsIn w (.slice ao L.length cap) L) :
    Calls Tryd.prog 9 #[.slice ao L.length cap] w fun e w' => (e = .returned (.bool false) ∨ (Small L ∧ e = .returned (.bool true))) ∧ w' = w := by
  obtain ⟨ao', cap', e', hc⟩ := h
  cases e'
  have HC := hide hc
  clear hc
  generalize hLn : L.length = Ln at *
  have HLN := hide hLn
  clear hLn
  by_cases h200 : 200 < Ln
  · have d1 : (200 : Int) < (Ln : Int) := by omega
    go_enter Tryd.func9, Tryd.ntmps9
    go_wp2
    go_ret
    exact ⟨.inl rfl, rfl⟩
  · have d1 : ¬ (200 : Int) < (Ln : Int) := by omega
    have hLb : Ln ≤ 200 := by omega
    clear h200
    go_enter Tryd.func9, Tryd.ntmps9
    go_wp2
    go_loopw [3, 4] (fun sv iv wr => ∃ (k s : Nat), k ≤ Ln ∧ iv = .int .i64 (k : Int) ∧ sv = .int .i64 (s : Int) ∧ s = sumP (L.take k) ∧ s ≤ 20000 ∧ (∀ x ∈ L.take k, x.2.2.length ≤ 6000) ∧ wr = w) (fun _ iv _ => Ln - (RowKit.intOf iv).toNat)
    case atStart => exact ⟨0, 0, Nat.zero_le _, rfl, rfl, rfl, Nat.zero_le _, fun x hx => by simp at hx, rfl⟩
    case round =>
      obtain ⟨k, s, hk, rfl, rfl, hs, hsb, hall, hwr⟩ := hrel
      rw [hwr]
      clear hwr
      have HS := hide hs
      have HALL := hide hall
      clear hs hall
      by_cases hlt : k < Ln
      · obtain ⟨x, hx⟩ : ∃ x, L[k]? = some x := ⟨_, List.getElem?_eq_getElem (by rw [HLN.out]; exact hlt)⟩
        obtain ⟨_, b, off, rfl, hcell⟩ := HC.out k x hx
        have HTK := hide (takeP hx)
        have e1 : (k : Int) < (Ln : Int) := by omega
        have e0 : (0 : Int) ≤ (k : Int) := by omega
        have HLT := hide hlt
        obtain ⟨xa, xc, xT⟩ := x
        dsimp only at hcell
        generalize hxl : xT.length = xl at *
        have HXL := hide hxl
        clear hx hxl hlt
        by_cases h6 : 6000 < xl
        · have e2 : (6000 : Int) < (xl : Int) := by omega
          go_wp2
          go_ret
          exact ⟨.inl rfl, rfl⟩
        · have e2 : ¬ (6000 : Int) < (xl : Int) := by omega
          have hx6 : xl ≤ 6000 := by omega
          obtain ⟨s2, hs2⟩ : ∃ s2, s + xl = s2 := ⟨_, rfl⟩
          have e3 : (s : Int) + (xl : Int) = (s2 : Int) := by omega
          have hs2b : s2 ≤ 26000 := by omega
          have HS2 : Hid (s2 = sumP (L.take (k + 1))) := by
            show _ = _
            rw [HTK.out, sumP_snoc, ← HS.out, ← hs2]
            show _ = s + xT.length
            rw [HXL.out]
          clear hs2 h6
          by_cases h20 : 20000 < s2
          · have e4 : (20000 : Int) < (s2 : Int) := by omega
            go_wp2
            go_ret
            exact ⟨.inl rfl, rfl⟩
          · have e4 : ¬ (20000 : Int) < (s2 : Int) := by omega
            have HS3 : Hid (s2 ≤ 20000) := show s2 ≤ 20000 by omega
            clear h20
            go_wp2
            go_roundw
            case rel =>
              refine ⟨k + 1, s2, HLT.out, by go_num, rfl, HS2.out, HS3.out, ?_, by first | rfl | trivial⟩
              intro y hy
              rw [HTK.out] at hy
              rcases List.mem_append.1 hy with q | q
              · exact HALL.out y q
              · simp at q; subst q; show xT.length ≤ 6000; rw [HXL.out]; exact hx6
            case measure => have := HLT.out; simp [RowKit.intOf]; omega
      · obtain rfl : k = Ln := by omega
        have e1 : ¬ (k : Int) < (k : Int) := by omega
        have HE : Hid (Small L) := by
          have ht : L.take k = L := by rw [← HLN.out]; exact List.take_length
          refine ⟨by rw [HLN.out]; exact hLb, ?_, ?_⟩
          · have := HALL.out; rw [ht] at this; exact this
          · have := HS.out; rw [ht] at this; omega
        clear hlt
        go_wp2
        go_ret
        exact ⟨.inr ⟨HE.out, rfl⟩, rfl⟩

end Go.Proofs.YtnflbplhokodjaaDoor
