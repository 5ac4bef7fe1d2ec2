/- Sums that came in as arguments. -/
import Derived.Test.YtbjolmgobeagoaaGreatDoorLnRSubst
import Derived.Test.YtbjolmgobeagoaaGreatDoorLnLight
import Derived.Test.YtbjolmgobeagoaaGreatDoorLnSame
import Derived.Test.YtbjolmgobeagoaaGreatDoorBigLaw0
import Derived.Deep.Slices
namespace Go.Proofs.YtbjolmgobeagoaaGreatDoor
set_option linter.unusedVariables false
set_option linter.unusedSimpArgs false
set_option maxRecDepth 100000
open Go Go.RowKit Go.Shelf Go.Lib Go.ChangeShapes Go.WideShapes Go.ChangeAt

theorem cellsTerm : Tryz.prog.cellsOf 27 = 3 := by kernel_rfl
theorem cellsPart : Tryz.prog.cellsOf 89 = 3 := by kernel_rfl
theorem cellsParts : Tryz.prog.cellsOf 25 = 1 := by kernel_rfl
theorem cellsInt : Tryz.prog.cellsOf 3 = 1 := by kernel_rfl

/-- A slice of limbs, of which few are known to be limbs. -/
theorem limbs_few {H : Type} {enc : TypeId × Value → H} {W : World} {fuel : Nat} {c : Value} {x : DataW H × List MemPlace}
    (hf : DataW.trod enc Tryz.prog W 0 (fun _ => true) true fuel 22 [c] = some x) : ∃ a L cap, c = .slice a L cap ∧ (L ≤ 8 → ∃ xs, Limbs W c xs ∧ xs.length = L) := by
  rcases open_ints Tryz.underlying22 Tryz.underlying141 cellsU32 hf with ⟨hcs, _⟩ | ⟨y, len0, cap0, zs, hcs, _, hl, hm, hz, hx, hcell, hwz⟩
  · simp at hcs
    subst hcs
    exact ⟨none, 0, 0, rfl, fun _ => ⟨[], Limbs.nil W, rfl⟩⟩
  · simp at hcs
    subst hcs
    refine ⟨some y, len0, cap0, rfl, fun h8 => ?_⟩
    simp only [if_true] at hz
    have hl0 : ((zs.take len0).map Int.toNat).length = len0 := by simp; omega
    have hw : ∀ n ∈ zs, 0 ≤ n ∧ n < 4294967296 := fun n hn => by
      have := hwz n hn
      simp [Lit.wf, IntKind.min, IntKind.max, IntKind.signed, IntKind.bits] at this
      omega
    refine ⟨(zs.take len0).map Int.toNat, ⟨some y, cap0, by rw [hl0], by rw [hl0]; exact hl, by omega, ?_, fun j hj => ?_⟩, hl0⟩
    · intro u hu
      obtain ⟨n, hn, rfl⟩ := List.mem_map.1 hu
      have := hw n (List.mem_of_mem_take hn)
      rw [R_eq]
      omega
    · rw [hl0] at hj
      have hc := hcell j (by omega)
      have hc0 := hcell 0 (by omega)
      obtain ⟨b, off, spot⟩ := y
      have hspot : spot = none := by simpa [Addr.add] using World.cell?_spot hc0
      subst hspot
      rw [addr_add] at hc
      refine ⟨b, off, rfl, ?_⟩
      have hjz : j < zs.length := by omega
      have hmem := hw zs[j] (List.getElem_mem hjz)
      have e1 : nth ((zs.take len0).map Int.toNat) j = (zs[j]).toNat := by
        rw [nth_eq (by simp; omega)]
        simp
      rw [e1, Int.toNat_of_nonneg hmem.1]
      simpa [List.getD, hjz] using hc
/-- A number with a sign, as a part of something. -/
theorem big_few {H : Type} {enc : TypeId × Value → H} {W : World} {fuel : Nat} {c0 c1 : Value} {x : DataW H × List MemPlace}
    (hf : DataW.trod enc Tryz.prog W 0 (fun _ => true) true fuel 24 [c0, c1] = some x) : ∃ b a L cap, c0 = .bool b ∧ c1 = .slice a L cap ∧ (L ≤ 8 → ∃ xs, Limbs W c1 xs ∧ xs.length = L) := by
  obtain ⟨y0, y1, m, hx, _, hy0, hy1⟩ := trod_struct2 Tryz.underlying24 hf
  simp [Value.cells, cellsBool, cellsSl] at hy0 hy1
  obtain ⟨b, e0, _⟩ := DataW.trod_bool Tryz.underlying4 hy0
  simp at e0
  obtain ⟨a, L, cap, e1, h⟩ := limbs_few hy1
  exact ⟨b, a, L, cap, e0, e1, h⟩
/-- What a part that came in is: its number, if it is small. -/
def PIn (W : World) (m : Pt) : Prop := Rng m.1 ∧ ∃ a L c, m.2.2.1 = .slice a L c ∧ (L ≤ 8 → ∃ xs, Limbs W m.2.2.1 xs ∧ xs.length = L ∧ m.2.2.2 = sgn m.2.1 (val R xs))
theorem part_of {H : Type} {enc : TypeId × Value → H} {W : World} {n : Nat} {b off i : Nat} {cs : List Value} {x : DataW H × List MemPlace}
    (h1 : W.cells? 0 ((⟨b, off, none⟩ : Addr).add (i * 3)) 3 = some cs) (h2 : DataW.trod enc Tryz.prog W 0 (fun _ => true) true n 89 cs = some x) :
    ∃ m : Pt, PIn W m ∧ CellsP W b (off + i * 3) m := by
  obtain ⟨_, hlen, hcell⟩ := World.cells?_some h1
  match cs, hlen with
  | [v0, v1, v2], _ =>
    obtain ⟨y0, y1, k, _, _, g0, g1⟩ := trod_struct2 Tryz.underlying89 h2
    simp [cellsInt, cellsBig] at g0 g1
    obtain ⟨z, e0, _, hz⟩ := DataW.trod_int Tryz.underlying3 g0
    simp at e0
    obtain ⟨sg0, a, L, cap, e1, e2, hlim⟩ := big_few g1
    subst e0 e1 e2
    have k0 := hcell 0 (by omega)
    have k1 := hcell 1 (by omega)
    have k2 := hcell 2 (by omega)
    rw [addr_add, addr_add] at k0 k1 k2
    have hrg : Rng z := by
      simp [Lit.wf, IntKind.min, IntKind.max, IntKind.signed, IntKind.bits] at hz
      unfold Rng
      omega
    by_cases h8 : L ≤ 8
    · obtain ⟨xs, hx, hxl⟩ := hlim h8
      exact ⟨(z, sg0, .slice a L cap, sgn sg0 (val R xs)), ⟨hrg, a, L, cap, rfl, fun _ => ⟨xs, hx, hxl, rfl⟩⟩, by simpa using k0, by simpa using k1, by simpa using k2⟩
    · exact ⟨(z, sg0, .slice a L cap, 0), ⟨hrg, a, L, cap, rfl, fun h => absurd h h8⟩, by simpa using k0, by simpa using k1, by simpa using k2⟩
theorem spot_none3 {W : World} {a : Addr} {n : Nat} {cs : List Value} (hn : 0 < n) (h : W.cells? 0 a n = some cs) : ∃ b o, a = ⟨b, o, none⟩ := by
  obtain ⟨_, hlen, hcell⟩ := World.cells?_some h
  have h0 := hcell 0 (by omega)
  rw [List.getElem?_eq_getElem (by omega)] at h0
  obtain ⟨b, o, sp⟩ := a
  have hs : sp = none := by
    have := World.cell?_spot h0
    simpa [Addr.add] using this
  subst hs
  exact ⟨b, o, rfl⟩
theorem parts_in {H : Type} {enc : TypeId × Value → H} {W : World} {fuel : Nat} {v : Value} {x : DataW H × List MemPlace}
    (hf : DataW.trod enc Tryz.prog W 0 (fun _ => true) true fuel 25 [v] = some x) : ∃ pa pl pc M, v = .slice pa pl pc ∧ RowP W (.slice pa pl pc) M ∧ ∀ m ∈ M, PIn W m := by
  rcases Go.Deep.open_slice Tryz.underlying25 hf with ⟨h0, _⟩ | ⟨a, len, cap, m, n, D, Pl, hcs, hb, hl, hm, hmm, hx, hel⟩
  · simp at h0
    subst h0
    exact ⟨none, 0, 0, [], rfl, row_nil W, fun m hm => by cases hm⟩
  · simp at hcs
    subst hcs
    simp only [if_true] at hmm
    subst hmm
    rw [cellsPart] at hel
    rcases Nat.eq_zero_or_pos len with h0 | hpos
    · subst h0
      exact ⟨some a, 0, m, [], rfl, ⟨some a, m, rfl, Nat.zero_le _, hm, fun j x hj => by simp at hj⟩, fun m hm => by cases hm⟩
    · obtain ⟨cs0, hc0, _⟩ := hel 0 (by omega)
      rw [Nat.zero_mul] at hc0
      obtain ⟨b, off, rfl⟩ : ∃ b o, a = ⟨b, o, none⟩ := by
        obtain ⟨b, o, e⟩ := spot_none3 (by omega) hc0
        obtain ⟨ab, ao, sp⟩ := a
        simp [Addr.add] at e
        exact ⟨b, o, by simp [e]⟩
      obtain ⟨f, hff⟩ := Go.Deep.choose_lt (α := Pt) (n := len) (p := fun i y => PIn W y ∧ CellsP W b (off + i * 3) y) (fun i hi => by
        obtain ⟨cs', h1, h2⟩ := hel i (by omega)
        exact part_of h1 h2)
      refine ⟨some ⟨b, off, none⟩, len, m, (List.range len).map f, rfl, ⟨some ⟨b, off, none⟩, m, by simp, by simpa using hl, hm, fun j y hj => ?_⟩, fun y hy => ?_⟩
      · simp only [List.getElem?_map, Option.map_eq_some_iff] at hj
        obtain ⟨i, hi, rfl⟩ := hj
        obtain ⟨hi1, rfl⟩ := List.getElem?_eq_some_iff.1 hi
        simp only [List.length_range] at hi1
        simp only [List.getElem_range]
        exact ⟨b, off, rfl, (hff j hi1).2⟩
      · obtain ⟨i, hi, rfl⟩ := List.mem_map.1 hy
        exact (hff i (by simpa using hi)).1
/-- A sum that came in. -/
def TermI (W : World) (v : Value) (cn : Bool) (ca : Option Addr) (cL cc : Nat) (pa : Option Addr) (pl pc : Nat) (M : List Pt) : Prop :=
  v = .agg #[.bool cn, .slice ca cL cc, .slice pa pl pc] ∧ RowP W (.slice pa pl pc) M ∧ (∀ m ∈ M, PIn W m) ∧ (cL ≤ 8 → ∃ xs, Limbs W (.slice ca cL cc) xs ∧ xs.length = cL)
theorem term_in {H : Type} {enc : TypeId × Value → H} {W : World} {base : Nat} {v : Value} {d : DataW H} {ps : List MemPlace}
    (hval : Value.okWide Tryz.prog W .any base 27 v) (h : DataW.Trod enc Tryz.prog W 0 (fun _ => true) true 27 v d ps) :
    ∃ cn ca cL cc pa pl pc M, TermI W v cn ca cL cc pa pl pc M := by
  obtain ⟨cs, rfl, hcl⟩ := okWide_struct Tryz.underlying27 hval
  rw [cellsTerm] at hcl
  obtain ⟨l⟩ := cs
  match l, hcl with
  | [c0, c1, c2], _ =>
    obtain ⟨fuel, hf⟩ := h
    obtain ⟨y0, y1, m, hx, _, hy0, hy1⟩ := trod_struct2 Tryz.underlying27 hf
    simp [Value.cells, cellsBig, cellsParts] at hy0 hy1
    obtain ⟨b, a, L, cap, e0, e1, hlim⟩ := big_few hy0
    obtain ⟨pa, pl, pc, M, e2, hr, hp⟩ := parts_in hy1
    subst e0 e1 e2
    exact ⟨b, a, L, cap, pa, pl, pc, M, rfl, hr, hp, hlim⟩

/-- A light sum that came in, for both sides. -/
structure Both (w : World) (v : Value) (cn : Bool) (ca : Option Addr) (cL cc : Nat) (pa : Option Addr) (pl pc : Nat) (M : List Pt) (c : Int) : Prop where
  term : TermA 8 w v c M
  num : ∃ xs, Limbs w (.slice ca cL cc) xs ∧ xs.length ≤ 8 ∧ c = sgn cn (val R xs)
  row : RowP w (.slice pa pl pc) M
  good : ∀ m ∈ M, Rng m.1 ∧ Lim 8 w m
  len : M.length ≤ 12
  bnd : BndT 80 (ps M)
  cb : c.natAbs < 10 ^ 80
theorem TermI.both {w : World} {v : Value} {cn : Bool} {ca : Option Addr} {cL cc : Nat} {pa : Option Addr} {pl pc : Nat} {M : List Pt} (h : TermI w v cn ca cL cc pa pl pc M) (hl : LightP M cL) : ∃ c, Both w v cn ca cL cc pa pl pc M c := by
  obtain ⟨rfl, hr, hp, hx⟩ := h
  obtain ⟨h12, h4, hm4⟩ := hl
  obtain ⟨xs, hxs, hxl⟩ := hx (by omega)
  have hlim : ∀ m ∈ M, Rng m.1 ∧ Lim 8 w m := fun m hm => by
    obtain ⟨h1, a, L, c, e, h2⟩ := hp m hm
    have h3 := hm4 m hm
    rw [e] at h3
    simp only [lenV] at h3
    obtain ⟨ys, hy, hyl, hz⟩ := h2 (by omega)
    exact ⟨h1, ys, hy, by omega, hz⟩
  have hcb : (sgn cn (val R xs)).natAbs < R ^ 8 := bl_limbs hxs.small (by omega)
  have hb : ∀ m ∈ M, m.2.2.2.natAbs < R ^ 8 := fun m hm => by
    obtain ⟨_, ys, hy, hyl, hz⟩ := hlim m hm
    rw [hz]
    exact bl_limbs hy.small hyl
  have hbp : ∀ p ∈ ps M, p.2.natAbs < R ^ 8 := fun p hp2 => by
    obtain ⟨m, hm, rfl⟩ := List.mem_map.1 hp2
    exact hb m hm
  refine ⟨sgn cn (val R xs), ⟨⟨cn, ca, cL, cc, pa, pl, pc, rfl, box_arg hxs (by omega), hcb, hr, fun m hm => ?_, hbp, .inl h12, by omega⟩, ⟨xs, hxs, by omega, rfl⟩, hr, hlim, h12, fun p hp2 => bl10 (hbp p hp2), bl10 hcb⟩⟩
  obtain ⟨h1, ys, hy, hyl, hz⟩ := hlim m hm
  refine ⟨h1, ?_⟩
  rw [hz]
  exact ⟨_, _, _, rfl, ⟨ys, hy, by omega, rfl⟩, rfl⟩
theorem TermI.sl {w : World} {v : Value} {cn : Bool} {ca : Option Addr} {cL cc : Nat} {pa : Option Addr} {pl pc : Nat} {M : List Pt} (h : TermI w v cn ca cL cc pa pl pc M) : Sl M := fun m hm => by
  obtain ⟨_, a, L, c, e, _⟩ := h.2.2.1 m hm
  exact ⟨a, L, c, e⟩
theorem TermI.light {w W : World} {v : Value} {cn : Bool} {ca : Option Addr} {cL cc : Nat} {pa : Option Addr} {pl pc : Nat} {M : List Pt} (h : TermI w v cn ca cL cc pa pl pc M) (hb : Below w.heap.size w W) :
    Calls Tryz.prog 9 #[.agg #[.bool cn, .slice ca cL cc, .slice pa pl pc]] W fun e w' => LightE W M cL e w' := light_calls (h.2.1.below hb) h.sl
theorem Both.of {w W : World} {v : Value} {cn : Bool} {ca : Option Addr} {cL cc : Nat} {pa : Option Addr} {pl pc : Nat} {M : List Pt} {c : Int} (h : Both w v cn ca cL cc pa pl pc M c) (hb : Below w.heap.size w W) :
    Calls Tryz.prog 11 #[.agg #[.bool cn, .slice ca cL cc, .slice pa pl pc]] W fun e w' => RTermE W c (fun l => l = ps M) e w' := by
  obtain ⟨xs, hx, hl, rfl⟩ := h.num
  exact gof_calls (hx.below hb) hl (h.row.below hb) (fun m hm => ⟨(h.good m hm).1, (h.good m hm).2.below hb⟩) (by have := h.len; omega)

end Go.Proofs.YtbjolmgobeagoaaGreatDoor
