/- Sums (layer 11), text 3: LnRVars, LnRNorm, LnRSmall, LnRScale, LnRWithout, LnRSubst, LnLight, LnSame, LnLaw, LnMap, LnBack, LnIsC, LnRangeE, LnEval, LnBind. -/
import Derived.Test.YtkdhcpfmlelfcaaGreatDoorLnP2
import Derived.Test.YtkdhcpfmlelfcaaGreatDoorLnP1
import Derived.Deep.Slices
import Derived.Maps.Keyed
namespace Go.Proofs.YtkdhcpfmlelfcaaGreatDoor
set_option linter.unusedVariables false
set_option linter.unusedSimpArgs false
set_option maxRecDepth 100000
open Go Go.RowKit Go.Shelf Go.Lib

theorem infoI : (Tryz.prog.info? 3).map (fun i => (i.zero, i.size, i.bytes)) = some (some (.int .i64 0), 1, 8) := by kernel_rfl
def icell (L : List Int) : List Value := L.map fun x => .int .i64 x
theorem getD_at {L : List Int} {j : Nat} (h : j < L.length) : L.getD j 0 = L[j] := by simp [List.getD, h]
/-- A row of whole numbers. -/
def IRow (W : World) (v : Value) (L : List Int) : Prop := ∃ ao cap, v = .slice ao L.length cap ∧ L.length ≤ cap ∧ ∀ j, j < L.length → ∃ b o, ao = some ⟨b, o, none⟩ ∧ W.cell? ⟨b, o + j, none⟩ = some (.int .i64 (L.getD j 0))
theorem IRow.below {W W' : World} {v : Value} {L : List Int} (h : IRow W v L) (hb : Below W.heap.size W W') : IRow W' v L := by
  obtain ⟨ao, cap, e, h1, h3⟩ := h
  refine ⟨ao, cap, e, h1, fun j hj => ?_⟩
  obtain ⟨b, o, e2, hc⟩ := h3 j hj
  exact ⟨b, o, e2, (hb.cell (p := ⟨b, o + j, none⟩) (block_lt_of_cell hc)).trans hc⟩
theorem icell_length (L : List Int) : (icell L).length = L.length := by simp [icell]
theorem icell_append (A B : List Int) : icell (A ++ B) = icell A ++ icell B := by simp [icell]
theorem icell_get {L : List Int} {j : Nat} (h : j < L.length) : (icell L)[j]? = some (.int .i64 (L.getD j 0)) := by
  unfold icell
  rw [List.getElem?_map, List.getElem?_eq_getElem h]
  simp [h]
/-- Such a row of one's own. -/
def OwnV (n : Nat) (W : World) (v : Value) (L : List Int) : Prop := W.ownsRow n 3 1 v L.length (icell L)
theorem OwnV.row {n : Nat} {W : World} {v : Value} {L : List Int} (h : OwnV n W v L) : IRow W v L := by
  rcases h.2 with ⟨hv, hn⟩ | ⟨g, cap, cur, hv, hg, hh, hc1, hc2, hc3⟩
  · refine ⟨none, 0, by rw [hv, hn], by omega, fun j hj => by omega⟩
  · subst hv
    refine ⟨some ⟨g, 0, none⟩, cap, rfl, hc1, fun j hj => ⟨g, 0, rfl, ?_⟩⟩
    rw [Nat.zero_add]
    exact (h.cellAt j (by simpa using hj)).trans (icell_get hj)
theorem OwnV.nil (n : Nat) (W : World) : OwnV n W (.slice none 0 0) [] := World.ownsRow_nil _ _ _ _
/-- Appending numbers to such a row. -/
theorem run_appI (w : World) (n : Nat) (ty : TypeId) (v : Value) (L : List Int) (ho : OwnV n w v L) (xv : Value) (A : List Int) (hA : IRow w xv A) (hl : L.length + A.length ≤ 1048576) (hn : n ≤ w.heap.size) :
    ∃ v' w', (Builtin.append_ #[30, 30] ty #[v, xv]).run Tryz.prog w = .ok v' w' ∧ OwnV n w' v' (L ++ A) ∧ Below n w w' := by
  obtain ⟨i0, hi, hz0, hz1, hz2⟩ := info_parts infoI
  obtain ⟨ao, cap, rfl, h1, h3⟩ := hA
  cases ao with
  | none =>
    have hd0 : A = [] := by
      cases A with
      | nil => rfl
      | cons y r => obtain ⟨b, off, e, _⟩ := h3 0 (by simp); cases e
    subst hd0
    refine ⟨v, w, ?_, by rw [List.append_nil]; exact ho, Below.refl _ _⟩
    rcases ho.2 with ⟨rfl, h0⟩ | ⟨g, cp, cur, rfl, _, _, hnc, _⟩
    · simp [Builtin.append_, run_underlying Tryz.underlying30, sizeOf, typeInfo, hi, Builtin.lenOf, Builtin.firstCells]
    · simp [Builtin.append_, run_underlying Tryz.underlying30, sizeOf, typeInfo, hi, Builtin.lenOf, Builtin.firstCells, hnc, storeCells]
  | some ad =>
    have hq : ∀ (j : Nat) (u : Value), (icell A)[j]? = some u → w.cell? (ad.add j) = some u := by
      intro j u hj
      have hjl : j < A.length := by rw [← icell_length]; exact (List.getElem?_eq_some_iff.1 hj).1
      obtain ⟨b, off, e, hc⟩ := h3 j hjl
      cases e
      rw [icell_get hjl] at hj
      cases hj
      rw [addr_add]
      exact hc
    obtain ⟨v', w', hr, ho', hg, _⟩ := run_append_own (P := Tryz.prog) w n 30 ty 3 i0 (.int .i64 0) 1 8 Tryz.underlying30 hi hz0 hz1 hz2 rfl (by decide) v L.length (icell L) ho ad A.length cap (icell A) (by rw [icell_length, Nat.mul_one]) hq (fun u hu => by
      obtain ⟨x, _, rfl⟩ := List.mem_map.1 hu
      rfl) (by unfold maxLen; omega) (by omega) hn
    exact ⟨v', w', hr, by unfold OwnV; rw [List.length_append, icell_append]; exact ho', (Below.refl n w).grown hg hn (fun k hk => (World.ownsRow.lt ho k hk).1)⟩
theorem IRow.front {W : World} {co : Option Addr} {n cc : Nat} {L : List Int} (h : IRow W (.slice co n cc) L) {k : Nat} (hk : k ≤ L.length) : IRow W (.slice co k cc) (L.take k) ∧ ∀ W' : World, (Instr.slice 30 (.slice co n cc) none (some (.int .i64 (k : Int))) none).run Tryz.prog W' = .ok (.slice co k cc) W' := by
  obtain ⟨ao, cap, e, h1, h3⟩ := h
  simp only [Value.slice.injEq] at e
  obtain ⟨rfl, rfl, rfl⟩ := e
  refine ⟨⟨_, _, by rw [List.length_take, Nat.min_eq_left hk], by rw [List.length_take]; omega, fun j hj => ?_⟩, fun W' => ?_⟩
  · rw [List.length_take] at hj
    obtain ⟨b, o, e2, hc⟩ := h3 j (by omega)
    refine ⟨b, o, e2, ?_⟩
    rw [hc]
    simp [List.getD, List.getElem?_take, show j < k by omega]
  · have h4 := run_slice_h (P := Tryz.prog) (w := W') 30 co L.length cc (by kernel_rfl) .i64 (k : Int) (by omega) (by omega)
    rw [h4]
    go_simp
theorem IRow.rest {W : World} {co : Option Addr} {n cc : Nat} {L : List Int} (h : IRow W (.slice co n cc) L) {k : Nat} (hk : k ≤ L.length) : ∃ aG, IRow W (.slice aG (n - k) (cc - k)) (L.drop k) ∧ ∀ W' : World, (Instr.slice 30 (.slice co n cc) (some (.int .i64 (k : Int))) none none).run Tryz.prog W' = .ok (.slice aG (n - k) (cc - k)) W' := by
  obtain ⟨ao, cap, e, h1, h3⟩ := h
  simp only [Value.slice.injEq] at e
  obtain ⟨rfl, rfl, rfl⟩ := e
  refine ⟨if cc = k then co else co.map (·.add k), ⟨_, _, by rw [List.length_drop], by rw [List.length_drop]; omega, fun j hj => ?_⟩, fun W' => ?_⟩
  · rw [List.length_drop] at hj
    obtain ⟨b, o, rfl, hc⟩ := h3 (k + j) (by omega)
    refine ⟨b, o + k, by rw [if_neg (by omega)]; simp [Addr.add], ?_⟩
    rw [show o + k + j = o + (k + j) by omega, hc]
    simp [List.getD, List.getElem?_drop]
  · have h4 := run_slice_l (P := Tryz.prog) (w := W') 30 co L.length cc (by kernel_rfl) .i64 (k : Int) (by omega) (by omega)
    rw [h4]
    go_simp
theorem irow_lit (W : World) (x : Int) : IRow (W.alloc (.cells #[.int .i64 x] 3)) (.slice (some ⟨W.heap.size, 0, none⟩) 1 1) [x] := by
  refine ⟨some ⟨W.heap.size, 0, none⟩, 1, rfl, Nat.le_refl _, fun j hj => ?_⟩
  obtain rfl : j = 0 := by simp at hj; omega
  exact ⟨_, _, rfl, World.cell?_alloc_mark W _ _ (0, 0) 0⟩

/-- The variables of the first parts, rising, each once. -/
structure VarsOf (M : List Pt) (i : Nat) (L : List Int) : Prop where
  rise : L.Pairwise (· < ·)
  mem : ∀ x, x ∈ L ↔ ∃ m ∈ M.take i, m.1 = x
  len : L.length ≤ i
theorem varsOf_zero (M : List Pt) : VarsOf M 0 [] := ⟨List.Pairwise.nil, fun x => by simp, Nat.le_refl _⟩
theorem take_mem {M : List Pt} {i : Nat} {m : Pt} (h : M[i]? = some m) (x : Int) : (∃ q ∈ M.take (i + 1), q.1 = x) ↔ (∃ q ∈ M.take i, q.1 = x) ∨ m.1 = x := by
  rw [List.take_add_one, h]
  constructor
  · rintro ⟨q, hq, e⟩
    rcases List.mem_append.1 hq with hq | hq
    · exact .inl ⟨q, hq, e⟩
    · simp at hq
      subst hq
      exact .inr e
  · rintro (⟨q, hq, e⟩ | e)
    · exact ⟨q, List.mem_append.2 (.inl hq), e⟩
    · exact ⟨m, by simp, e⟩
theorem VarsOf.skip {M : List Pt} {i : Nat} {m : Pt} {L : List Int} (h : VarsOf M i L) (hm : M[i]? = some m) (hx : m.1 ∈ L) : VarsOf M (i + 1) L :=
  ⟨h.rise, fun x => by
    rw [take_mem hm, ← h.mem]
    exact ⟨.inl, fun e => e.elim id (fun e => e ▸ hx)⟩, Nat.le_succ_of_le h.len⟩
theorem VarsOf.put {M : List Pt} {i at_ : Nat} {m : Pt} {L : List Int} (h : VarsOf M i L) (hm : M[i]? = some m) (hat : at_ ≤ L.length) (hlo : ∀ j, j < at_ → L.getD j 0 < m.1) (hhi : at_ < L.length → m.1 < L.getD at_ 0) : VarsOf M (i + 1) (L.take at_ ++ [m.1] ++ L.drop at_) := by
  have hl : ∀ x ∈ L.take at_, x < m.1 := fun x hx => by
    obtain ⟨j, hj, rfl⟩ := List.getElem_of_mem hx
    rw [List.length_take] at hj
    have := hlo j (by omega)
    rw [List.getElem_take]
    rw [getD_at (by omega)] at this
    exact this
  have hr := h.rise
  rw [← List.take_append_drop at_ L] at hr
  have hp := List.pairwise_append.1 hr
  have hg : ∀ x ∈ L.drop at_, m.1 < x := fun x hx => by
    by_cases hlt : at_ < L.length
    · have h1 := hhi hlt
      rw [getD_at hlt] at h1
      have e : L.drop at_ = L[at_] :: L.drop (at_ + 1) := List.drop_eq_getElem_cons hlt
      rw [e] at hx hp
      rcases List.mem_cons.1 hx with rfl | hx
      · exact h1
      · have := (List.pairwise_cons.1 hp.2.1).1 x hx
        omega
    · rw [List.drop_eq_nil_of_le (by omega)] at hx
      cases hx
  refine ⟨?_, fun x => ?_, ?_⟩
  · refine List.pairwise_append.2 ⟨List.pairwise_append.2 ⟨hp.1, by simp, fun a ha b hb => ?_⟩, hp.2.1, fun a ha b hb => ?_⟩
    · simp at hb
      subst hb
      exact hl a ha
    · rcases List.mem_append.1 ha with ha | ha
      · exact hp.2.2 a ha b hb
      · simp at ha
        subst ha
        exact hg b hb
  · rw [take_mem hm, ← h.mem]
    have hx : x ∈ L ↔ x ∈ L.take at_ ∨ x ∈ L.drop at_ := by
      conv => lhs; rw [← List.take_append_drop at_ L]
      exact List.mem_append
    rw [hx]
    simp only [List.mem_append, List.mem_singleton]
    constructor
    · rintro ((h1 | h1) | h1)
      · exact .inl (.inl h1)
      · exact .inr h1.symm
      · exact .inl (.inr h1)
    · rintro ((h1 | h1) | h1)
      · exact .inl (.inl h1)
      · exact .inr h1
      · exact .inl (.inr h1.symm)
  · have := h.len
    simp
    omega
/-- Where a variable is put: what was looked at from the end. -/
def Seek (L : List Int) (x : Int) (kk at_ : Nat) : Prop := kk ≤ L.length ∧ kk ≤ at_ ∧ at_ ≤ L.length ∧ (at_ < L.length → x ≤ L.getD at_ 0) ∧ ∀ j, kk ≤ j → j < at_ → L.getD j 0 < x
def RVarsE (w : World) (M : List Pt) (e : Ending) (w' : World) : Prop := ∃ v L, e = .returned v ∧ IRow w' v L ∧ VarsOf M M.length L ∧ Below w.heap.size w w'

def INS (L : List Int) (x : Int) (at_ : Nat) : List Int := L.take at_ ++ [x] ++ L.drop at_
theorem seek_none {L : List Int} {x : Int} {kk at_ : Nat} (h : Seek L x (kk + 1) at_) (hx : L.getD kk 0 < x) : Seek L x kk at_ :=
  ⟨by have := h.1; omega, by have := h.2.1; omega, h.2.2.1, h.2.2.2.1, fun j h1 h2 => by
    by_cases e : j = kk
    · subst e
      exact hx
    · exact h.2.2.2.2 j (by omega) h2⟩
theorem seek_here {L : List Int} {x : Int} {kk at_ : Nat} (h : Seek L x (kk + 1) at_) (hx : x ≤ L.getD kk 0) : Seek L x kk kk :=
  ⟨by have := h.1; omega, Nat.le_refl _, by have := h.1; omega, fun _ => hx, fun j h1 h2 => by omega⟩

set_option maxHeartbeats 8000000 in
theorem rvars_calls {w : World} {v : Value} {c : Int} {M : List Pt} (h : RTerm w v c M) (hl : M.length ≤ 100) :
    Calls Tryz.prog 52 #[v] w fun e w' => RVarsE w M e w' := by
  obtain ⟨cn, ca, cL, cc, pa, pl, pc, rfl, h1, hr, hg⟩ := h
  obtain ⟨_, _, e, _, _, h3⟩ := hr
  simp only [Value.slice.injEq] at e
  obtain ⟨rfl, rfl, rfl⟩ := e
  generalize hLn : M.length = Ln at *
  have HLN := hide hLn
  have H3 := hide h3
  have HG := hide hg
  have tb := Thr.new w (.bool cn) (.slice ca cL cc) (.slice pa Ln pc) 35
  have hba := bel w (.cells #[.bool cn, .slice ca cL cc, .slice pa Ln pc] 35)
  generalize hwA : w.alloc (.cells #[.bool cn, .slice ca cL cc, .slice pa Ln pc] 35) = wA at *
  have HWA := hide hwA
  have TB := hide tb
  have HBA := hide hba
  clear hwA hba h1 h3 hg hLn tb
  go_enter Tryz.func52, Tryz.ntmps52
  go_upto_region 2 with fail
  rw [HWA.out]
  go_wp2
  go_loopw [3, 4] (fun ov iv wr => ∃ (i : Nat) (L : List Int) (oa : Option Addr) (oc : Nat), i ≤ Ln ∧ iv = .int .i64 (i : Int) ∧ ov = .slice oa L.length oc ∧ IRow wr (.slice oa L.length oc) L ∧ VarsOf M i L ∧ Thr wr w.heap.size (.bool cn) (.slice ca cL cc) (.slice pa Ln pc) 35 ∧ Below w.heap.size w wr) (fun _ iv _ => Ln - (RowKit.intOf iv).toNat)
  case atStart => exact ⟨0, [], _, _, Nat.zero_le _, rfl, rfl, ⟨none, 0, rfl, Nat.le_refl _, fun j hj => (by simp at hj)⟩, varsOf_zero M, TB.out, HBA.out⟩
  case round =>
    obtain ⟨i, L, oa, oc, hi, rfl, rfl, hrow, hvo, htb, hbw⟩ := hrel
    generalize wr = wo at *
    clear wr
    obtain ⟨t0, t1, t2, _, _, _⟩ := htb.every
    have HTB := hide htb
    have HROW := hide hrow
    have HVO := hide hvo
    have HBW := hide hbw
    have hll : L.length ≤ 100 := by have := hvo.len; omega
    clear htb hrow hvo hbw
    by_cases hlt : i < Ln
    · obtain ⟨⟨vr, neg, mv, z⟩, hm⟩ : ∃ m, M[i]? = some m := ⟨_, List.getElem?_eq_getElem (by rw [HLN.out]; exact hlt)⟩
      obtain ⟨b, o, rfl, hc⟩ := H3.out i _ hm
      have c0 := (hc.below HBW.out).1
      dsimp only at c0
      have d1 : (i : Int) < (Ln : Int) := by omega
      have d0 : (0 : Int) ≤ (i : Int) := by omega
      have HM := hide hm
      generalize hLL : L.length = Lk at *
      have HLL := hide hLL
      clear hm hc hLL
      go_wp2
      clear t0 t1 t2 c0
      go_loopw [6, 7] (fun av kv wi => ∃ (kk at_ : Nat) (kv' : Int), av = .int .i64 (at_ : Int) ∧ kv = .int .i64 kv' ∧ kv' = (kk : Int) - 1 ∧ Seek L vr kk at_ ∧ wi = wo) (fun _ kv _ => (RowKit.intOf kv + 1).toNat)
      case atStart =>
        refine ⟨Lk, Lk, _, rfl, rfl, ?_, ⟨by rw [HLL.out]; omega, Nat.le_refl _, by rw [HLL.out]; omega, fun h => by rw [HLL.out] at h; omega, fun j h1 h2 => by omega⟩, rfl⟩
        simp [IntKind.wrap, IntKind.signed, IntKind.bits] <;> omega
      case round =>
        obtain ⟨kk, at_, kv', rfl, rfl, hkv, hsk, hwi⟩ := hrel
        have hwi' := hwi.symm
        subst hwi'
        clear hwi
        have HSK := hide hsk
        have hsk1 : kk ≤ Lk := by have := hsk.1; rw [HLL.out] at this; exact this
        have hsk2 : at_ ≤ Lk := by have := hsk.2.2.1; rw [HLL.out] at this; exact this
        clear hsk
        by_cases hk0 : kk = 0
        · subst hk0
          obtain rfl : kv' = -1 := by omega
          clear hkv
          obtain ⟨_, _, e, _, hcells⟩ := HROW.out
          simp only [Value.slice.injEq] at e
          obtain ⟨rfl, eL, rfl⟩ := e
          clear eL
          by_cases hat : at_ < Lk
          · obtain ⟨ob, oo, rfl, hcx⟩ := hcells at_ (by rw [HLL.out]; exact hat)
            generalize hX : L.getD at_ 0 = X at *
            have HX := hide hX
            have a2 : (at_ : Int) < (Lk : Int) := by omega
            by_cases hq : X = vr
            · subst hq
              have HMEM : Hid (X ∈ L) := by
                show X ∈ L
                rw [← HX.out, getD_at (by rw [HLL.out]; exact hat)]
                exact List.getElem_mem _
              have a0 : (0 : Int) ≤ (at_ : Int) := by omega
              clear hcells hX
              go_wp2
              go_roundw
              case rel =>
                have e9 := HLL.out
                subst e9
                exact ⟨i + 1, L, _, _, by omega, by go_num, rfl, HROW.out, HVO.out.skip HM.out HMEM.out, HTB.out, HBW.out⟩
              case measure => simp [RowKit.intOf]; omega
            · have qe : (X == vr) = false := beq_eq_false_iff_ne.2 hq
              have HNX : Hid (at_ < L.length → vr < L.getD at_ 0) := fun h9 => by
                have h8 := HSK.out.2.2.2.1 h9
                have h7 := HX.out
                show vr < _
                omega
              clear hX hq
              have n1 : ¬ (0 : Int) ≤ -1 := by omega
              have a0 : (0 : Int) ≤ (at_ : Int) := by omega
              obtain ⟨hfr, hcf⟩ := HROW.out.front (k := at_) (by rw [HLL.out]; omega)
              obtain ⟨aG, hrs, hcr⟩ := HROW.out.rest (k := at_) (by rw [HLL.out]; omega)
              obtain ⟨v1, w1, hrun1, ho1, hb1⟩ := run_appI wo wo.heap.size 30 _ [] (OwnV.nil _ _) _ (L.take at_) hfr (by simp only [List.length_nil, List.length_take]; omega) (Nat.le_refl _)
              have hbl := bel w1 (.cells #[.int .i64 vr] 3)
              have hb2 : Below wo.heap.size wo (w1.alloc (.cells #[.int .i64 vr] 3)) := hb1.trans (hbl.mono hb1.size)
              have hlit := irow_lit w1 vr
              have ho2 : OwnV wo.heap.size (w1.alloc (.cells #[.int .i64 vr] 3)) v1 ([] ++ L.take at_) := ho1.alloc _
              obtain ⟨v3, w3, hrun3, ho3, hb3⟩ := run_appI (w1.alloc (.cells #[.int .i64 vr] 3)) wo.heap.size 30 _ _ ho2 _ [vr] hlit (by simp only [List.nil_append, List.length_take, List.length_cons, List.length_nil]; omega) hb2.size
              obtain ⟨v4, w4, hrun4, ho4, hb4⟩ := run_appI w3 wo.heap.size 30 _ _ ho3 _ (L.drop at_) (hrs.below (hb2.trans hb3)) (by have h9 := HLL.out; simp only [List.nil_append, List.length_append, List.length_take, List.length_drop, List.length_cons, List.length_nil]; omega) (hb2.trans hb3).size
              obtain ⟨a1, l1, k1', rfl⟩ : ∃ a l k, v1 = .slice a l k := by
                obtain ⟨ao, cap, e, _⟩ := ho1.row
                exact ⟨_, _, _, e⟩
              obtain ⟨a3, l3, k3', rfl⟩ : ∃ a l k, v3 = .slice a l k := by
                obtain ⟨ao, cap, e, _⟩ := ho3.row
                exact ⟨_, _, _, e⟩
              have HR4 : Hid (IRow w4 v4 (INS L vr at_)) := by
                have h9 := ho4.row
                rw [List.nil_append] at h9
                exact h9
              obtain ⟨a4, k4', hv4⟩ : ∃ a k, v4 = .slice a (INS L vr at_).length k := by
                obtain ⟨ao, cap, e, _⟩ := HR4.out
                exact ⟨_, _, e⟩
              subst hv4
              have HB4 := hide ((hb2.trans hb3).trans hb4)
              clear hfr hrs ho1 hb1 hbl hb2 hlit ho2 ho3 hb3 ho4 hb4
              generalize hil : (INS L vr at_).length = il at *
              have HIL := hide hil
              clear hil
              clear hcells
              go_wp2_with (at_builtin; go_must (first | (refine Lib.wpList_append_run _ rfl _ _ _ _ rfl _ _ rfl rfl _ _ hrun1 ?_; clear hrun1) | (refine Lib.wpList_append_run _ rfl _ _ _ _ rfl _ _ rfl rfl _ _ hrun3 ?_; clear hrun3) | (refine Lib.wpList_append_run _ rfl _ _ _ _ rfl _ _ rfl rfl _ _ hrun4 ?_; clear hrun4)))
              go_roundw
              case rel =>
                have e9 := HIL.out
                subst e9
                refine ⟨i + 1, INS L vr at_, _, _, by omega, by go_num, rfl, HR4.out, HVO.out.put HM.out (by rw [HLL.out]; omega) (fun j hj => HSK.out.2.2.2.2 j (Nat.zero_le _) hj) HNX.out, HTB.out.keep HB4.out, HBW.out.trans (HB4.out.mono HBW.out.size)⟩
              case measure => simp [RowKit.intOf]; omega
          · have a2 : ¬ (at_ : Int) < (Lk : Int) := by omega
            have HNX : Hid (at_ < L.length → vr < L.getD at_ 0) := fun h9 => by
              rw [HLL.out] at h9
              exact absurd h9 hat
            clear hat
            have n1 : ¬ (0 : Int) ≤ -1 := by omega
            have a0 : (0 : Int) ≤ (at_ : Int) := by omega
            obtain ⟨hfr, hcf⟩ := HROW.out.front (k := at_) (by rw [HLL.out]; omega)
            obtain ⟨aG, hrs, hcr⟩ := HROW.out.rest (k := at_) (by rw [HLL.out]; omega)
            obtain ⟨v1, w1, hrun1, ho1, hb1⟩ := run_appI wo wo.heap.size 30 _ [] (OwnV.nil _ _) _ (L.take at_) hfr (by simp only [List.length_nil, List.length_take]; omega) (Nat.le_refl _)
            have hbl := bel w1 (.cells #[.int .i64 vr] 3)
            have hb2 : Below wo.heap.size wo (w1.alloc (.cells #[.int .i64 vr] 3)) := hb1.trans (hbl.mono hb1.size)
            have hlit := irow_lit w1 vr
            have ho2 : OwnV wo.heap.size (w1.alloc (.cells #[.int .i64 vr] 3)) v1 ([] ++ L.take at_) := ho1.alloc _
            obtain ⟨v3, w3, hrun3, ho3, hb3⟩ := run_appI (w1.alloc (.cells #[.int .i64 vr] 3)) wo.heap.size 30 _ _ ho2 _ [vr] hlit (by simp only [List.nil_append, List.length_take, List.length_cons, List.length_nil]; omega) hb2.size
            obtain ⟨v4, w4, hrun4, ho4, hb4⟩ := run_appI w3 wo.heap.size 30 _ _ ho3 _ (L.drop at_) (hrs.below (hb2.trans hb3)) (by have h9 := HLL.out; simp only [List.nil_append, List.length_append, List.length_take, List.length_drop, List.length_cons, List.length_nil]; omega) (hb2.trans hb3).size
            obtain ⟨a1, l1, k1', rfl⟩ : ∃ a l k, v1 = .slice a l k := by
              obtain ⟨ao, cap, e, _⟩ := ho1.row
              exact ⟨_, _, _, e⟩
            obtain ⟨a3, l3, k3', rfl⟩ : ∃ a l k, v3 = .slice a l k := by
              obtain ⟨ao, cap, e, _⟩ := ho3.row
              exact ⟨_, _, _, e⟩
            have HR4 : Hid (IRow w4 v4 (INS L vr at_)) := by
              have h9 := ho4.row
              rw [List.nil_append] at h9
              exact h9
            obtain ⟨a4, k4', hv4⟩ : ∃ a k, v4 = .slice a (INS L vr at_).length k := by
              obtain ⟨ao, cap, e, _⟩ := HR4.out
              exact ⟨_, _, e⟩
            subst hv4
            have HB4 := hide ((hb2.trans hb3).trans hb4)
            clear hfr hrs ho1 hb1 hbl hb2 hlit ho2 ho3 hb3 ho4 hb4
            generalize hil : (INS L vr at_).length = il at *
            have HIL := hide hil
            clear hil
            clear hcells
            go_wp2_with (at_builtin; go_must (first | (refine Lib.wpList_append_run _ rfl _ _ _ _ rfl _ _ rfl rfl _ _ hrun1 ?_; clear hrun1) | (refine Lib.wpList_append_run _ rfl _ _ _ _ rfl _ _ rfl rfl _ _ hrun3 ?_; clear hrun3) | (refine Lib.wpList_append_run _ rfl _ _ _ _ rfl _ _ rfl rfl _ _ hrun4 ?_; clear hrun4)))
            go_roundw
            case rel =>
              have e9 := HIL.out
              subst e9
              refine ⟨i + 1, INS L vr at_, _, _, by omega, by go_num, rfl, HR4.out, HVO.out.put HM.out (by rw [HLL.out]; omega) (fun j hj => HSK.out.2.2.2.2 j (Nat.zero_le _) hj) HNX.out, HTB.out.keep HB4.out, HBW.out.trans (HB4.out.mono HBW.out.size)⟩
            case measure => simp [RowKit.intOf]; omega
        · obtain ⟨k1, rfl⟩ : ∃ k1, kk = k1 + 1 := ⟨kk - 1, by omega⟩
          obtain rfl : kv' = (k1 : Int) := by omega
          clear hkv hk0
          obtain ⟨_, _, e, _, hcells⟩ := HROW.out
          simp only [Value.slice.injEq] at e
          obtain ⟨rfl, eL, rfl⟩ := e
          clear eL
          obtain ⟨ob, oo, rfl, hcx⟩ := hcells k1 (by rw [HLL.out]; omega)
          generalize hX : L.getD k1 0 = X at *
          have HX := hide hX
          have k0 : (0 : Int) ≤ (k1 : Int) := by omega
          have k2 : (k1 : Int) < (Lk : Int) := by omega
          have hw1 : IntKind.i64.wrap ((k1 : Int) - 1) = (k1 : Int) - 1 := by
            simp [IntKind.wrap, IntKind.signed, IntKind.bits]
            omega
          clear hcells hX
          by_cases hge : vr ≤ X
          · have HGE := hide hge
            go_wp2
            go_roundw
            case rel => exact ⟨k1, k1, _, rfl, (by first | rfl | rw [hw1]), rfl, seek_here HSK.out (by rw [HX.out]; exact HGE.out), (by first | rfl | trivial)⟩
            case measure => (simp [RowKit.intOf, hw1] <;> omega)
          · have HGE := hide hge
            go_wp2
            go_roundw
            case rel => exact ⟨k1, at_, _, rfl, (by first | rfl | rw [hw1]), rfl, seek_none HSK.out (by have := HGE.out; rw [HX.out]; omega), (by first | rfl | trivial)⟩
            case measure => (simp [RowKit.intOf, hw1] <;> omega)
    · obtain rfl : i = Ln := by omega
      have d1 : ¬ (i : Int) < (i : Int) := by omega
      generalize hLL : L.length = Lk at *
      have HLL := hide hLL
      clear hLL
      go_wp2
      go_ret
      have h1 := HVO.out
      rw [← HLN.out] at h1
      exact ⟨_, L, rfl, HROW.out, h1, HBW.out⟩

end Go.Proofs.YtkdhcpfmlelfcaaGreatDoor

namespace Go.Proofs.YtkdhcpfmlelfcaaGreatDoor
set_option linter.unusedVariables false
set_option linter.unusedSimpArgs false
set_option maxRecDepth 100000
open Go Go.RowKit Go.Shelf Go.Lib

/-- The one form, by the variables. -/
def nfOf (l : Ps) (L : List Int) : Ps := (L.map fun x => (x, cf x l)).filter fun p => decide (p.2 ≠ 0)
theorem nfOf_append (l : Ps) (A B : List Int) : nfOf l (A ++ B) = nfOf l A ++ nfOf l B := by simp [nfOf]
theorem nfOf_one (l : Ps) (x : Int) : nfOf l [x] = if cf x l = 0 then [] else [(x, cf x l)] := by
  unfold nfOf
  by_cases h : cf x l = 0 <;> simp [h]
theorem nfOf_nf {l : Ps} {L : List Int} (h : L.Pairwise (· < ·)) : NF (nfOf l L) :=
  ⟨by
    unfold nfOf
    refine List.Pairwise.filter _ ?_
    rw [List.pairwise_map]
    exact h, fun p hp => by simpa using (List.mem_filter.1 hp).2⟩
theorem nfOf_cf {M : List Pt} {L : List Int} (h : VarsOf M M.length L) (u : Int) : cf u (nfOf (ps M) L) = cf u (ps M) := by
  unfold nfOf
  rw [cf_nonzero]
  by_cases hu : u ∈ L
  · have H : ∀ (A : List Int), A.Pairwise (· < ·) → u ∈ A → cf u (A.map fun x => (x, cf x (ps M))) = cf u (ps M) := by
      intro A
      induction A with
      | nil => intro _ h; cases h
      | cons a A ih =>
        intro hp hm
        have hq := List.pairwise_cons.1 hp
        rw [List.map_cons, cf_cons]
        by_cases e : a = u
        · subst e
          have hz : cf a (A.map fun x => (x, cf x (ps M))) = 0 := cf_none (fun q hq2 => by
            obtain ⟨x, hx, rfl⟩ := List.mem_map.1 hq2
            have := hq.1 x hx
            show x ≠ a
            omega)
          rw [if_pos rfl, hz]
          show cf a (ps M) + 0 = _
          omega
        · rw [if_neg e, ih hq.2 ((List.mem_cons.1 hm).resolve_left (fun h => e h.symm))]
          omega
    exact H L h.rise hu
  · rw [cf_none (fun q hq => by
      obtain ⟨x, hx, rfl⟩ := List.mem_map.1 hq
      intro e
      exact hu (e ▸ hx)), cf_none (fun q hq => by
      obtain ⟨m, hm, rfl⟩ := List.mem_map.1 hq
      intro e
      exact hu ((h.mem u).2 ⟨m, by rw [List.take_length]; exact hm, e⟩))]
theorem varsOf_rng {M : List Pt} {W : World} {L : List Int} (h : VarsOf M M.length L) (hg : GoodN W M) {x : Int} (hx : x ∈ L) : Rng x := by
  obtain ⟨m, hm, rfl⟩ := (h.mem x).1 hx
  rw [List.take_length] at hm
  exact (hg m hm).1

def FrL (n : Nat) (X : List Pt) : Prop := ∀ m ∈ X, Fr n (.agg #[.bool m.2.1, m.2.2.1])
theorem FrL.add {n : Nat} {X : List Pt} (h : FrL n X) {m : Pt} (hm : Fr n (.agg #[.bool m.2.1, m.2.2.1])) : FrL n (X ++ [m]) := fun k hk => by
  rcases List.mem_append.1 hk with h1 | h1
  · exact h k h1
  · simp at h1
    subst h1
    exact hm
def RNormF (w : World) (c : Int) (f : Ps → Prop) (e : Ending) (w' : World) : Prop := ∃ v M, e = .returned v ∧ RTerm w' v c M ∧ f (ps M) ∧ FrL w.heap.size M ∧ Below w.heap.size w w'

set_option maxHeartbeats 8000000 in
theorem rnormTF_calls {K : Nat} {w : World} {v : Value} {c : Int} {M : List Pt} (h : RTerm w v c M) (hc : c.natAbs < 10 ^ K) (hb : BndT K (ps M)) (hl : M.length ≤ 100) (hK : K ≤ 700) :
    Calls Tryz.prog 13 #[v] w fun e w' => RNormF w c (fun l => NF l ∧ ∀ u, cf u l = cf u (ps M)) e w' := by
  obtain ⟨cn, ca, cL, cc, pa, pl, pc, rfl⟩ := h.form
  have hnum : NRes w (.agg #[.bool cn, .slice ca cL cc]) c := by
    obtain ⟨_, _, _, _, _, _, _, e, h1, _⟩ := h
    cases e
    exact h1
  have hgn : GoodN w M := by
    obtain ⟨_, _, _, _, _, _, _, e, _, _, h1⟩ := h
    exact h1
  have tb := (Thr.new w (.bool cn) (.slice ca cL cc) (.slice pa pl pc) 35).alloc (.cells #[.bool false, .slice none 0 0, .slice none 0 0] 35)
  have tz := Thr.new1 w (.cells #[.bool cn, .slice ca cL cc, .slice pa pl pc] 35) (.bool false) (.slice none 0 0) (.slice none 0 0) 35
  have hba : Below w.heap.size w ((w.alloc (.cells #[.bool cn, .slice ca cL cc, .slice pa pl pc] 35)).alloc (.cells #[.bool false, .slice none 0 0, .slice none 0 0] 35)) := (bel _ _).trans ((bel _ _).mono (by simp))
  have hno := rnorm_calls ((hnum.below hba).arg hc) (by omega)
  generalize hwA : (w.alloc (.cells #[.bool cn, .slice ca cL cc, .slice pa pl pc] 35)).alloc (.cells #[.bool false, .slice none 0 0, .slice none 0 0] 35) = wA at *
  have HWA := hide hwA
  have TB := hide tb
  have TZ := hide tz
  have HBA := hide hba
  have HT := hide h
  have HGN := hide hgn
  have HBD := hide hb
  obtain ⟨c0, c1, c2, _, _, _⟩ := tb.every
  clear hwA tb tz hba h hnum hgn hb hc
  go_enter Tryz.func13, Tryz.ntmps13
  go_upto_region 1 with fail
  rw [HWA.out]
  go_wp2_with fail
  refine hno.mono ?_
  rintro e w1 ⟨v1, rfl, hr1, hb1⟩
  obtain ⟨nb, na, nL, nc, rfl⟩ := hr1.form
  have hbx := bel w1 (.cells #[.bool nb, .slice na nL nc, .slice none 0 0] 35)
  have hb1x := bafter (bafter HBA.out hb1 (Nat.le_refl _)) hbx (Nat.le_refl _)
  have hva := rvars_calls (HT.out.below hb1x) hl
  have tb2 := (TB.out.keep hb1).keep hbx
  have T3 := hide (Thr.new w1 (.bool nb) (.slice na nL nc) (.slice none 0 0) 35)
  have HR1 := hide (hr1.below hbx)
  have TZ1 := hide ((TZ.out.keep hb1).keep hbx)
  have TB1 := hide tb2
  obtain ⟨x0, x1, x2, _, _, _⟩ := tb2.every
  have HN1 : Hid (w.heap.size + 2 ≤ w1.heap.size) := by
    have h1 := TZ.out.lt
    have h2 := hb1.size
    show _ ≤ _
    omega
  generalize hw1x : w1.alloc (.cells #[.bool nb, .slice na nL nc, .slice none 0 0] 35) = wx at *
  have HWX := hide hw1x
  have HB1 := hide hb1x
  clear hno hr1 hb1 hbx hb1x tb2 c0 c1 c2 hw1x
  go_upto_region 2 with fail
  rw [HWX.out]
  go_wp2_with fail
  refine hva.mono ?_
  rintro e w2 ⟨lv, L, rfl, hrow, hvo, hb2⟩
  obtain ⟨la, lk, hlv⟩ : ∃ a k, lv = .slice a L.length k := by
    obtain ⟨ao, cap, e, _⟩ := hrow
    exact ⟨_, _, e⟩
  subst hlv
  have hll : L.length ≤ 100 := by have := hvo.len; omega
  have HROW := hide hrow
  have HVO := hide hvo
  have HB2 := hide (bafter HB1.out hb2 (Nat.le_refl _))
  have HT2 := hide (HT.out.below HB2.out)
  have HFX : Hid (∀ b, b ≠ w1.heap.size → b < w2.heap.size → w2.heap[b]? = w2.heap[b]?) := fun _ _ _ => rfl
  have HTB2 := hide (TB1.out.keep hb2)
  have HTZ2 := hide (TZ1.out.keep hb2)
  have HST : Hid (RJ w1.heap.size w2.heap.size (fun W => ∀ b, b ≠ w1.heap.size → b < w2.heap.size → W.heap[b]? = w2.heap[b]?) c nb na nL nc w2 [] none 0) :=
    ⟨T3.out.keep hb2, HR1.out.below hb2, OwnQ.nil _ _, fun m hm => (by cases hm), HFX.out⟩
  have HNI : Hid (NoInt w2 w1.heap.size) := (T3.out.keep hb2).noInt
  have HSZ2 : Hid (w1.heap.size < w2.heap.size) := (T3.out.keep hb2).lt
  generalize hLk : L.length = Lk at *
  have HLK := hide hLk
  clear hva hrow hvo hb2 x0 x1 x2 hLk
  go_wp2
  go_loopw [5] (fun iv wr => ∃ (i : Nat) (X : List Pt) (oa : Option Addr) (oc : Nat), i ≤ Lk ∧ iv = .int .i64 (i : Int) ∧ RJ w1.heap.size w2.heap.size (fun W => ∀ b, b ≠ w1.heap.size → b < w2.heap.size → W.heap[b]? = w2.heap[b]?) c nb na nL nc wr X oa oc ∧ ps X = nfOf (ps M) (L.take i) ∧ FrL w.heap.size X ∧ w2.heap.size ≤ wr.heap.size ∧ Below w.heap.size w wr) (fun iv _ => Lk - (RowKit.intOf iv).toNat)
  case atStart => exact ⟨0, [], _, _, Nat.zero_le _, rfl, HST.out, by simp [ps, nfOf], (fun m hm => by cases hm), Nat.le_refl _, HB2.out⟩
  case round =>
    obtain ⟨i, X, oa, oc, hi, rfl, hj, hps, hfl, hsz, hbw⟩ := hrel
    have HFL := hide hfl
    clear hfl
    have HJ := hide hj
    have HPS := hide hps
    have HBW := hide hbw
    have HSZ := hide hsz
    have HTBr : Hid (Thr wr w.heap.size (.bool cn) (.slice ca cL cc) (.slice pa pl pc) 35) := (hj.oth _ (by have := HN1.out; omega) (by have := HN1.out; have := HSZ2.out; omega)).trans HTB2.out
    have HTZr : Hid (Thr wr (w.heap.size + 1) (.bool false) (.slice none 0 0) (.slice none 0 0) 35) := (hj.oth _ (by have := HN1.out; omega) (by have := HN1.out; have := HSZ2.out; omega)).trans HTZ2.out
    clear hj hps hbw hsz
    by_cases hlt : i < Lk
    · obtain ⟨_, _, e, _, hcells⟩ := HROW.out
      simp only [Value.slice.injEq] at e
      obtain ⟨rfl, eL, rfl⟩ := e
      clear eL
      obtain ⟨lb, lo, rfl, hcx⟩ := hcells i (by rw [HLK.out]; exact hlt)
      have HXM : Hid (L.getD i 0 ∈ L) := by
        show _ ∈ L
        rw [getD_at (by rw [HLK.out]; exact hlt)]
        exact List.getElem_mem _
      have HTK : Hid (L.take (i + 1) = L.take i ++ [L.getD i 0]) := by
        show _ = _
        rw [List.take_add_one, List.getElem?_eq_getElem (by rw [HLK.out]; exact hlt), getD_at (by rw [HLK.out]; exact hlt)]
        rfl
      generalize L.getD i 0 = x at *
      have hlb : lb < w2.heap.size := block_lt_of_cell hcx
      have hlne : lb ≠ w1.heap.size := HNI.out.off (a := ⟨lb, lo + i, none⟩) hcx
      have HLB := hide hlb
      have HLNE := hide hlne
      have HCX : Hid (wr.cell? ⟨lb, lo + i, none⟩ = some (.int .i64 x)) := (World.cell?_of_block (a := ⟨lb, lo + i, none⟩) (HJ.out.oth lb hlne hlb)).trans hcx
      have HRGX := hide (varsOf_rng HVO.out HGN.out HXM.out)
      have d1 : (i : Int) < (Lk : Int) := by omega
      have d0 : (0 : Int) ≤ (i : Int) := by omega
      have HCO := hide (fun (W : World) (h : Below wr.heap.size wr W) => rcoefF_calls (HT.out.below (bafter HBW.out h (Nat.le_refl _))) x HBD.out hl hK)
      have hzb : (cf x (ps M)).natAbs < 10 ^ (K + 100) := ten_up (cf_boundT HBD.out x) (by rw [ps_length]; omega)
      have HZB := hide hzb
      generalize hcv : cf x (ps M) = cv at *
      have HCV := hide hcv
      clear hcells hcx hlb hlne hzb hcv
      have HS : Hid (∀ Y : World, Below wr.heap.size wr Y → Y.cell? ⟨w.heap.size, 0, none⟩ = some (.bool cn) ∧ Y.cell? ⟨w.heap.size, 1, none⟩ = some (.slice ca cL cc) ∧ Y.cell? ⟨w.heap.size, 2, none⟩ = some (.slice pa pl pc) ∧ Y.cell? ⟨lb, lo + i, none⟩ = some (.int .i64 x)) := fun Y hY => ⟨(HTBr.out.keep hY).c0, (HTBr.out.keep hY).c1, (HTBr.out.keep hY).c2, (hY.cell (p := ⟨lb, lo + i, none⟩) (block_lt_of_cell HCX.out)).trans HCX.out⟩
      go_upto_region 6 with fail
      refine wp_region_held_drew (S := fun Y : World => Y.cell? ⟨w.heap.size, 0, none⟩ = some (.bool cn) ∧ Y.cell? ⟨w.heap.size, 1, none⟩ = some (.slice ca cL cc) ∧ Y.cell? ⟨w.heap.size, 2, none⟩ = some (.slice pa pl pc) ∧ Y.cell? ⟨lb, lo + i, none⟩ = some (.int .i64 x)) (by kernel_rfl) ?_ (fun hHeld => ?_)
      · exact HS.out _ (by (first | exact (Below.refl _ _).drew | exact Below.refl _ _))
      refine takeD (i := 0) (v := ?v1) (some 19) rfl (by kernel_rfl) (by kernel_rfl) (by kernel_rfl) (fun _ _ _ h => h) (Or.inl ⟨by rfl, ?hy1⟩) (by assumption) (by rfl) ?rest1
      case hy1 => first | (intro w hSw; (try dsimp only at hSw); obtain ⟨q0, q1, q2, q3⟩ := hSw; go_simp; done) | (intro w hSw; (try dsimp only at hSw); obtain ⟨q0, q1, q2, q3⟩ := hSw; go_simp; with_reducible rfl)
      try simp only [Act.put, List.setIfInBounds_toArray, List.set_cons_zero, List.set_cons_succ]
      refine takeD (i := 1) (v := ?v2) (some 20) rfl (by kernel_rfl) (by kernel_rfl) (by kernel_rfl) (fun _ _ _ h => h) (Or.inl ⟨by rfl, ?hy2⟩) (by assumption) (by rfl) ?rest2
      case hy2 => first | (intro w hSw; (try dsimp only at hSw); obtain ⟨q0, q1, q2, q3⟩ := hSw; go_simp; done) | (intro w hSw; (try dsimp only at hSw); obtain ⟨q0, q1, q2, q3⟩ := hSw; go_simp; with_reducible rfl)
      try simp only [Act.put, List.setIfInBounds_toArray, List.set_cons_zero, List.set_cons_succ]
      refine takeD (i := 2) (v := ?v3) (some 21) rfl (by kernel_rfl) (by kernel_rfl) (by kernel_rfl) (fun _ _ _ h => h) (Or.inl ⟨by rfl, ?hy3⟩) (by assumption) (by rfl) ?rest3
      case hy3 => first | (intro w hSw; (try dsimp only at hSw); obtain ⟨q0, q1, q2, q3⟩ := hSw; go_simp; done) | (intro w hSw; (try dsimp only at hSw); obtain ⟨q0, q1, q2, q3⟩ := hSw; go_simp; with_reducible rfl)
      try simp only [Act.put, List.setIfInBounds_toArray, List.set_cons_zero, List.set_cons_succ]
      refine takeD (i := 3) (v := ?v4) (some 22) rfl (by kernel_rfl) (by kernel_rfl) (by kernel_rfl) (fun _ _ _ h => h) (Or.inl ⟨by rfl, ?hy4⟩) (by assumption) (by rfl) ?rest4
      case hy4 => first | (intro w hSw; (try dsimp only at hSw); obtain ⟨q0, q1, q2, q3⟩ := hSw; go_simp; done) | (intro w hSw; (try dsimp only at hSw); obtain ⟨q0, q1, q2, q3⟩ := hSw; go_simp; with_reducible rfl)
      try simp only [Act.put, List.setIfInBounds_toArray, List.set_cons_zero, List.set_cons_succ]
      refine takeD (i := 4) (v := ?v5) (some 23) rfl (by kernel_rfl) (by kernel_rfl) (by kernel_rfl) (fun _ _ _ h => h) (Or.inl ⟨by rfl, ?hy5⟩) (by assumption) (by rfl) ?rest5
      case hy5 => first | (intro w hSw; (try dsimp only at hSw); obtain ⟨q0, q1, q2, q3⟩ := hSw; go_simp; done) | (intro w hSw; (try dsimp only at hSw); obtain ⟨q0, q1, q2, q3⟩ := hSw; go_simp; with_reducible rfl)
      try simp only [Act.put, List.setIfInBounds_toArray, List.set_cons_zero, List.set_cons_succ]
      refine wpAnyH_ready (rs := [5, 6]) (by kernel_rfl) (by simp) ?_
      refine AllReadyH.cons rfl (fun K hK => ?_) (AllReadyH.cons rfl (fun K hK => ?_) AllReadyH.nil)
      · go_simp
        refine (HCO.out _ (by (first | exact (Below.refl _ _).drew | exact Below.refl _ _))).mono ?_
        rintro e w4 ⟨v4, rfl, hr4, hf4, hb4⟩
        obtain ⟨rb, ra, rL, rc, rfl⟩ := hr4.form
        have HF4 := hide (hf4.mono (Nat.le_trans HBW.out.size (Below.size (B := wr.heap.size) (w := wr) (by (first | exact (Below.refl _ _).drew | exact Below.refl _ _)))))
        clear hf4
        have HB4 : Hid (Below wr.heap.size wr w4) := bafter (by (first | exact (Below.refl _ _).drew | exact Below.refl _ _)) hb4 (Nat.le_refl _)
        have HR4 := hide hr4
        clear hr4 hb4 hHeld
        go_wp2_with fail
        refine hK.out _ _ (HS.out _ HB4.out) (fun hHeld => ?_)
        clear hK K
        try simp only [Act.put, List.setIfInBounds_toArray, List.set_cons_zero, List.set_cons_succ]
        refine wpAnyH_ready (rs := [6]) (by kernel_rfl) (by simp) ?_
        refine AllReadyH.cons rfl (fun K hK => ?_) AllReadyH.nil
        go_simp
        have HB5 := hide (bafter HB4.out (bel w4 (.cells #[.bool false, .slice none 0 0] 32)) (Nat.le_refl _))
        refine hK.out _ _ (HS.out _ HB5.out) (fun hHeld => ?_)
        clear hK K
        try simp only [Act.put, List.setIfInBounds_toArray, List.set_cons_zero, List.set_cons_succ]
        refine wpAnyH_ready (rs := [7]) (by kernel_rfl) (by simp) ?_
        refine AllReadyH.cons rfl (fun K hK => ?_) AllReadyH.nil
        go_simp
        have hbz := bel w4 (.cells #[.bool rb, .slice ra rL rc] 32)
        have HBZ := hide (bafter HB4.out hbz (Nat.le_refl _))
        have HRZ := hide (HR4.out.below hbz)
        have HZ := hide (Two.new w4 (.bool rb) (.slice ra rL rc) 32)
        generalize hwz : w4.alloc (.cells #[.bool rb, .slice ra rL rc] 32) = wz at *
        generalize hpb : w4.heap.size = pb at *
        clear hbz hwz hpb HB5
        refine hK.out _ _ (HS.out _ HBZ.out) (fun hHeld => ?_)
        clear hK K hHeld
        try simp only [Act.put, List.setIfInBounds_toArray, List.set_cons_zero, List.set_cons_succ]
        refine wpAnyH_done (by kernel_rfl) ?_ _
        have HSZZ : Hid (w2.heap.size ≤ wz.heap.size) := Nat.le_trans HSZ.out HBZ.out.size
        obtain ⟨n0, n1, _, _, _, _⟩ := HZ.out.every
        have hsg := rsign_calls (HRZ.out.arg HZB.out) (by omega)
        by_cases hcv0 : cv = 0
        · have hs0 : sg cv = 0 := by rw [hcv0]; rfl
          rw [hs0] at hsg
          clear hs0
          go_wp2_with fail
          refine hsg.mono ?_
          rintro e w7 ⟨rfl, hb7⟩
          have HB7 := hide (bafter HBZ.out hb7 (Nat.le_refl _))
          have HC0 := hide hcv0
          clear hsg hb7 n0 n1 hcv0
          go_wp2
          go_roundw
          case rel =>
            refine ⟨i + 1, X, _, _, by omega, by go_num, HJ.out.below HB7.out (fun b hb1 hb2 => (HB7.out.block b (by have := HSZ.out; omega)).trans (HJ.out.oth b hb1 hb2)), ?_, HFL.out, Nat.le_trans HSZ.out HB7.out.size, bafter HBW.out HB7.out (Nat.le_refl _)⟩
            rw [HTK.out, nfOf_append, nfOf_one, HCV.out, if_pos HC0.out, List.append_nil]
            exact HPS.out
          case measure => simp [RowKit.intOf]; omega
        · have hs0 : (sg cv == 0) = false := sg_not0 hcv0
          have hs1 : (sg cv != 0) = true := by rw [bne, hs0]; rfl
          generalize sg cv = sv at *
          go_wp2_with fail
          refine hsg.mono ?_
          rintro e w7 ⟨rfl, hb7⟩
          have HB7 := hide (bafter HBZ.out hb7 (Nat.le_refl _))
          have HC0 := hide hcv0
          have HZ7 := hide (HZ.out.keep hb7)
          have HR7 := hide (HRZ.out.below hb7)
          have HJ7 := hide (HJ.out.below HB7.out (fun b hb1 hb2 => (HB7.out.block b (by have := HSZ.out; omega)).trans (HJ.out.oth b hb1 hb2)))
          have HBW7 := hide (bafter HBW.out HB7.out (Nat.le_refl _))
          have HSZ7 : Hid (w2.heap.size ≤ w7.heap.size) := Nat.le_trans HSZ.out HB7.out.size
          have HS8 : Hid (∀ Y : World, Below w7.heap.size w7 Y → Y.cell? ⟨lb, lo + i, none⟩ = some (.int .i64 x) ∧ Y.cell? ⟨pb, 0, none⟩ = some (.bool rb) ∧ Y.cell? ⟨pb, 1, none⟩ = some (.slice ra rL rc)) := fun Y hY => by
            have h9 := (hY.cell (p := ⟨lb, lo + i, none⟩) (by have := HLB.out; have := HSZ7.out; show lb < _; omega)).trans ((HB7.out.cell (p := ⟨lb, lo + i, none⟩) (block_lt_of_cell HCX.out)).trans HCX.out)
            exact ⟨h9, (HZ7.out.keep hY).c0, (HZ7.out.keep hY).c1⟩
          clear hsg hb7 n0 n1 hcv0
          go_upto_region 8 with fail
          refine wp_region_held_drew (S := fun Y : World => Y.cell? ⟨lb, lo + i, none⟩ = some (.int .i64 x) ∧ Y.cell? ⟨pb, 0, none⟩ = some (.bool rb) ∧ Y.cell? ⟨pb, 1, none⟩ = some (.slice ra rL rc)) (by kernel_rfl) ?_ (fun hHeld => ?_)
          · exact HS8.out _ (by (first | exact (Below.refl _ _).drew | exact Below.refl _ _))
          refine takeD (i := 0) (v := ?v501) (some 28) rfl (by kernel_rfl) (by kernel_rfl) (by kernel_rfl) (fun _ _ _ h => h) (Or.inl ⟨by rfl, ?hy501⟩) (by assumption) (by rfl) ?rest501
          case hy501 => first | (intro w hSw; (try dsimp only at hSw); obtain ⟨q0, q1, q2⟩ := hSw; go_simp; done) | (intro w hSw; (try dsimp only at hSw); obtain ⟨q0, q1, q2⟩ := hSw; go_simp; with_reducible rfl)
          try simp only [Act.put, List.setIfInBounds_toArray, List.set_cons_zero, List.set_cons_succ]
          refine takeD (i := 2) (v := ?v502) (some 30) rfl (by kernel_rfl) (by kernel_rfl) (by kernel_rfl) (fun _ _ _ h => h) (Or.inl ⟨by rfl, ?hy502⟩) (by assumption) (by rfl) ?rest502
          case hy502 => first | (intro w hSw; (try dsimp only at hSw); obtain ⟨q0, q1, q2⟩ := hSw; go_simp; done) | (intro w hSw; (try dsimp only at hSw); obtain ⟨q0, q1, q2⟩ := hSw; go_simp; with_reducible rfl)
          try simp only [Act.put, List.setIfInBounds_toArray, List.set_cons_zero, List.set_cons_succ]
          refine takeD (i := 3) (v := ?v503) (some 31) rfl (by kernel_rfl) (by kernel_rfl) (by kernel_rfl) (fun _ _ _ h => h) (Or.inl ⟨by rfl, ?hy503⟩) (by assumption) (by rfl) ?rest503
          case hy503 => first | (intro w hSw; (try dsimp only at hSw); obtain ⟨q0, q1, q2⟩ := hSw; go_simp; done) | (intro w hSw; (try dsimp only at hSw); obtain ⟨q0, q1, q2⟩ := hSw; go_simp; with_reducible rfl)
          try simp only [Act.put, List.setIfInBounds_toArray, List.set_cons_zero, List.set_cons_succ]
          refine takeD (i := 4) (v := ?v504) (some 32) rfl (by kernel_rfl) (by kernel_rfl) (by kernel_rfl) (fun _ _ _ h => h) (Or.inl ⟨by rfl, ?hy504⟩) (by assumption) (by rfl) ?rest504
          case hy504 => first | (intro w hSw; (try dsimp only at hSw); obtain ⟨q0, q1, q2⟩ := hSw; go_simp; done) | (intro w hSw; (try dsimp only at hSw); obtain ⟨q0, q1, q2⟩ := hSw; go_simp; with_reducible rfl)
          try simp only [Act.put, List.setIfInBounds_toArray, List.set_cons_zero, List.set_cons_succ]
          refine takeD (i := 5) (v := ?v505) (some 33) rfl (by kernel_rfl) (by kernel_rfl) (by kernel_rfl) (fun _ _ _ h => h) (Or.inl ⟨by rfl, ?hy505⟩) (by assumption) (by rfl) ?rest505
          case hy505 => first | (intro w hSw; (try dsimp only at hSw); obtain ⟨q0, q1, q2⟩ := hSw; go_simp; done) | (intro w hSw; (try dsimp only at hSw); obtain ⟨q0, q1, q2⟩ := hSw; go_simp; with_reducible rfl)
          try simp only [Act.put, List.setIfInBounds_toArray, List.set_cons_zero, List.set_cons_succ]
          refine takeD (i := 6) (v := ?v506) (some 34) rfl (by kernel_rfl) (by kernel_rfl) (by kernel_rfl) (fun _ _ _ h => h) (Or.inl ⟨by rfl, ?hy506⟩) (by assumption) (by rfl) ?rest506
          case hy506 => first | (intro w hSw; (try dsimp only at hSw); obtain ⟨q0, q1, q2⟩ := hSw; go_simp; done) | (intro w hSw; (try dsimp only at hSw); obtain ⟨q0, q1, q2⟩ := hSw; go_simp; with_reducible rfl)
          try simp only [Act.put, List.setIfInBounds_toArray, List.set_cons_zero, List.set_cons_succ]
          refine takeD (i := 7) (v := ?v507) (some 35) rfl (by kernel_rfl) (by kernel_rfl) (by kernel_rfl) (fun _ _ _ h => h) (Or.inl ⟨by rfl, ?hy507⟩) (by assumption) (by rfl) ?rest507
          case hy507 => first | (intro w hSw; (try dsimp only at hSw); obtain ⟨q0, q1, q2⟩ := hSw; go_simp; done) | (intro w hSw; (try dsimp only at hSw); obtain ⟨q0, q1, q2⟩ := hSw; go_simp; with_reducible rfl)
          try simp only [Act.put, List.setIfInBounds_toArray, List.set_cons_zero, List.set_cons_succ]
          refine wpAnyH_ready (rs := [1, 8]) (by kernel_rfl) (by simp) ?_
          refine AllReadyH.cons rfl (fun K hK => ?_) (AllReadyH.cons rfl (fun K hK => ?_) AllReadyH.nil)
          · have u0 := (HJ7.out.box.keep ((Below.refl _ w7).drew)).c2
            go_simp
            refine hK.out _ _ (HS8.out _ ((Below.refl _ _).drew)) (fun hHeld => ?_)
            clear hK K
            try simp only [Act.put, List.setIfInBounds_toArray, List.set_cons_zero, List.set_cons_succ]
            clear u0
            refine wpAnyH_ready (rs := [8]) (by kernel_rfl) (by simp) ?_
            refine AllReadyH.cons rfl (fun K hK => ?_) AllReadyH.nil
            go_simp
            have hbl := bel w7 (.cells #[.int .i64 x, .bool rb, .slice ra rL rc] 74)
            have HB5 : Hid (Below w7.heap.size w7 ((w7.alloc (.cells #[.int .i64 x, .bool rb, .slice ra rL rc] 74)).drew)) := hbl.drew
            have HRL := hide ((row_litQ w7 x rb (.slice ra rL rc) cv).below ((Below.refl _ _).drew))
            clear hbl
            generalize hw5 : (w7.alloc (.cells #[.int .i64 x, .bool rb, .slice ra rL rc] 74)).drew = w5 at *
            clear hw5
            refine hK.out _ _ (HS8.out _ HB5.out) (fun hHeld => ?_)
            clear hK K hHeld
            try simp only [Act.put, List.setIfInBounds_toArray, List.set_cons_zero, List.set_cons_succ]
            obtain ⟨v6, w6, hrun6, ho6, hg6, ha6, hk6⟩ := run_appQ w5 w2.heap.size 33 _ X (HJ7.out.own.below HB5.out) _ [((x, rb, .slice ra rL rc, cv) : Pt)] HRL.out (fun m hm => by simp at hm; subst hm; rfl) (by have h1 := congrArg List.length HPS.out; have h2 := List.length_filter_le (fun p : Int × Int => decide (p.2 ≠ 0)) ((L.take i).map fun x => (x, cf x (ps M))); have h3 := HLK.out; simp only [ps_length, nfOf] at h1; simp only [List.length_map, List.length_take] at h2; simp only [List.length_cons, List.length_nil]; omega) (Nat.le_trans HSZ7.out HB5.out.size)
            obtain ⟨oa6, oc6, rfl, _, _⟩ := ho6.len
            have hown : ∀ b, b < w2.heap.size → (Value.slice oa X.length oc).ownBlock ≠ some b := fun b hb e => by
              have := (HJ7.out.own.lt e).1
              omega
            have hstep := HJ7.out.step (p := (x, rb, .slice ra rL rc, cv)) HB5.out ho6 hg6 hk6 ⟨HRGX.out, HR7.out.below HB5.out⟩ (fun W9 h9 b hb1 hb2 => (h9 b hb1 (hown b hb2) (by have := HSZ7.out; omega)).trans (HJ7.out.oth b hb1 hb2))
            have hpb : pb ≠ w1.heap.size := by
              intro e
              have h2 := HZ7.out
              rw [e] at h2
              exact absurd (HJ7.out.box.symm.trans h2) (by simp)
            have hl8 := hstep.2.2.1 lb HLNE.out (hown lb HLB.out) (by have := HLB.out; have := HSZ7.out; omega)
            have hp8 := hstep.2.2.1 pb hpb (HJ7.out.own.apart HZ7.out (by decide)) HZ7.out.lt'
            have hlc : w7.cell? ⟨lb, lo + i, none⟩ = some (.int .i64 x) := (HS8.out w7 (Below.refl _ _)).1
            have HS6 : Hid (let Y := w6; Y.cell? ⟨lb, lo + i, none⟩ = some (.int .i64 x) ∧ Y.cell? ⟨pb, 0, none⟩ = some (.bool rb) ∧ Y.cell? ⟨pb, 1, none⟩ = some (.slice ra rL rc)) := by
              have h1 : Two w6 pb (.bool rb) (.slice ra rL rc) 32 := hp8.2.trans HZ7.out
              exact ⟨(World.cell?_of_block (a := ⟨lb, lo + i, none⟩) hl8.2).trans hlc, h1.c0, h1.c1⟩
            have HS7 : Hid (let Y := w6.setCell ⟨w1.heap.size, 2, none⟩ (.slice oa6 (X ++ [((x, rb, .slice ra rL rc, cv) : Pt)]).length oc6); Y.cell? ⟨lb, lo + i, none⟩ = some (.int .i64 x) ∧ Y.cell? ⟨pb, 0, none⟩ = some (.bool rb) ∧ Y.cell? ⟨pb, 1, none⟩ = some (.slice ra rL rc)) := by
              have h1 : Two (w6.setCell ⟨w1.heap.size, 2, none⟩ (.slice oa6 (X ++ [((x, rb, .slice ra rL rc, cv) : Pt)]).length oc6)) pb (.bool rb) (.slice ra rL rc) 32 := hp8.1.trans HZ7.out
              exact ⟨(World.cell?_of_block (a := ⟨lb, lo + i, none⟩) hl8.1).trans hlc, h1.c0, h1.c1⟩
            have HSTEP := hide hstep
            have HBF := hide (hstep.2.2.2 w.heap.size w HB2.out.size (by have := HN1.out; omega) HBW7.out (Nat.le_refl _))
            have HSF : Hid (w2.heap.size ≤ (w6.setCell ⟨w1.heap.size, 2, none⟩ (.slice oa6 (X ++ [((x, rb, .slice ra rL rc, cv) : Pt)]).length oc6)).heap.size) := by
              have h1 := hg6.size
              have h2 := HB5.out.size
              have h3 := HSZ7.out
              show _ ≤ _
              simp
              omega
            obtain ⟨y0, y1, y2, y3, y4, y5⟩ := hstep.2.1.every
            generalize hxl : (X ++ [((x, rb, .slice ra rL rc, cv) : Pt)]).length = xl at *
            have HXL := hide hxl
            clear hstep ho6 hg6 ha6 hk6 hxl hl8 hp8 hlc hown hpb
            refine wpAnyH_ready (rs := [9]) (by kernel_rfl) (by simp) ?_
            refine AllReadyH.cons rfl (fun K hK => ?_) AllReadyH.nil
            refine Lib.wp_append_run _ _ _ _ _ rfl _ _ rfl rfl _ _ hrun6 ?_
            clear hrun6
            refine hK.out _ _ (HS6.out) (fun hHeld => ?_)
            clear hK K
            try simp only [Act.put, List.setIfInBounds_toArray, List.set_cons_zero, List.set_cons_succ]
            refine takeD (i := 10) (v := ?v508) (some 38) rfl (by kernel_rfl) (by kernel_rfl) (by kernel_rfl) (fun _ _ _ h => h) (Or.inl ⟨by rfl, ?hy508⟩) (by assumption) (by rfl) ?rest508
            case hy508 => first | (intro w hSw; (try dsimp only at hSw); obtain ⟨q0, q1, q2⟩ := hSw; go_simp; done) | (intro w hSw; (try dsimp only at hSw); obtain ⟨q0, q1, q2⟩ := hSw; go_simp; with_reducible rfl)
            try simp only [Act.put, List.setIfInBounds_toArray, List.set_cons_zero, List.set_cons_succ]
            refine wpAnyH_ready (rs := [11]) (by kernel_rfl) (by simp) ?_
            refine AllReadyH.cons rfl (fun K hK => ?_) AllReadyH.nil
            go_simp
            refine hK.out _ _ (HS7.out) (fun hHeld => ?_)
            clear hK K hHeld
            try simp only [Act.put, List.setIfInBounds_toArray, List.set_cons_zero, List.set_cons_succ]
            refine wpAnyH_done (by kernel_rfl) ?_ _
            clear y0 y1 y2 y3 y4 y5
            go_wp2
            go_roundw
            case rel =>
              have e9 := HXL.out
              subst e9
              refine ⟨i + 1, X ++ [((x, rb, .slice ra rL rc, cv) : Pt)], _, _, by omega, by go_num, HSTEP.out.1, ?_, HFL.out.add HF4.out, HSF.out, HBF.out⟩
              rw [HTK.out, nfOf_append, nfOf_one, HCV.out, if_neg HC0.out, ps_append, HPS.out]
              rfl
            case measure => simp [RowKit.intOf]; omega
          · go_simp
            have hbl := bel w7 (.cells #[.int .i64 x, .bool rb, .slice ra rL rc] 74)
            have HB5 : Hid (Below w7.heap.size w7 ((w7.alloc (.cells #[.int .i64 x, .bool rb, .slice ra rL rc] 74)).drew)) := hbl.drew
            have HRL := hide ((row_litQ w7 x rb (.slice ra rL rc) cv).below ((Below.refl _ _).drew))
            clear hbl
            generalize hw5 : (w7.alloc (.cells #[.int .i64 x, .bool rb, .slice ra rL rc] 74)).drew = w5 at *
            clear hw5
            refine hK.out _ _ (HS8.out _ HB5.out) (fun hHeld => ?_)
            clear hK K hHeld
            try simp only [Act.put, List.setIfInBounds_toArray, List.set_cons_zero, List.set_cons_succ]
            have u0 := (HJ7.out.box.keep HB5.out).c2
            refine wpAnyH_ready (rs := [1]) (by kernel_rfl) (by simp) ?_
            refine AllReadyH.cons rfl (fun K hK => ?_) AllReadyH.nil
            go_simp
            refine hK.out _ _ (HS8.out _ HB5.out) (fun hHeld => ?_)
            clear hK K hHeld
            try simp only [Act.put, List.setIfInBounds_toArray, List.set_cons_zero, List.set_cons_succ]
            clear u0
            obtain ⟨v6, w6, hrun6, ho6, hg6, ha6, hk6⟩ := run_appQ w5 w2.heap.size 33 _ X (HJ7.out.own.below HB5.out) _ [((x, rb, .slice ra rL rc, cv) : Pt)] HRL.out (fun m hm => by simp at hm; subst hm; rfl) (by have h1 := congrArg List.length HPS.out; have h2 := List.length_filter_le (fun p : Int × Int => decide (p.2 ≠ 0)) ((L.take i).map fun x => (x, cf x (ps M))); have h3 := HLK.out; simp only [ps_length, nfOf] at h1; simp only [List.length_map, List.length_take] at h2; simp only [List.length_cons, List.length_nil]; omega) (Nat.le_trans HSZ7.out HB5.out.size)
            obtain ⟨oa6, oc6, rfl, _, _⟩ := ho6.len
            have hown : ∀ b, b < w2.heap.size → (Value.slice oa X.length oc).ownBlock ≠ some b := fun b hb e => by
              have := (HJ7.out.own.lt e).1
              omega
            have hstep := HJ7.out.step (p := (x, rb, .slice ra rL rc, cv)) HB5.out ho6 hg6 hk6 ⟨HRGX.out, HR7.out.below HB5.out⟩ (fun W9 h9 b hb1 hb2 => (h9 b hb1 (hown b hb2) (by have := HSZ7.out; omega)).trans (HJ7.out.oth b hb1 hb2))
            have hpb : pb ≠ w1.heap.size := by
              intro e
              have h2 := HZ7.out
              rw [e] at h2
              exact absurd (HJ7.out.box.symm.trans h2) (by simp)
            have hl8 := hstep.2.2.1 lb HLNE.out (hown lb HLB.out) (by have := HLB.out; have := HSZ7.out; omega)
            have hp8 := hstep.2.2.1 pb hpb (HJ7.out.own.apart HZ7.out (by decide)) HZ7.out.lt'
            have hlc : w7.cell? ⟨lb, lo + i, none⟩ = some (.int .i64 x) := (HS8.out w7 (Below.refl _ _)).1
            have HS6 : Hid (let Y := w6; Y.cell? ⟨lb, lo + i, none⟩ = some (.int .i64 x) ∧ Y.cell? ⟨pb, 0, none⟩ = some (.bool rb) ∧ Y.cell? ⟨pb, 1, none⟩ = some (.slice ra rL rc)) := by
              have h1 : Two w6 pb (.bool rb) (.slice ra rL rc) 32 := hp8.2.trans HZ7.out
              exact ⟨(World.cell?_of_block (a := ⟨lb, lo + i, none⟩) hl8.2).trans hlc, h1.c0, h1.c1⟩
            have HS7 : Hid (let Y := w6.setCell ⟨w1.heap.size, 2, none⟩ (.slice oa6 (X ++ [((x, rb, .slice ra rL rc, cv) : Pt)]).length oc6); Y.cell? ⟨lb, lo + i, none⟩ = some (.int .i64 x) ∧ Y.cell? ⟨pb, 0, none⟩ = some (.bool rb) ∧ Y.cell? ⟨pb, 1, none⟩ = some (.slice ra rL rc)) := by
              have h1 : Two (w6.setCell ⟨w1.heap.size, 2, none⟩ (.slice oa6 (X ++ [((x, rb, .slice ra rL rc, cv) : Pt)]).length oc6)) pb (.bool rb) (.slice ra rL rc) 32 := hp8.1.trans HZ7.out
              exact ⟨(World.cell?_of_block (a := ⟨lb, lo + i, none⟩) hl8.1).trans hlc, h1.c0, h1.c1⟩
            have HSTEP := hide hstep
            have HBF := hide (hstep.2.2.2 w.heap.size w HB2.out.size (by have := HN1.out; omega) HBW7.out (Nat.le_refl _))
            have HSF : Hid (w2.heap.size ≤ (w6.setCell ⟨w1.heap.size, 2, none⟩ (.slice oa6 (X ++ [((x, rb, .slice ra rL rc, cv) : Pt)]).length oc6)).heap.size) := by
              have h1 := hg6.size
              have h2 := HB5.out.size
              have h3 := HSZ7.out
              show _ ≤ _
              simp
              omega
            obtain ⟨y0, y1, y2, y3, y4, y5⟩ := hstep.2.1.every
            generalize hxl : (X ++ [((x, rb, .slice ra rL rc, cv) : Pt)]).length = xl at *
            have HXL := hide hxl
            clear hstep ho6 hg6 ha6 hk6 hxl hl8 hp8 hlc hown hpb
            refine wpAnyH_ready (rs := [9]) (by kernel_rfl) (by simp) ?_
            refine AllReadyH.cons rfl (fun K hK => ?_) AllReadyH.nil
            refine Lib.wp_append_run _ _ _ _ _ rfl _ _ rfl rfl _ _ hrun6 ?_
            clear hrun6
            refine hK.out _ _ (HS6.out) (fun hHeld => ?_)
            clear hK K
            try simp only [Act.put, List.setIfInBounds_toArray, List.set_cons_zero, List.set_cons_succ]
            refine takeD (i := 10) (v := ?v509) (some 38) rfl (by kernel_rfl) (by kernel_rfl) (by kernel_rfl) (fun _ _ _ h => h) (Or.inl ⟨by rfl, ?hy509⟩) (by assumption) (by rfl) ?rest509
            case hy509 => first | (intro w hSw; (try dsimp only at hSw); obtain ⟨q0, q1, q2⟩ := hSw; go_simp; done) | (intro w hSw; (try dsimp only at hSw); obtain ⟨q0, q1, q2⟩ := hSw; go_simp; with_reducible rfl)
            try simp only [Act.put, List.setIfInBounds_toArray, List.set_cons_zero, List.set_cons_succ]
            refine wpAnyH_ready (rs := [11]) (by kernel_rfl) (by simp) ?_
            refine AllReadyH.cons rfl (fun K hK => ?_) AllReadyH.nil
            go_simp
            refine hK.out _ _ (HS7.out) (fun hHeld => ?_)
            clear hK K hHeld
            try simp only [Act.put, List.setIfInBounds_toArray, List.set_cons_zero, List.set_cons_succ]
            refine wpAnyH_done (by kernel_rfl) ?_ _
            clear y0 y1 y2 y3 y4 y5
            go_wp2
            go_roundw
            case rel =>
              have e9 := HXL.out
              subst e9
              refine ⟨i + 1, X ++ [((x, rb, .slice ra rL rc, cv) : Pt)], _, _, by omega, by go_num, HSTEP.out.1, ?_, HFL.out.add HF4.out, HSF.out, HBF.out⟩
              rw [HTK.out, nfOf_append, nfOf_one, HCV.out, if_neg HC0.out, ps_append, HPS.out]
              rfl
            case measure => simp [RowKit.intOf]; omega
      · go_simp
        have HB3 : Hid (Below wr.heap.size wr ((wr.alloc (.cells #[.bool false, .slice none 0 0] 32)).drew)) := (bel _ _).drew
        refine hK.out _ _ (HS.out _ HB3.out) (fun hHeld => ?_)
        clear hK K
        try simp only [Act.put, List.setIfInBounds_toArray, List.set_cons_zero, List.set_cons_succ]
        refine wpAnyH_ready (rs := [5]) (by kernel_rfl) (by simp) ?_
        refine AllReadyH.cons rfl (fun K hK => ?_) AllReadyH.nil
        go_simp
        refine (HCO.out _ HB3.out).mono ?_
        rintro e w4 ⟨v4, rfl, hr4, hf4, hb4⟩
        obtain ⟨rb, ra, rL, rc, rfl⟩ := hr4.form
        have HF4 := hide (hf4.mono (Nat.le_trans HBW.out.size HB3.out.size))
        clear hf4
        have HB4 : Hid (Below wr.heap.size wr w4) := bafter HB3.out hb4 (Nat.le_refl _)
        have HR4 := hide hr4
        have TN := hide ((Two.new wr (.bool false) (.slice none 0 0) 32).drew.keep hb4)
        clear hr4 hb4 hHeld
        go_wp2_with fail
        refine hK.out _ _ (HS.out _ HB4.out) (fun hHeld => ?_)
        clear hK K
        try simp only [Act.put, List.setIfInBounds_toArray, List.set_cons_zero, List.set_cons_succ]
        obtain ⟨g0, g1, g2, g3, _, _⟩ := TN.out.every
        have HBZ : Hid (Below wr.heap.size wr ((w4.setCell ⟨wr.heap.size, 0, none⟩ (.bool rb)).setCell ⟨wr.heap.size, 1, none⟩ (.slice ra rL rc))) := below_put HB4.out (Nat.le_refl _) _ _
        have HRZ := hide (HR4.out.put TN.out (.bool rb) (.slice ra rL rc))
        have HZ := hide (TN.out.put (.bool rb) (.slice ra rL rc))
        refine wpAnyH_ready (rs := [7]) (by kernel_rfl) (by simp) ?_
        refine AllReadyH.cons rfl (fun K hK => ?_) AllReadyH.nil
        go_simp
        clear g0 g1 g2 g3
        generalize hwz : (w4.setCell ⟨wr.heap.size, 0, none⟩ (.bool rb)).setCell ⟨wr.heap.size, 1, none⟩ (.slice ra rL rc) = wz at *
        obtain ⟨pb, hpb⟩ : ∃ pb, pb = wr.heap.size := ⟨_, rfl⟩
        rw [← hpb] at HZ ⊢
        clear hwz hpb TN
        refine hK.out _ _ (HS.out _ HBZ.out) (fun hHeld => ?_)
        clear hK K hHeld
        try simp only [Act.put, List.setIfInBounds_toArray, List.set_cons_zero, List.set_cons_succ]
        refine wpAnyH_done (by kernel_rfl) ?_ _
        have HSZZ : Hid (w2.heap.size ≤ wz.heap.size) := Nat.le_trans HSZ.out HBZ.out.size
        obtain ⟨n0, n1, _, _, _, _⟩ := HZ.out.every
        have hsg := rsign_calls (HRZ.out.arg HZB.out) (by omega)
        by_cases hcv0 : cv = 0
        · have hs0 : sg cv = 0 := by rw [hcv0]; rfl
          rw [hs0] at hsg
          clear hs0
          go_wp2_with fail
          refine hsg.mono ?_
          rintro e w7 ⟨rfl, hb7⟩
          have HB7 := hide (bafter HBZ.out hb7 (Nat.le_refl _))
          have HC0 := hide hcv0
          clear hsg hb7 n0 n1 hcv0
          go_wp2
          go_roundw
          case rel =>
            refine ⟨i + 1, X, _, _, by omega, by go_num, HJ.out.below HB7.out (fun b hb1 hb2 => (HB7.out.block b (by have := HSZ.out; omega)).trans (HJ.out.oth b hb1 hb2)), ?_, HFL.out, Nat.le_trans HSZ.out HB7.out.size, bafter HBW.out HB7.out (Nat.le_refl _)⟩
            rw [HTK.out, nfOf_append, nfOf_one, HCV.out, if_pos HC0.out, List.append_nil]
            exact HPS.out
          case measure => simp [RowKit.intOf]; omega
        · have hs0 : (sg cv == 0) = false := sg_not0 hcv0
          have hs1 : (sg cv != 0) = true := by rw [bne, hs0]; rfl
          generalize sg cv = sv at *
          go_wp2_with fail
          refine hsg.mono ?_
          rintro e w7 ⟨rfl, hb7⟩
          have HB7 := hide (bafter HBZ.out hb7 (Nat.le_refl _))
          have HC0 := hide hcv0
          have HZ7 := hide (HZ.out.keep hb7)
          have HR7 := hide (HRZ.out.below hb7)
          have HJ7 := hide (HJ.out.below HB7.out (fun b hb1 hb2 => (HB7.out.block b (by have := HSZ.out; omega)).trans (HJ.out.oth b hb1 hb2)))
          have HBW7 := hide (bafter HBW.out HB7.out (Nat.le_refl _))
          have HSZ7 : Hid (w2.heap.size ≤ w7.heap.size) := Nat.le_trans HSZ.out HB7.out.size
          have HS8 : Hid (∀ Y : World, Below w7.heap.size w7 Y → Y.cell? ⟨lb, lo + i, none⟩ = some (.int .i64 x) ∧ Y.cell? ⟨pb, 0, none⟩ = some (.bool rb) ∧ Y.cell? ⟨pb, 1, none⟩ = some (.slice ra rL rc)) := fun Y hY => by
            have h9 := (hY.cell (p := ⟨lb, lo + i, none⟩) (by have := HLB.out; have := HSZ7.out; show lb < _; omega)).trans ((HB7.out.cell (p := ⟨lb, lo + i, none⟩) (block_lt_of_cell HCX.out)).trans HCX.out)
            exact ⟨h9, (HZ7.out.keep hY).c0, (HZ7.out.keep hY).c1⟩
          clear hsg hb7 n0 n1 hcv0
          go_upto_region 8 with fail
          refine wp_region_held_drew (S := fun Y : World => Y.cell? ⟨lb, lo + i, none⟩ = some (.int .i64 x) ∧ Y.cell? ⟨pb, 0, none⟩ = some (.bool rb) ∧ Y.cell? ⟨pb, 1, none⟩ = some (.slice ra rL rc)) (by kernel_rfl) ?_ (fun hHeld => ?_)
          · exact HS8.out _ (by (first | exact (Below.refl _ _).drew | exact Below.refl _ _))
          refine takeD (i := 0) (v := ?v510) (some 28) rfl (by kernel_rfl) (by kernel_rfl) (by kernel_rfl) (fun _ _ _ h => h) (Or.inl ⟨by rfl, ?hy510⟩) (by assumption) (by rfl) ?rest510
          case hy510 => first | (intro w hSw; (try dsimp only at hSw); obtain ⟨q0, q1, q2⟩ := hSw; go_simp; done) | (intro w hSw; (try dsimp only at hSw); obtain ⟨q0, q1, q2⟩ := hSw; go_simp; with_reducible rfl)
          try simp only [Act.put, List.setIfInBounds_toArray, List.set_cons_zero, List.set_cons_succ]
          refine takeD (i := 2) (v := ?v511) (some 30) rfl (by kernel_rfl) (by kernel_rfl) (by kernel_rfl) (fun _ _ _ h => h) (Or.inl ⟨by rfl, ?hy511⟩) (by assumption) (by rfl) ?rest511
          case hy511 => first | (intro w hSw; (try dsimp only at hSw); obtain ⟨q0, q1, q2⟩ := hSw; go_simp; done) | (intro w hSw; (try dsimp only at hSw); obtain ⟨q0, q1, q2⟩ := hSw; go_simp; with_reducible rfl)
          try simp only [Act.put, List.setIfInBounds_toArray, List.set_cons_zero, List.set_cons_succ]
          refine takeD (i := 3) (v := ?v512) (some 31) rfl (by kernel_rfl) (by kernel_rfl) (by kernel_rfl) (fun _ _ _ h => h) (Or.inl ⟨by rfl, ?hy512⟩) (by assumption) (by rfl) ?rest512
          case hy512 => first | (intro w hSw; (try dsimp only at hSw); obtain ⟨q0, q1, q2⟩ := hSw; go_simp; done) | (intro w hSw; (try dsimp only at hSw); obtain ⟨q0, q1, q2⟩ := hSw; go_simp; with_reducible rfl)
          try simp only [Act.put, List.setIfInBounds_toArray, List.set_cons_zero, List.set_cons_succ]
          refine takeD (i := 4) (v := ?v513) (some 32) rfl (by kernel_rfl) (by kernel_rfl) (by kernel_rfl) (fun _ _ _ h => h) (Or.inl ⟨by rfl, ?hy513⟩) (by assumption) (by rfl) ?rest513
          case hy513 => first | (intro w hSw; (try dsimp only at hSw); obtain ⟨q0, q1, q2⟩ := hSw; go_simp; done) | (intro w hSw; (try dsimp only at hSw); obtain ⟨q0, q1, q2⟩ := hSw; go_simp; with_reducible rfl)
          try simp only [Act.put, List.setIfInBounds_toArray, List.set_cons_zero, List.set_cons_succ]
          refine takeD (i := 5) (v := ?v514) (some 33) rfl (by kernel_rfl) (by kernel_rfl) (by kernel_rfl) (fun _ _ _ h => h) (Or.inl ⟨by rfl, ?hy514⟩) (by assumption) (by rfl) ?rest514
          case hy514 => first | (intro w hSw; (try dsimp only at hSw); obtain ⟨q0, q1, q2⟩ := hSw; go_simp; done) | (intro w hSw; (try dsimp only at hSw); obtain ⟨q0, q1, q2⟩ := hSw; go_simp; with_reducible rfl)
          try simp only [Act.put, List.setIfInBounds_toArray, List.set_cons_zero, List.set_cons_succ]
          refine takeD (i := 6) (v := ?v515) (some 34) rfl (by kernel_rfl) (by kernel_rfl) (by kernel_rfl) (fun _ _ _ h => h) (Or.inl ⟨by rfl, ?hy515⟩) (by assumption) (by rfl) ?rest515
          case hy515 => first | (intro w hSw; (try dsimp only at hSw); obtain ⟨q0, q1, q2⟩ := hSw; go_simp; done) | (intro w hSw; (try dsimp only at hSw); obtain ⟨q0, q1, q2⟩ := hSw; go_simp; with_reducible rfl)
          try simp only [Act.put, List.setIfInBounds_toArray, List.set_cons_zero, List.set_cons_succ]
          refine takeD (i := 7) (v := ?v516) (some 35) rfl (by kernel_rfl) (by kernel_rfl) (by kernel_rfl) (fun _ _ _ h => h) (Or.inl ⟨by rfl, ?hy516⟩) (by assumption) (by rfl) ?rest516
          case hy516 => first | (intro w hSw; (try dsimp only at hSw); obtain ⟨q0, q1, q2⟩ := hSw; go_simp; done) | (intro w hSw; (try dsimp only at hSw); obtain ⟨q0, q1, q2⟩ := hSw; go_simp; with_reducible rfl)
          try simp only [Act.put, List.setIfInBounds_toArray, List.set_cons_zero, List.set_cons_succ]
          refine wpAnyH_ready (rs := [1, 8]) (by kernel_rfl) (by simp) ?_
          refine AllReadyH.cons rfl (fun K hK => ?_) (AllReadyH.cons rfl (fun K hK => ?_) AllReadyH.nil)
          · have u0 := (HJ7.out.box.keep ((Below.refl _ w7).drew)).c2
            go_simp
            refine hK.out _ _ (HS8.out _ ((Below.refl _ _).drew)) (fun hHeld => ?_)
            clear hK K
            try simp only [Act.put, List.setIfInBounds_toArray, List.set_cons_zero, List.set_cons_succ]
            clear u0
            refine wpAnyH_ready (rs := [8]) (by kernel_rfl) (by simp) ?_
            refine AllReadyH.cons rfl (fun K hK => ?_) AllReadyH.nil
            go_simp
            have hbl := bel w7 (.cells #[.int .i64 x, .bool rb, .slice ra rL rc] 74)
            have HB5 : Hid (Below w7.heap.size w7 ((w7.alloc (.cells #[.int .i64 x, .bool rb, .slice ra rL rc] 74)).drew)) := hbl.drew
            have HRL := hide ((row_litQ w7 x rb (.slice ra rL rc) cv).below ((Below.refl _ _).drew))
            clear hbl
            generalize hw5 : (w7.alloc (.cells #[.int .i64 x, .bool rb, .slice ra rL rc] 74)).drew = w5 at *
            clear hw5
            refine hK.out _ _ (HS8.out _ HB5.out) (fun hHeld => ?_)
            clear hK K hHeld
            try simp only [Act.put, List.setIfInBounds_toArray, List.set_cons_zero, List.set_cons_succ]
            obtain ⟨v6, w6, hrun6, ho6, hg6, ha6, hk6⟩ := run_appQ w5 w2.heap.size 33 _ X (HJ7.out.own.below HB5.out) _ [((x, rb, .slice ra rL rc, cv) : Pt)] HRL.out (fun m hm => by simp at hm; subst hm; rfl) (by have h1 := congrArg List.length HPS.out; have h2 := List.length_filter_le (fun p : Int × Int => decide (p.2 ≠ 0)) ((L.take i).map fun x => (x, cf x (ps M))); have h3 := HLK.out; simp only [ps_length, nfOf] at h1; simp only [List.length_map, List.length_take] at h2; simp only [List.length_cons, List.length_nil]; omega) (Nat.le_trans HSZ7.out HB5.out.size)
            obtain ⟨oa6, oc6, rfl, _, _⟩ := ho6.len
            have hown : ∀ b, b < w2.heap.size → (Value.slice oa X.length oc).ownBlock ≠ some b := fun b hb e => by
              have := (HJ7.out.own.lt e).1
              omega
            have hstep := HJ7.out.step (p := (x, rb, .slice ra rL rc, cv)) HB5.out ho6 hg6 hk6 ⟨HRGX.out, HR7.out.below HB5.out⟩ (fun W9 h9 b hb1 hb2 => (h9 b hb1 (hown b hb2) (by have := HSZ7.out; omega)).trans (HJ7.out.oth b hb1 hb2))
            have hpb : pb ≠ w1.heap.size := by
              intro e
              have h2 := HZ7.out
              rw [e] at h2
              exact absurd (HJ7.out.box.symm.trans h2) (by simp)
            have hl8 := hstep.2.2.1 lb HLNE.out (hown lb HLB.out) (by have := HLB.out; have := HSZ7.out; omega)
            have hp8 := hstep.2.2.1 pb hpb (HJ7.out.own.apart HZ7.out (by decide)) HZ7.out.lt'
            have hlc : w7.cell? ⟨lb, lo + i, none⟩ = some (.int .i64 x) := (HS8.out w7 (Below.refl _ _)).1
            have HS6 : Hid (let Y := w6; Y.cell? ⟨lb, lo + i, none⟩ = some (.int .i64 x) ∧ Y.cell? ⟨pb, 0, none⟩ = some (.bool rb) ∧ Y.cell? ⟨pb, 1, none⟩ = some (.slice ra rL rc)) := by
              have h1 : Two w6 pb (.bool rb) (.slice ra rL rc) 32 := hp8.2.trans HZ7.out
              exact ⟨(World.cell?_of_block (a := ⟨lb, lo + i, none⟩) hl8.2).trans hlc, h1.c0, h1.c1⟩
            have HS7 : Hid (let Y := w6.setCell ⟨w1.heap.size, 2, none⟩ (.slice oa6 (X ++ [((x, rb, .slice ra rL rc, cv) : Pt)]).length oc6); Y.cell? ⟨lb, lo + i, none⟩ = some (.int .i64 x) ∧ Y.cell? ⟨pb, 0, none⟩ = some (.bool rb) ∧ Y.cell? ⟨pb, 1, none⟩ = some (.slice ra rL rc)) := by
              have h1 : Two (w6.setCell ⟨w1.heap.size, 2, none⟩ (.slice oa6 (X ++ [((x, rb, .slice ra rL rc, cv) : Pt)]).length oc6)) pb (.bool rb) (.slice ra rL rc) 32 := hp8.1.trans HZ7.out
              exact ⟨(World.cell?_of_block (a := ⟨lb, lo + i, none⟩) hl8.1).trans hlc, h1.c0, h1.c1⟩
            have HSTEP := hide hstep
            have HBF := hide (hstep.2.2.2 w.heap.size w HB2.out.size (by have := HN1.out; omega) HBW7.out (Nat.le_refl _))
            have HSF : Hid (w2.heap.size ≤ (w6.setCell ⟨w1.heap.size, 2, none⟩ (.slice oa6 (X ++ [((x, rb, .slice ra rL rc, cv) : Pt)]).length oc6)).heap.size) := by
              have h1 := hg6.size
              have h2 := HB5.out.size
              have h3 := HSZ7.out
              show _ ≤ _
              simp
              omega
            obtain ⟨y0, y1, y2, y3, y4, y5⟩ := hstep.2.1.every
            generalize hxl : (X ++ [((x, rb, .slice ra rL rc, cv) : Pt)]).length = xl at *
            have HXL := hide hxl
            clear hstep ho6 hg6 ha6 hk6 hxl hl8 hp8 hlc hown hpb
            refine wpAnyH_ready (rs := [9]) (by kernel_rfl) (by simp) ?_
            refine AllReadyH.cons rfl (fun K hK => ?_) AllReadyH.nil
            refine Lib.wp_append_run _ _ _ _ _ rfl _ _ rfl rfl _ _ hrun6 ?_
            clear hrun6
            refine hK.out _ _ (HS6.out) (fun hHeld => ?_)
            clear hK K
            try simp only [Act.put, List.setIfInBounds_toArray, List.set_cons_zero, List.set_cons_succ]
            refine takeD (i := 10) (v := ?v517) (some 38) rfl (by kernel_rfl) (by kernel_rfl) (by kernel_rfl) (fun _ _ _ h => h) (Or.inl ⟨by rfl, ?hy517⟩) (by assumption) (by rfl) ?rest517
            case hy517 => first | (intro w hSw; (try dsimp only at hSw); obtain ⟨q0, q1, q2⟩ := hSw; go_simp; done) | (intro w hSw; (try dsimp only at hSw); obtain ⟨q0, q1, q2⟩ := hSw; go_simp; with_reducible rfl)
            try simp only [Act.put, List.setIfInBounds_toArray, List.set_cons_zero, List.set_cons_succ]
            refine wpAnyH_ready (rs := [11]) (by kernel_rfl) (by simp) ?_
            refine AllReadyH.cons rfl (fun K hK => ?_) AllReadyH.nil
            go_simp
            refine hK.out _ _ (HS7.out) (fun hHeld => ?_)
            clear hK K hHeld
            try simp only [Act.put, List.setIfInBounds_toArray, List.set_cons_zero, List.set_cons_succ]
            refine wpAnyH_done (by kernel_rfl) ?_ _
            clear y0 y1 y2 y3 y4 y5
            go_wp2
            go_roundw
            case rel =>
              have e9 := HXL.out
              subst e9
              refine ⟨i + 1, X ++ [((x, rb, .slice ra rL rc, cv) : Pt)], _, _, by omega, by go_num, HSTEP.out.1, ?_, HFL.out.add HF4.out, HSF.out, HBF.out⟩
              rw [HTK.out, nfOf_append, nfOf_one, HCV.out, if_neg HC0.out, ps_append, HPS.out]
              rfl
            case measure => simp [RowKit.intOf]; omega
          · go_simp
            have hbl := bel w7 (.cells #[.int .i64 x, .bool rb, .slice ra rL rc] 74)
            have HB5 : Hid (Below w7.heap.size w7 ((w7.alloc (.cells #[.int .i64 x, .bool rb, .slice ra rL rc] 74)).drew)) := hbl.drew
            have HRL := hide ((row_litQ w7 x rb (.slice ra rL rc) cv).below ((Below.refl _ _).drew))
            clear hbl
            generalize hw5 : (w7.alloc (.cells #[.int .i64 x, .bool rb, .slice ra rL rc] 74)).drew = w5 at *
            clear hw5
            refine hK.out _ _ (HS8.out _ HB5.out) (fun hHeld => ?_)
            clear hK K hHeld
            try simp only [Act.put, List.setIfInBounds_toArray, List.set_cons_zero, List.set_cons_succ]
            have u0 := (HJ7.out.box.keep HB5.out).c2
            refine wpAnyH_ready (rs := [1]) (by kernel_rfl) (by simp) ?_
            refine AllReadyH.cons rfl (fun K hK => ?_) AllReadyH.nil
            go_simp
            refine hK.out _ _ (HS8.out _ HB5.out) (fun hHeld => ?_)
            clear hK K hHeld
            try simp only [Act.put, List.setIfInBounds_toArray, List.set_cons_zero, List.set_cons_succ]
            clear u0
            obtain ⟨v6, w6, hrun6, ho6, hg6, ha6, hk6⟩ := run_appQ w5 w2.heap.size 33 _ X (HJ7.out.own.below HB5.out) _ [((x, rb, .slice ra rL rc, cv) : Pt)] HRL.out (fun m hm => by simp at hm; subst hm; rfl) (by have h1 := congrArg List.length HPS.out; have h2 := List.length_filter_le (fun p : Int × Int => decide (p.2 ≠ 0)) ((L.take i).map fun x => (x, cf x (ps M))); have h3 := HLK.out; simp only [ps_length, nfOf] at h1; simp only [List.length_map, List.length_take] at h2; simp only [List.length_cons, List.length_nil]; omega) (Nat.le_trans HSZ7.out HB5.out.size)
            obtain ⟨oa6, oc6, rfl, _, _⟩ := ho6.len
            have hown : ∀ b, b < w2.heap.size → (Value.slice oa X.length oc).ownBlock ≠ some b := fun b hb e => by
              have := (HJ7.out.own.lt e).1
              omega
            have hstep := HJ7.out.step (p := (x, rb, .slice ra rL rc, cv)) HB5.out ho6 hg6 hk6 ⟨HRGX.out, HR7.out.below HB5.out⟩ (fun W9 h9 b hb1 hb2 => (h9 b hb1 (hown b hb2) (by have := HSZ7.out; omega)).trans (HJ7.out.oth b hb1 hb2))
            have hpb : pb ≠ w1.heap.size := by
              intro e
              have h2 := HZ7.out
              rw [e] at h2
              exact absurd (HJ7.out.box.symm.trans h2) (by simp)
            have hl8 := hstep.2.2.1 lb HLNE.out (hown lb HLB.out) (by have := HLB.out; have := HSZ7.out; omega)
            have hp8 := hstep.2.2.1 pb hpb (HJ7.out.own.apart HZ7.out (by decide)) HZ7.out.lt'
            have hlc : w7.cell? ⟨lb, lo + i, none⟩ = some (.int .i64 x) := (HS8.out w7 (Below.refl _ _)).1
            have HS6 : Hid (let Y := w6; Y.cell? ⟨lb, lo + i, none⟩ = some (.int .i64 x) ∧ Y.cell? ⟨pb, 0, none⟩ = some (.bool rb) ∧ Y.cell? ⟨pb, 1, none⟩ = some (.slice ra rL rc)) := by
              have h1 : Two w6 pb (.bool rb) (.slice ra rL rc) 32 := hp8.2.trans HZ7.out
              exact ⟨(World.cell?_of_block (a := ⟨lb, lo + i, none⟩) hl8.2).trans hlc, h1.c0, h1.c1⟩
            have HS7 : Hid (let Y := w6.setCell ⟨w1.heap.size, 2, none⟩ (.slice oa6 (X ++ [((x, rb, .slice ra rL rc, cv) : Pt)]).length oc6); Y.cell? ⟨lb, lo + i, none⟩ = some (.int .i64 x) ∧ Y.cell? ⟨pb, 0, none⟩ = some (.bool rb) ∧ Y.cell? ⟨pb, 1, none⟩ = some (.slice ra rL rc)) := by
              have h1 : Two (w6.setCell ⟨w1.heap.size, 2, none⟩ (.slice oa6 (X ++ [((x, rb, .slice ra rL rc, cv) : Pt)]).length oc6)) pb (.bool rb) (.slice ra rL rc) 32 := hp8.1.trans HZ7.out
              exact ⟨(World.cell?_of_block (a := ⟨lb, lo + i, none⟩) hl8.1).trans hlc, h1.c0, h1.c1⟩
            have HSTEP := hide hstep
            have HBF := hide (hstep.2.2.2 w.heap.size w HB2.out.size (by have := HN1.out; omega) HBW7.out (Nat.le_refl _))
            have HSF : Hid (w2.heap.size ≤ (w6.setCell ⟨w1.heap.size, 2, none⟩ (.slice oa6 (X ++ [((x, rb, .slice ra rL rc, cv) : Pt)]).length oc6)).heap.size) := by
              have h1 := hg6.size
              have h2 := HB5.out.size
              have h3 := HSZ7.out
              show _ ≤ _
              simp
              omega
            obtain ⟨y0, y1, y2, y3, y4, y5⟩ := hstep.2.1.every
            generalize hxl : (X ++ [((x, rb, .slice ra rL rc, cv) : Pt)]).length = xl at *
            have HXL := hide hxl
            clear hstep ho6 hg6 ha6 hk6 hxl hl8 hp8 hlc hown hpb
            refine wpAnyH_ready (rs := [9]) (by kernel_rfl) (by simp) ?_
            refine AllReadyH.cons rfl (fun K hK => ?_) AllReadyH.nil
            refine Lib.wp_append_run _ _ _ _ _ rfl _ _ rfl rfl _ _ hrun6 ?_
            clear hrun6
            refine hK.out _ _ (HS6.out) (fun hHeld => ?_)
            clear hK K
            try simp only [Act.put, List.setIfInBounds_toArray, List.set_cons_zero, List.set_cons_succ]
            refine takeD (i := 10) (v := ?v518) (some 38) rfl (by kernel_rfl) (by kernel_rfl) (by kernel_rfl) (fun _ _ _ h => h) (Or.inl ⟨by rfl, ?hy518⟩) (by assumption) (by rfl) ?rest518
            case hy518 => first | (intro w hSw; (try dsimp only at hSw); obtain ⟨q0, q1, q2⟩ := hSw; go_simp; done) | (intro w hSw; (try dsimp only at hSw); obtain ⟨q0, q1, q2⟩ := hSw; go_simp; with_reducible rfl)
            try simp only [Act.put, List.setIfInBounds_toArray, List.set_cons_zero, List.set_cons_succ]
            refine wpAnyH_ready (rs := [11]) (by kernel_rfl) (by simp) ?_
            refine AllReadyH.cons rfl (fun K hK => ?_) AllReadyH.nil
            go_simp
            refine hK.out _ _ (HS7.out) (fun hHeld => ?_)
            clear hK K hHeld
            try simp only [Act.put, List.setIfInBounds_toArray, List.set_cons_zero, List.set_cons_succ]
            refine wpAnyH_done (by kernel_rfl) ?_ _
            clear y0 y1 y2 y3 y4 y5
            go_wp2
            go_roundw
            case rel =>
              have e9 := HXL.out
              subst e9
              refine ⟨i + 1, X ++ [((x, rb, .slice ra rL rc, cv) : Pt)], _, _, by omega, by go_num, HSTEP.out.1, ?_, HFL.out.add HF4.out, HSF.out, HBF.out⟩
              rw [HTK.out, nfOf_append, nfOf_one, HCV.out, if_neg HC0.out, ps_append, HPS.out]
              rfl
            case measure => simp [RowKit.intOf]; omega
    · obtain rfl : i = Lk := by omega
      have d1 : ¬ (i : Int) < (i : Int) := by omega
      obtain ⟨z0, z1, z2, f0, f1, f2⟩ := HTZr.out.every
      obtain ⟨x0, x1, x2, _, _, _⟩ := HJ.out.box.every
      have HTR : Hid (RTerm wr (.agg #[.bool nb, .slice na nL nc, .slice oa X.length oc]) c X) := ⟨_, _, _, _, _, _, _, rfl, HJ.out.num, HJ.out.own.row, HJ.out.good⟩
      generalize hxl : X.length = xl at *
      clear hxl
      go_wp2
      refine bodyPost_ret (results_rterm rfl rfl (HTZr.out.put _ _ _)) rfl ?_
      refine ⟨_, X, rfl, HTR.out.but (HTZr.out.but _ _ _), ?_, HFL.out, put3_below HBW.out (by omega) _ _ _⟩
      show NF (ps X) ∧ _
      rw [HPS.out, List.take_of_length_le (by rw [HLK.out]; omega)]
      exact ⟨nfOf_nf HVO.out.rise, nfOf_cf HVO.out⟩

theorem rnormT_calls {K : Nat} {w : World} {v : Value} {c : Int} {M : List Pt} (h : RTerm w v c M) (hc : c.natAbs < 10 ^ K) (hb : BndT K (ps M)) (hl : M.length ≤ 100) (hK : K ≤ 700) :
    Calls Tryz.prog 13 #[v] w fun e w' => RTermE w c (fun l => NF l ∧ ∀ u, cf u l = cf u (ps M)) e w' :=
  (rnormTF_calls h hc hb hl hK).mono fun e w' ⟨v, M, h1, h2, h3, _, h4⟩ => ⟨v, M, h1, h2, h3, h4⟩

end Go.Proofs.YtkdhcpfmlelfcaaGreatDoor

namespace Go.Proofs.YtkdhcpfmlelfcaaGreatDoor
set_option linter.unusedVariables false
set_option linter.unusedSimpArgs false
set_option maxRecDepth 100000
open Go Go.RowKit Go.Shelf Go.Lib

theorem row_nil (W : World) : RowP W (.slice none 0 0) [] := ⟨none, 0, rfl, Nat.le_refl _, by simp [maxLen], fun j m hj => by simp at hj⟩
theorem field_parts (W : World) (a : Bool) (b c : Option Addr) (l k m n : Nat) : (Instr.field 35 (.agg #[.bool a, .slice b l k, .slice c m n]) 1).run Tryz.prog W = .ok (.slice c m n) W := by kernel_rfl
theorem good_nil (W : World) : GoodN W [] := fun m hm => by cases hm

set_option maxHeartbeats 2000000 in
theorem rofT_calls {K : Nat} {w : World} {v : Value} {c : Int} (h : NRes w v c) (hc : c.natAbs < 10 ^ K) (hK : K ≤ 1000) :
    Calls Tryz.prog 24 #[v] w fun e w' => RTermE w c (fun l => l = []) e w' := by
  obtain ⟨neg, a, L, cc, rfl⟩ := h.form
  have t2 := Thr.new1 w (.cells #[.bool neg, .slice a L cc] 32) (.bool false) (.slice none 0 0) (.slice none 0 0) 35
  have hb := ((bel w (.cells #[.bool neg, .slice a L cc] 32)).trans ((bel (w.alloc (.cells #[.bool neg, .slice a L cc] 32)) (.cells #[.bool false, .slice none 0 0, .slice none 0 0] 35)).mono (by simp)))
  have hcall := rnorm_calls ((h.below hb).arg hc) hK
  have T2 := hide t2
  have HB := hide hb
  clear t2 hb h
  go_enter Tryz.func24, Tryz.ntmps24
  go_wp2_with fail
  refine hcall.mono ?_
  rintro e w2 ⟨r2, rfl, q2, hb2⟩
  obtain ⟨b2, a2, L2, k2, rfl⟩ := q2.form
  have TZ' := hide (T2.out.keep hb2)
  obtain ⟨d0, d1, d2, f0, f1, f2⟩ := TZ'.out.every
  have KZ' := hide (bafter HB.out hb2 (Nat.le_refl _))
  have Q2 := hide q2
  clear hb2 hcall q2
  go_wp2
  refine bodyPost_ret (results_rterm rfl rfl (TZ'.out.put _ _ _)) rfl ?_
  exact ⟨_, [], rfl, RTerm.but ⟨_, _, _, _, none, 0, 0, rfl, Q2.out, row_nil _, good_nil _⟩ (TZ'.out.but _ _ _), rfl, put3_below KZ'.out (by omega) _ _ _⟩

set_option maxHeartbeats 2000000 in
theorem rvarT_calls (w : World) (x : Int) (hx : Rng x) :
    Calls Tryz.prog 22 #[.int .i64 x] w fun e w' => RTermE w 0 (fun l => l = [(x, 1)]) e w' := by
  have tz := Thr.new w (.bool false) (.slice none 0 0) (.slice none 0 0) 35
  have hba := bel w (.cells #[.bool false, .slice none 0 0, .slice none 0 0] 35)
  have hof := rof_calls (w.alloc (.cells #[.bool false, .slice none 0 0, .slice none 0 0] 35)) 1 (by omega) (by omega)
  have TZ := hide tz
  have HBA := hide hba
  clear tz hba
  go_enter Tryz.func22, Tryz.ntmps22
  go_wp2_with fail
  refine hof.mono ?_
  rintro e w1 ⟨v1, rfl, hr1, hb1⟩
  obtain ⟨nb, na, nL, nc, rfl⟩ := hr1.form
  have hbl := bel w1 (.cells #[.int .i64 x, .bool nb, .slice na nL nc] 74)
  have TZ2 := hide ((TZ.out.keep hb1).keep hbl)
  have HB2 := hide (bafter (bafter HBA.out hb1 (Nat.le_refl _)) hbl (Nat.le_refl _))
  have HR2 := hide (hr1.below hbl)
  have HROW := hide (row_litQ w1 x nb (.slice na nL nc) 1)
  obtain ⟨d0, d1, d2, f0, f1, f2⟩ := TZ2.out.every
  clear hof hr1 hb1 hbl
  go_wp2
  refine bodyPost_ret (results_rterm rfl rfl (TZ2.out.put _ _ _)) rfl ?_
  refine ⟨_, [(x, nb, .slice na nL nc, 1)], rfl, RTerm.but ⟨_, _, _, _, _, _, _, rfl, nres_zero _, HROW.out, fun m hm => ?_⟩ (TZ2.out.but _ _ _), rfl, put3_below HB2.out (by omega) _ _ _⟩
  simp at hm
  subst hm
  exact ⟨hx, HR2.out⟩

def RIsE (w : World) (M : List Pt) (e : Ending) (w' : World) : Prop := ∃ l : Ps, e = .returned (.bool (decide (l.length = 0))) ∧ NF l ∧ (∀ u, cf u l = cf u (ps M)) ∧ Below w.heap.size w w'
set_option maxHeartbeats 2000000 in
theorem risconst_calls {K : Nat} {w : World} {v : Value} {c : Int} {M : List Pt} (h : RTerm w v c M) (hc : c.natAbs < 10 ^ K) (hb : BndT K (ps M)) (hl : M.length ≤ 100) (hK : K ≤ 700) :
    Calls Tryz.prog 18 #[v] w fun e w' => RIsE w M e w' := by
  obtain ⟨cn, ca, cL, cc, pa, pl, pc, rfl⟩ := h.form
  have hba := bel w (.cells #[.bool cn, .slice ca cL cc, .slice pa pl pc] 35)
  have hno := rnormT_calls (h.below hba) hc hb hl hK
  have HBA := hide hba
  clear hba h hb hc
  go_enter Tryz.func18, Tryz.ntmps18
  go_wp2_with fail
  refine hno.mono ?_
  rintro e w1 ⟨v1, M1, rfl, ht1, ⟨hn1, hc1⟩, hb1⟩
  obtain ⟨_, _, _, _, _, _, _, rfl, _, ⟨_, _, e, _, _, _⟩, _⟩ := ht1
  simp only [Value.slice.injEq] at e
  obtain ⟨rfl, rfl, rfl⟩ := e
  have HN1 := hide hn1
  have HC1 := hide hc1
  have HB1 := hide (bafter HBA.out hb1 (Nat.le_refl _))
  have hdec : (((M1.length : Nat) : Int) == 0) = decide ((ps M1).length = 0) := by
    rw [ps_length]
    by_cases h0 : M1.length = 0
    · simp [h0]
    · rw [decide_eq_false h0, beq_eq_false_iff_ne]
      omega
  have hfp := field_parts w1
  generalize hdv : decide ((ps M1).length = 0) = dv at *
  have HDV := hide hdv
  clear hno hn1 hc1 hb1 hdv
  go_wp2
  go_ret
  exact ⟨ps M1, by rw [HDV.out]; rfl, HN1.out, HC1.out, HB1.out⟩

set_option maxHeartbeats 4000000 in
theorem raddT_calls {K : Nat} {w : World} {u v : Value} {c d : Int} {A B : List Pt} (h : RTerm w u c A) (g : RTerm w v d B) (hc : c.natAbs < 10 ^ K) (hd : d.natAbs < 10 ^ K) (ha : BndT K (ps A)) (hb : BndT K (ps B)) (hla : A.length ≤ 50) (hlb : B.length ≤ 50) (hK : K ≤ 600) :
    Calls Tryz.prog 27 #[u, v] w fun e w' => RTermE w (c + d) (fun l => NF l ∧ ∀ x, cf x l = cf x (ps A) + cf x (ps B)) e w' := by
  obtain ⟨cn, ca, cL, cc, pa, pl, pc, rfl, h1, h2, h3⟩ := id h
  obtain ⟨dn, da, dL, dc, qa, ql, qc, rfl, g1, g2, g3⟩ := id g
  have tb := ((Thr.new w (.bool cn) (.slice ca cL cc) (.slice pa pl pc) 35).alloc (.cells #[.bool dn, .slice da dL dc, .slice qa ql qc] 35)).alloc (.cells #[.bool false, .slice none 0 0, .slice none 0 0] 35)
  have tc := (Thr.new1 w (.cells #[.bool cn, .slice ca cL cc, .slice pa pl pc] 35) (.bool dn) (.slice da dL dc) (.slice qa ql qc) 35).alloc (.cells #[.bool false, .slice none 0 0, .slice none 0 0] 35)
  have tz := Thr.new2 w (.cells #[.bool cn, .slice ca cL cc, .slice pa pl pc] 35) (.cells #[.bool dn, .slice da dL dc, .slice qa ql qc] 35) (.bool false) (.slice none 0 0) (.slice none 0 0) 35
  have hba := bel3 w (.cells #[.bool cn, .slice ca cL cc, .slice pa pl pc] 35) (.cells #[.bool dn, .slice da dL dc, .slice qa ql qc] 35) (.cells #[.bool false, .slice none 0 0, .slice none 0 0] 35)
  generalize hwA : ((w.alloc (.cells #[.bool cn, .slice ca cL cc, .slice pa pl pc] 35)).alloc (.cells #[.bool dn, .slice da dL dc, .slice qa ql qc] 35)).alloc (.cells #[.bool false, .slice none 0 0, .slice none 0 0] 35) = wA at *
  have hadd := rnadd_calls (K := K) ((h1.below hba).arg hc) ((g1.below hba).arg hd) (by omega)
  have HWA := hide hwA
  have TB := hide tb
  have TC := hide tc
  have TZ := hide tz
  have HBA := hide hba
  have HRA := hide h2
  have HRB := hide g2
  have HGA := hide h3
  have HGB := hide g3
  have HBDA := hide ha
  have HBDB := hide hb
  have HCD : Hid ((c + d).natAbs < 10 ^ (K + 1)) := ten_add hc hd
  obtain ⟨c0, c1, c2, _, _, _⟩ := tb.every
  obtain ⟨e0, e1, e2, _, _, _⟩ := tc.every
  clear hwA tb tc tz hba h1 h2 h3 g1 g2 g3 h g ha hb hc hd
  go_enter Tryz.func27, Tryz.ntmps27
  go_upto_region 1 with fail
  rw [HWA.out]
  go_wp2_with fail
  refine hadd.mono ?_
  rintro e w1 ⟨v1, rfl, hr1, hb1⟩
  obtain ⟨nb, na, nL, nc, rfl⟩ := hr1.form
  have hbx := bel w1 (.cells #[.bool nb, .slice na nL nc, .slice none 0 0] 35)
  have t5 := Thr.new w1 (.bool nb) (.slice na nL nc) (.slice none 0 0) 35
  have TB1 := hide ((TB.out.keep hb1).keep hbx)
  have TC1 := hide ((TC.out.keep hb1).keep hbx)
  have TZ1 := hide ((TZ.out.keep hb1).keep hbx)
  have HR1 := hide (hr1.below hbx)
  have hB1 := bafter (bafter HBA.out hb1 (Nat.le_refl _)) hbx (Nat.le_refl _)
  have hs1 : w.heap.size + 2 < w1.heap.size := by have := TZ.out.lt; have := hb1.size; omega
  generalize hwx : w1.alloc (.cells #[.bool nb, .slice na nL nc, .slice none 0 0] 35) = wx at *
  have HWX := hide hwx
  -- the first parts
  obtain ⟨v3, w3, hrun3, ho3, hg3, _, hk3⟩ := run_appQ wx wx.heap.size 33 _ [] (OwnQ.nil _ _) _ A (HRA.out.below hB1) (HGA.out.sl.one) (by simp only [List.length_nil]; omega) (Nat.le_refl _)
  obtain ⟨oa3, oc3, rfl, _, _⟩ := ho3.len
  have hb3 : Below wx.heap.size wx w3 := (Below.refl _ _).grown hg3 (Nat.le_refl _) (fun j hj => by simp [Value.ownBlock] at hj)
  have t53 := t5.keep hb3
  have hbut3 : ButN w1.heap.size w3 (w3.setCell ⟨w1.heap.size, 2, none⟩ (.slice oa3 ([] ++ A).length oc3)) := ⟨t53.noInt, fun k hk => heap_setCell_other w3 ⟨w1.heap.size, 2, none⟩ k _ hk⟩
  have t54 : Thr (w3.setCell ⟨w1.heap.size, 2, none⟩ (.slice oa3 ([] ++ A).length oc3)) w1.heap.size (.bool nb) (.slice na nL nc) (.slice oa3 ([] ++ A).length oc3) 35 := heap_setCell_same w3 w1.heap.size 2 _ _ _ t53
  have hap3 := ho3.apart t53 (by decide)
  have ho4 : OwnQ wx.heap.size (w3.setCell ⟨w1.heap.size, 2, none⟩ (.slice oa3 ([] ++ A).length oc3)) (.slice oa3 ([] ++ A).length oc3) ([] ++ A) := ho3.block (fun j hj => hbut3.same j (fun e => hap3 (by rw [← e]; exact hj)))
  have hB4 : Below w.heap.size w (w3.setCell ⟨w1.heap.size, 2, none⟩ (.slice oa3 ([] ++ A).length oc3)) := (hB1.trans (hb3.mono hB1.size)).setCell (p := ⟨w1.heap.size, 2, none⟩) (by show _ ≤ w1.heap.size; omega) _
  have hsz4 : wx.heap.size ≤ (w3.setCell ⟨w1.heap.size, 2, none⟩ (.slice oa3 ([] ++ A).length oc3)).heap.size := by have := hb3.size; simp; omega
  have keep4 : ∀ b, b ≠ w1.heap.size → b < wx.heap.size → (w3.setCell ⟨w1.heap.size, 2, none⟩ (.slice oa3 ([] ++ A).length oc3)).heap[b]? = wx.heap[b]? := fun b h1 h2 => (hbut3.same b h1).trans (hb3.block b h2)
  have hkr4 : KR wx (w3.setCell ⟨w1.heap.size, 2, none⟩ (.slice oa3 ([] ++ A).length oc3)) := hk3.trans hbut3.kr
  obtain ⟨y0, y1, y2, y3, y4, y5⟩ := t53.every
  obtain ⟨x0, x1, x2, _, _, _⟩ := t5.every
  have q0 := TB1.out.c2
  have hlt : w1.heap.size < wx.heap.size := t5.lt
  have H3A := hide ((TB1.out.keep hb3).c2)
  have TB4 := hide ((keep4 _ (by omega) (by omega)).trans TB1.out : Thr _ w.heap.size (.bool cn) (.slice ca cL cc) (.slice pa pl pc) 35)
  have TC4 := hide ((keep4 _ (by omega) (by omega)).trans TC1.out : Thr _ (w.heap.size + 1) (.bool dn) (.slice da dL dc) (.slice qa ql qc) 35)
  have TZ4 := hide ((keep4 _ (by omega) (by omega)).trans TZ1.out : Thr _ (w.heap.size + 2) (.bool false) (.slice none 0 0) (.slice none 0 0) 35)
  have T54 := hide t54
  have HO4 := hide ho4
  have HB4 := hide hB4
  have HSZ4 := hide hsz4
  have HR4 := hide (HR1.out.kr hkr4)
  generalize hw4 : w3.setCell ⟨w1.heap.size, 2, none⟩ (.slice oa3 ([] ++ A).length oc3) = w4 at *
  have HW4 := hide hw4
  have HLT := hide hlt
  have HS1 := hide hs1
  simp only [List.nil_append] at T54 HO4 hrun3 hw4 HW4
  generalize hAl : A.length = Al at *
  have HAL := hide hAl
  clear hadd hr1 hb1 hbx t5 hB1 hwx ho3 hg3 hk3 hb3 t53 hbut3 t54 hap3 ho4 hB4 hsz4 keep4 hkr4 hw4 hlt hs1 c0 c1 c2 e0 e1 e2 hAl
  go_upto_region 2 with fail
  rw [HWX.out]
  go_upto_region 3 with (at_builtin; go_must (refine Lib.wpList_append_run _ rfl _ _ _ _ rfl _ _ rfl rfl _ _ hrun3 ?_))
  rw [HW4.out]
  clear hrun3 y0 y1 y2 y3 y4 y5 x0 x1 x2 q0
  obtain ⟨v5, w5, hrun5, ho5, hg5, _, hk5⟩ := run_appQ w4 wx.heap.size 33 _ A (by have h9 := HAL.out; subst h9; exact HO4.out) _ B (HRB.out.below HB4.out) (HGB.out.sl.one) (by have := HAL.out; omega) HSZ4.out
  obtain ⟨oa5, oc5, rfl, _, _⟩ := ho5.len
  have hown : ∀ b, b < wx.heap.size → (Value.slice oa3 A.length oc3).ownBlock ≠ some b := fun b hb e => by
    have h9 := HAL.out
    subst h9
    have := (HO4.out.lt e).1
    omega
  have keep5 : ∀ b, b < wx.heap.size → w5.heap[b]? = w4.heap[b]? := fun b hb => hg5.block b (by have := HSZ4.out; omega) (fun e => hown b hb e.symm)
  have t55 : Thr w5 w1.heap.size (.bool nb) (.slice na nL nc) (.slice oa3 Al oc3) 35 := (keep5 _ HLT.out).trans T54.out
  have hbut5 : ButN w1.heap.size w5 (w5.setCell ⟨w1.heap.size, 2, none⟩ (.slice oa5 (A ++ B).length oc5)) := ⟨t55.noInt, fun k hk => heap_setCell_other w5 ⟨w1.heap.size, 2, none⟩ k _ hk⟩
  have t56 : Thr (w5.setCell ⟨w1.heap.size, 2, none⟩ (.slice oa5 (A ++ B).length oc5)) w1.heap.size (.bool nb) (.slice na nL nc) (.slice oa5 (A ++ B).length oc5) 35 := heap_setCell_same w5 w1.heap.size 2 _ _ _ t55
  have hap5 := ho5.apart t55 (by decide)
  have ho6 : OwnQ wx.heap.size (w5.setCell ⟨w1.heap.size, 2, none⟩ (.slice oa5 (A ++ B).length oc5)) (.slice oa5 (A ++ B).length oc5) (A ++ B) := ho5.block (fun j hj => hbut5.same j (fun e => hap5 (by rw [← e]; exact hj)))
  have hB6 : Below w.heap.size w (w5.setCell ⟨w1.heap.size, 2, none⟩ (.slice oa5 (A ++ B).length oc5)) := (HB4.out.grown hg5 HB4.out.size (fun j hj => by
    have h9 := HAL.out
    subst h9
    have := (HO4.out.lt hj).1
    have := HS1.out
    have := HLT.out
    omega)).setCell (p := ⟨w1.heap.size, 2, none⟩) (by have := HS1.out; show _ ≤ w1.heap.size; omega) _
  have TZ6 : Hid (Thr (w5.setCell ⟨w1.heap.size, 2, none⟩ (.slice oa5 (A ++ B).length oc5)) (w.heap.size + 2) (.bool false) (.slice none 0 0) (.slice none 0 0) 35) := ((hbut5.same _ (by have := HS1.out; omega)).trans (keep5 _ (by have := HS1.out; have := HLT.out; omega))).trans TZ4.out
  have hrt : RTerm (w5.setCell ⟨w1.heap.size, 2, none⟩ (.slice oa5 (A ++ B).length oc5)) (.agg #[.bool nb, .slice na nL nc, .slice oa5 (A ++ B).length oc5]) (c + d) (A ++ B) :=
    ⟨_, _, _, _, _, _, _, rfl, (HR4.out.kr hk5).kr hbut5.kr, ho6.row, fun m hm => (List.mem_append.1 hm).elim (fun h => (HGA.out.below hB6) m h) (fun h => (HGB.out.below hB6) m h)⟩
  have hno := rnormT_calls (K := K + 1) hrt HCD.out (fun p hp => by
    rw [ps_append] at hp
    rcases List.mem_append.1 hp with h | h
    · exact ten_up (HBDA.out p h) (by omega)
    · exact ten_up (HBDB.out p h) (by omega)) (by rw [List.length_append]; have := HAL.out; omega) (by omega)
  have HB6 := hide hB6
  obtain ⟨x0, x1, x2, x3, x4, x5⟩ := t55.every
  obtain ⟨y0, y1, y2, _, _, _⟩ := t56.every
  obtain ⟨z0, z1, z2, _, _, _⟩ := T54.out.every
  have q0 := Thr.c2 (W := w4) (b := w.heap.size + 1) (t := 35) TC4.out
  generalize hw6 : w5.setCell ⟨w1.heap.size, 2, none⟩ (.slice oa5 (A ++ B).length oc5) = w6 at *
  have HW6 := hide hw6
  generalize hABl : (A ++ B).length = ABl at *
  have hAl := HAL.out
  rw [hAl] at hrun5
  clear hg5 hk5 hown keep5 t55 hbut5 t56 hap5 ho5 ho6 hB6 hw6 hABl hAl hrt
  go_upto_region 4 with (at_builtin; go_must (refine Lib.wpList_append_run _ rfl _ _ _ _ rfl _ _ rfl rfl _ _ hrun5 ?_))
  rw [HW6.out]
  clear hrun5 x0 x1 x2 x3 x4 x5 z0 z1 z2 q0
  go_wp2_with fail
  refine hno.mono ?_
  rintro e w7 ⟨v7, M7, rfl, ht7, ⟨hn7, hc7⟩, hb7⟩
  obtain ⟨fn, fa, fL, fc, ta, tl, tc, rfl⟩ := ht7.form
  have TZ7 := hide (TZ6.out.keep hb7)
  have HB7 := hide (bafter HB6.out hb7 (Nat.le_refl _))
  have HT7 := hide ht7
  have HN7 := hide hn7
  have HC7 := hide hc7
  obtain ⟨d0, d1, d2, f0, f1, f2⟩ := TZ7.out.every
  clear hno ht7 hn7 hc7 hb7 y0 y1 y2
  go_wp2
  refine bodyPost_ret (results_rterm rfl rfl (TZ7.out.put _ _ _)) rfl ?_
  exact ⟨_, M7, rfl, HT7.out.but (TZ7.out.but _ _ _), ⟨HN7.out, fun x => by rw [HC7.out, ps_append, cf_append]⟩, put3_below HB7.out (by omega) _ _ _⟩

end Go.Proofs.YtkdhcpfmlelfcaaGreatDoor

namespace Go.Proofs.YtkdhcpfmlelfcaaGreatDoor
set_option linter.unusedVariables false
set_option linter.unusedSimpArgs false
set_option maxRecDepth 100000
open Go Go.RowKit Go.Shelf Go.Lib

theorem bndT_times {l : Ps} {k j : Nat} {z : Int} (h : BndT k l) (hz : z.natAbs < 10 ^ j) : BndT (k + j) (times z l) := fun p hp => by
  obtain ⟨q, hq, rfl⟩ := List.mem_map.1 hp
  show (q.2 * z).natAbs < _
  rw [Int.natAbs_mul, Nat.pow_add]
  exact Nat.mul_lt_mul'' (h q hq) hz
theorem times_take_step {M : List Pt} {i : Nat} {m : Pt} {z : Int} (h : M[i]? = some m) : times z (ps (M.take (i + 1))) = times z (ps (M.take i)) ++ [(m.1, m.2.2.2 * z)] := by
  rw [ps_take_step h]
  simp [times, pt]

set_option maxHeartbeats 8000000 in
theorem rscaleT_calls {K : Nat} {w : World} {v u : Value} {c y : Int} {M : List Pt} (h : RTerm w v c M) (g : NRes w u y) (hc : c.natAbs < 10 ^ K) (hy : y.natAbs < 10 ^ K) (hb : BndT K (ps M)) (hl : M.length ≤ 50) (hK : K ≤ 300) :
    Calls Tryz.prog 31 #[v, u] w fun e w' => RTermE w (c * y) (fun l => NF l ∧ ∀ x, cf x l = cf x (ps M) * y) e w' := by
  obtain ⟨cn, ca, cL, cc, pa, pl, pc, rfl, h1, hr, hg⟩ := h
  obtain ⟨_, _, e, _, _, h3⟩ := hr
  simp only [Value.slice.injEq] at e
  obtain ⟨rfl, rfl, rfl⟩ := e
  generalize hLn : M.length = Ln at *
  have HLN := hide hLn
  have H3 := hide h3
  have HG := hide hg
  have HBD := hide hb
  obtain ⟨dn, da, dL, dc, rfl⟩ := g.form
  have tb := ((Thr.new w (.bool cn) (.slice ca cL cc) (.slice pa Ln pc) 35).alloc (.cells #[.bool dn, .slice da dL dc] 32)).alloc (.cells #[.bool false, .slice none 0 0, .slice none 0 0] 35)
  have tn := (Two.new1 w (.cells #[.bool cn, .slice ca cL cc, .slice pa Ln pc] 35) (.bool dn) (.slice da dL dc) 32).alloc (.cells #[.bool false, .slice none 0 0, .slice none 0 0] 35)
  have tz := Thr.new2 w (.cells #[.bool cn, .slice ca cL cc, .slice pa Ln pc] 35) (.cells #[.bool dn, .slice da dL dc] 32) (.bool false) (.slice none 0 0) (.slice none 0 0) 35
  have hba := bel3 w (.cells #[.bool cn, .slice ca cL cc, .slice pa Ln pc] 35) (.cells #[.bool dn, .slice da dL dc] 32) (.cells #[.bool false, .slice none 0 0, .slice none 0 0] 35)
  have hmul := rnmul_calls (K := K) ((h1.below hba).arg hc) ((g.below hba).arg hy) (by omega)
  generalize hwA : ((w.alloc (.cells #[.bool cn, .slice ca cL cc, .slice pa Ln pc] 35)).alloc (.cells #[.bool dn, .slice da dL dc] 32)).alloc (.cells #[.bool false, .slice none 0 0, .slice none 0 0] 35) = wA at *
  have HWA := hide hwA
  have TB := hide tb
  have TN := hide tn
  have TZ := hide tz
  have HBA := hide hba
  have HY := hide hy
  have HGN := hide g
  have HCY : Hid ((c * y).natAbs < 10 ^ (K + K)) := by
    show (c * y).natAbs < _
    rw [Int.natAbs_mul, Nat.pow_add]
    exact Nat.mul_lt_mul'' hc hy
  obtain ⟨c0, c1, c2, _, _, _⟩ := tb.every
  obtain ⟨e0, e1, _, _, _, _⟩ := tn.every
  clear hwA tb tn tz hba h1 h3 hg hLn hb hc hy g
  go_enter Tryz.func31, Tryz.ntmps31
  go_upto_region 1 with fail
  rw [HWA.out]
  go_wp2_with fail
  refine hmul.mono ?_
  rintro e w1 ⟨v1, rfl, hr1, hb1⟩
  obtain ⟨nb, na, nL, nc, rfl⟩ := hr1.form
  have hbx := bel w1 (.cells #[.bool nb, .slice na nL nc, .slice none 0 0] 35)
  have HST : Hid (RJ w1.heap.size w1.heap.size (fun W => Thr W w.heap.size (.bool cn) (.slice ca cL cc) (.slice pa Ln pc) 35 ∧ Two W (w.heap.size + 1) (.bool dn) (.slice da dL dc) 32 ∧ Thr W (w.heap.size + 2) (.bool false) (.slice none 0 0) (.slice none 0 0) 35) (c * y) nb na nL nc (w1.alloc (.cells #[.bool nb, .slice na nL nc, .slice none 0 0] 35)) [] none 0) :=
    ⟨Thr.new w1 _ _ _ _, hr1.below hbx, OwnQ.nil _ _, fun m hm => (by cases hm), (TB.out.keep hb1).keep hbx, (TN.out.keep hb1).keep hbx, (TZ.out.keep hb1).keep hbx⟩
  have HB1 := hide (bafter (bafter HBA.out hb1 (Nat.le_refl _)) hbx (Nat.le_refl _))
  have HN1 : Hid (w.heap.size + 3 ≤ w1.heap.size) := by
    have h1 := TZ.out.lt
    have h2 := hb1.size
    show _ ≤ _
    omega
  clear hmul hr1 hb1 hbx c0 c1 c2 e0 e1
  go_wp2
  go_loopw [6] (fun iv wr => ∃ (i : Nat) (X : List Pt) (oa : Option Addr) (oc : Nat), i ≤ Ln ∧ iv = .int .i64 (i : Int) ∧ RJ w1.heap.size w1.heap.size (fun W => Thr W w.heap.size (.bool cn) (.slice ca cL cc) (.slice pa Ln pc) 35 ∧ Two W (w.heap.size + 1) (.bool dn) (.slice da dL dc) 32 ∧ Thr W (w.heap.size + 2) (.bool false) (.slice none 0 0) (.slice none 0 0) 35) (c * y) nb na nL nc wr X oa oc ∧ ps X = times y (ps (M.take i)) ∧ Below w.heap.size w wr) (fun iv _ => Ln - (RowKit.intOf iv).toNat)
  case atStart => exact ⟨0, [], _, _, Nat.zero_le _, rfl, HST.out, by simp [times, ps], HB1.out⟩
  case round =>
    obtain ⟨i, X, oa, oc, hi, rfl, hj, hps, hbw⟩ := hrel
    obtain ⟨c0, c1, c2, _, _, _⟩ := hj.oth.1.every
    have HJ := hide hj
    have HPS := hide hps
    have HBW := hide hbw
    clear hj hps hbw
    by_cases hlt : i < Ln
    · obtain ⟨⟨vr, neg, mv, z⟩, hm⟩ : ∃ m, M[i]? = some m := ⟨_, List.getElem?_eq_getElem (by rw [HLN.out]; exact hlt)⟩
      obtain ⟨ma, mL, mc, e⟩ := HG.out.sl _ (List.mem_of_getElem? hm)
      simp only at e
      subst e
      obtain ⟨b, o, rfl, hc⟩ := H3.out i _ hm
      have HC : Hid (∀ W, Below w.heap.size w W → CellsP W b (o + i * 3) (vr, neg, .slice ma mL mc, z)) := fun W h => hc.below h
      have hgm := HG.out _ (List.mem_of_getElem? hm)
      have hzb : z.natAbs < 10 ^ K := HBD.out (vr, z) (List.mem_map.2 ⟨_, List.mem_of_getElem? hm, rfl⟩)
      have HRG := hide hgm.1
      have d1 : (i : Int) < (Ln : Int) := by omega
      have d0 : (0 : Int) ≤ (i : Int) := by omega
      have HM := hide hm
      have HMUL := hide (fun (W : World) (h : Below wr.heap.size wr W) => rnmul_calls (K := K) ((hgm.2.below (bafter HBW.out h (Nat.le_refl _))).arg hzb) ((HGN.out.below (bafter HBW.out h (Nat.le_refl _))).arg HY.out) (by omega))
      have HXL : Hid (X.length ≤ 50) := by
        have h1 := congrArg List.length HPS.out
        rw [times_length, ps_length, ps_length, List.length_take] at h1
        have h2 := HLN.out
        show _ ≤ _
        omega
      clear hm hc hgm hzb
      have HS : Hid (∀ Y : World, Below wr.heap.size wr Y → Y.cell? ⟨w.heap.size, 2, none⟩ = some (.slice (some ⟨b, o, none⟩) Ln pc) ∧ Y.cell? ⟨b, o + i * 3, none⟩ = some (.int .i64 vr) ∧ Y.cell? ⟨b, o + i * 3 + 1, none⟩ = some (.bool neg) ∧ Y.cell? ⟨b, o + i * 3 + 2, none⟩ = some (.slice ma mL mc) ∧ Y.cell? ⟨w.heap.size + 1, 0, none⟩ = some (.bool dn) ∧ Y.cell? ⟨w.heap.size + 1, 1, none⟩ = some (.slice da dL dc)) := fun Y hY => by
        obtain ⟨h2, h3, h4⟩ := HC.out Y (bafter HBW.out hY (Nat.le_refl _))
        exact ⟨(HJ.out.oth.1.keep hY).c2, h2, h3, h4, (HJ.out.oth.2.1.keep hY).c0, (HJ.out.oth.2.1.keep hY).c1⟩
      go_upto_region 5 with fail
      refine wp_region_held_drew (S := fun Y : World => Y.cell? ⟨w.heap.size, 2, none⟩ = some (.slice (some ⟨b, o, none⟩) Ln pc) ∧ Y.cell? ⟨b, o + i * 3, none⟩ = some (.int .i64 vr) ∧ Y.cell? ⟨b, o + i * 3 + 1, none⟩ = some (.bool neg) ∧ Y.cell? ⟨b, o + i * 3 + 2, none⟩ = some (.slice ma mL mc) ∧ Y.cell? ⟨w.heap.size + 1, 0, none⟩ = some (.bool dn) ∧ Y.cell? ⟨w.heap.size + 1, 1, none⟩ = some (.slice da dL dc)) (by kernel_rfl) ?_ (fun hHeld => ?_)
      · exact HS.out _ (by (first | exact (Below.refl _ _).drew | exact Below.refl _ _))
      refine takeD (i := 0) (v := ?v1) (some 19) rfl (by kernel_rfl) (by kernel_rfl) (by kernel_rfl) (fun _ _ _ h => h) (Or.inl ⟨by rfl, ?hy1⟩) (by assumption) (by rfl) ?rest1
      case hy1 => first | (intro w hSw; (try dsimp only at hSw); obtain ⟨q0, q1, q2, q3, q4, q5⟩ := hSw; go_simp; done) | (intro w hSw; (try dsimp only at hSw); obtain ⟨q0, q1, q2, q3, q4, q5⟩ := hSw; go_simp; with_reducible rfl)
      try simp only [Act.put, List.setIfInBounds_toArray, List.set_cons_zero, List.set_cons_succ]
      refine takeD (i := 2) (v := ?v2) (some 21) rfl (by kernel_rfl) (by kernel_rfl) (by kernel_rfl) (fun _ _ _ h => h) (Or.inl ⟨by rfl, ?hy2⟩) (by assumption) (by rfl) ?rest2
      case hy2 => first | (intro w hSw; (try dsimp only at hSw); obtain ⟨q0, q1, q2, q3, q4, q5⟩ := hSw; go_simp; done) | (intro w hSw; (try dsimp only at hSw); obtain ⟨q0, q1, q2, q3, q4, q5⟩ := hSw; go_simp; with_reducible rfl)
      try simp only [Act.put, List.setIfInBounds_toArray, List.set_cons_zero, List.set_cons_succ]
      refine takeD (i := 3) (v := ?v3) (some 22) rfl (by kernel_rfl) (by kernel_rfl) (by kernel_rfl) (fun _ _ _ h => h) (Or.inl ⟨by rfl, ?hy3⟩) (by assumption) (by rfl) ?rest3
      case hy3 => first | (intro w hSw; (try dsimp only at hSw); obtain ⟨q0, q1, q2, q3, q4, q5⟩ := hSw; go_simp; done) | (intro w hSw; (try dsimp only at hSw); obtain ⟨q0, q1, q2, q3, q4, q5⟩ := hSw; go_simp; with_reducible rfl)
      try simp only [Act.put, List.setIfInBounds_toArray, List.set_cons_zero, List.set_cons_succ]
      refine takeD (i := 4) (v := ?v4) (some 23) rfl (by kernel_rfl) (by kernel_rfl) (by kernel_rfl) (fun _ _ _ h => h) (Or.inl ⟨by rfl, ?hy4⟩) (by assumption) (by rfl) ?rest4
      case hy4 => first | (intro w hSw; (try dsimp only at hSw); obtain ⟨q0, q1, q2, q3, q4, q5⟩ := hSw; go_simp; done) | (intro w hSw; (try dsimp only at hSw); obtain ⟨q0, q1, q2, q3, q4, q5⟩ := hSw; go_simp; with_reducible rfl)
      try simp only [Act.put, List.setIfInBounds_toArray, List.set_cons_zero, List.set_cons_succ]
      refine takeD (i := 5) (v := ?v5) (some 24) rfl (by kernel_rfl) (by kernel_rfl) (by kernel_rfl) (fun _ _ _ h => h) (Or.inl ⟨by rfl, ?hy5⟩) (by assumption) (by rfl) ?rest5
      case hy5 => first | (intro w hSw; (try dsimp only at hSw); obtain ⟨q0, q1, q2, q3, q4, q5⟩ := hSw; go_simp; done) | (intro w hSw; (try dsimp only at hSw); obtain ⟨q0, q1, q2, q3, q4, q5⟩ := hSw; go_simp; with_reducible rfl)
      try simp only [Act.put, List.setIfInBounds_toArray, List.set_cons_zero, List.set_cons_succ]
      refine takeD (i := 6) (v := ?v6) (some 25) rfl (by kernel_rfl) (by kernel_rfl) (by kernel_rfl) (fun _ _ _ h => h) (Or.inl ⟨by rfl, ?hy6⟩) (by assumption) (by rfl) ?rest6
      case hy6 => first | (intro w hSw; (try dsimp only at hSw); obtain ⟨q0, q1, q2, q3, q4, q5⟩ := hSw; go_simp; done) | (intro w hSw; (try dsimp only at hSw); obtain ⟨q0, q1, q2, q3, q4, q5⟩ := hSw; go_simp; with_reducible rfl)
      try simp only [Act.put, List.setIfInBounds_toArray, List.set_cons_zero, List.set_cons_succ]
      refine takeD (i := 7) (v := ?v7) (some 26) rfl (by kernel_rfl) (by kernel_rfl) (by kernel_rfl) (fun _ _ _ h => h) (Or.inl ⟨by rfl, ?hy7⟩) (by assumption) (by rfl) ?rest7
      case hy7 => first | (intro w hSw; (try dsimp only at hSw); obtain ⟨q0, q1, q2, q3, q4, q5⟩ := hSw; go_simp; done) | (intro w hSw; (try dsimp only at hSw); obtain ⟨q0, q1, q2, q3, q4, q5⟩ := hSw; go_simp; with_reducible rfl)
      try simp only [Act.put, List.setIfInBounds_toArray, List.set_cons_zero, List.set_cons_succ]
      refine takeD (i := 8) (v := ?v8) (some 27) rfl (by kernel_rfl) (by kernel_rfl) (by kernel_rfl) (fun _ _ _ h => h) (Or.inl ⟨by rfl, ?hy8⟩) (by assumption) (by rfl) ?rest8
      case hy8 => first | (intro w hSw; (try dsimp only at hSw); obtain ⟨q0, q1, q2, q3, q4, q5⟩ := hSw; go_simp; done) | (intro w hSw; (try dsimp only at hSw); obtain ⟨q0, q1, q2, q3, q4, q5⟩ := hSw; go_simp; with_reducible rfl)
      try simp only [Act.put, List.setIfInBounds_toArray, List.set_cons_zero, List.set_cons_succ]
      refine takeD (i := 9) (v := ?v9) (some 28) rfl (by kernel_rfl) (by kernel_rfl) (by kernel_rfl) (fun _ _ _ h => h) (Or.inl ⟨by rfl, ?hy9⟩) (by assumption) (by rfl) ?rest9
      case hy9 => first | (intro w hSw; (try dsimp only at hSw); obtain ⟨q0, q1, q2, q3, q4, q5⟩ := hSw; go_simp; done) | (intro w hSw; (try dsimp only at hSw); obtain ⟨q0, q1, q2, q3, q4, q5⟩ := hSw; go_simp; with_reducible rfl)
      try simp only [Act.put, List.setIfInBounds_toArray, List.set_cons_zero, List.set_cons_succ]
      refine takeD (i := 10) (v := ?v10) (some 29) rfl (by kernel_rfl) (by kernel_rfl) (by kernel_rfl) (fun _ _ _ h => h) (Or.inl ⟨by rfl, ?hy10⟩) (by assumption) (by rfl) ?rest10
      case hy10 => first | (intro w hSw; (try dsimp only at hSw); obtain ⟨q0, q1, q2, q3, q4, q5⟩ := hSw; go_simp; done) | (intro w hSw; (try dsimp only at hSw); obtain ⟨q0, q1, q2, q3, q4, q5⟩ := hSw; go_simp; with_reducible rfl)
      try simp only [Act.put, List.setIfInBounds_toArray, List.set_cons_zero, List.set_cons_succ]
      refine takeD (i := 11) (v := ?v11) (some 30) rfl (by kernel_rfl) (by kernel_rfl) (by kernel_rfl) (fun _ _ _ h => h) (Or.inl ⟨by rfl, ?hy11⟩) (by assumption) (by rfl) ?rest11
      case hy11 => first | (intro w hSw; (try dsimp only at hSw); obtain ⟨q0, q1, q2, q3, q4, q5⟩ := hSw; go_simp; done) | (intro w hSw; (try dsimp only at hSw); obtain ⟨q0, q1, q2, q3, q4, q5⟩ := hSw; go_simp; with_reducible rfl)
      try simp only [Act.put, List.setIfInBounds_toArray, List.set_cons_zero, List.set_cons_succ]
      refine takeD (i := 12) (v := ?v12) (some 31) rfl (by kernel_rfl) (by kernel_rfl) (by kernel_rfl) (fun _ _ _ h => h) (Or.inl ⟨by rfl, ?hy12⟩) (by assumption) (by rfl) ?rest12
      case hy12 => first | (intro w hSw; (try dsimp only at hSw); obtain ⟨q0, q1, q2, q3, q4, q5⟩ := hSw; go_simp; done) | (intro w hSw; (try dsimp only at hSw); obtain ⟨q0, q1, q2, q3, q4, q5⟩ := hSw; go_simp; with_reducible rfl)
      try simp only [Act.put, List.setIfInBounds_toArray, List.set_cons_zero, List.set_cons_succ]
      refine takeD (i := 13) (v := ?v13) (some 32) rfl (by kernel_rfl) (by kernel_rfl) (by kernel_rfl) (fun _ _ _ h => h) (Or.inl ⟨by rfl, ?hy13⟩) (by assumption) (by rfl) ?rest13
      case hy13 => first | (intro w hSw; (try dsimp only at hSw); obtain ⟨q0, q1, q2, q3, q4, q5⟩ := hSw; go_simp; done) | (intro w hSw; (try dsimp only at hSw); obtain ⟨q0, q1, q2, q3, q4, q5⟩ := hSw; go_simp; with_reducible rfl)
      try simp only [Act.put, List.setIfInBounds_toArray, List.set_cons_zero, List.set_cons_succ]
      refine takeD (i := 14) (v := ?v14) (some 33) rfl (by kernel_rfl) (by kernel_rfl) (by kernel_rfl) (fun _ _ _ h => h) (Or.inl ⟨by rfl, ?hy14⟩) (by assumption) (by rfl) ?rest14
      case hy14 => first | (intro w hSw; (try dsimp only at hSw); obtain ⟨q0, q1, q2, q3, q4, q5⟩ := hSw; go_simp; done) | (intro w hSw; (try dsimp only at hSw); obtain ⟨q0, q1, q2, q3, q4, q5⟩ := hSw; go_simp; with_reducible rfl)
      try simp only [Act.put, List.setIfInBounds_toArray, List.set_cons_zero, List.set_cons_succ]
      refine wpAnyH_ready (rs := [1, 15]) (by kernel_rfl) (by simp) ?_
      refine AllReadyH.cons rfl (fun K hK => ?_) (AllReadyH.cons rfl (fun K hK => ?_) AllReadyH.nil)
      · have u0 := (HJ.out.box.keep ((Below.refl _ wr).drew)).c2
        go_simp
        refine hK.out _ _ (HS.out _ ((Below.refl _ _).drew)) (fun hHeld => ?_)
        clear hK K
        try simp only [Act.put, List.setIfInBounds_toArray, List.set_cons_zero, List.set_cons_succ]
        clear u0
        refine wpAnyH_ready (rs := [15]) (by kernel_rfl) (by simp) ?_
        refine AllReadyH.cons rfl (fun K hK => ?_) AllReadyH.nil
        go_simp
        refine (HMUL.out _ (by (first | exact (Below.refl _ _).drew | exact Below.refl _ _))).mono ?_
        rintro e w4 ⟨v4, rfl, hr4, hb4⟩
        obtain ⟨rb, ra, rL, rc, rfl⟩ := hr4.form
        have HB4 : Hid (Below wr.heap.size wr w4) := bafter (by (first | exact (Below.refl _ _).drew | exact Below.refl _ _)) hb4 (Nat.le_refl _)
        have HR4 := hide hr4
        clear hr4 hb4 hHeld
        go_wp2_with fail
        refine hK.out _ _ (HS.out _ HB4.out) (fun hHeld => ?_)
        clear hK K
        try simp only [Act.put, List.setIfInBounds_toArray, List.set_cons_zero, List.set_cons_succ]
        refine takeD (i := 16) (v := ?v15) (some 35) rfl (by kernel_rfl) (by kernel_rfl) (by kernel_rfl) (fun _ _ _ h => h) (Or.inl ⟨by rfl, ?hy15⟩) (by assumption) (by rfl) ?rest15
        case hy15 => first | (intro w hSw; (try dsimp only at hSw); obtain ⟨q0, q1, q2, q3, q4, q5⟩ := hSw; go_simp; done) | (intro w hSw; (try dsimp only at hSw); obtain ⟨q0, q1, q2, q3, q4, q5⟩ := hSw; go_simp; with_reducible rfl)
        try simp only [Act.put, List.setIfInBounds_toArray, List.set_cons_zero, List.set_cons_succ]
        refine wpAnyH_ready (rs := [17]) (by kernel_rfl) (by simp) ?_
        refine AllReadyH.cons rfl (fun K hK => ?_) AllReadyH.nil
        go_simp
        have hbl := bel w4 (.cells #[.int .i64 vr, .bool rb, .slice ra rL rc] 74)
        have HB5 := hide (bafter HB4.out hbl (Nat.le_refl _))
        have HBL5 := hide hbl
        have HRL := hide (row_litQ w4 vr rb (.slice ra rL rc) (z * y))
        clear hbl
        generalize hw5 : w4.alloc (.cells #[.int .i64 vr, .bool rb, .slice ra rL rc] 74) = w5 at *
        clear hw5
        refine hK.out _ _ (HS.out _ HB5.out) (fun hHeld => ?_)
        clear hK K hHeld
        try simp only [Act.put, List.setIfInBounds_toArray, List.set_cons_zero, List.set_cons_succ]
        obtain ⟨v6, w6, hrun6, ho6, hg6, ha6, hk6⟩ := run_appQ w5 w1.heap.size 33 _ X (HJ.out.own.below HB5.out) _ [((vr, rb, .slice ra rL rc, z * y) : Pt)] HRL.out (fun m hm => by simp at hm; subst hm; rfl) (by have h1 := HXL.out; simp only [List.length_cons, List.length_nil]; omega) (by have h1 := HJ.out.box.lt; have h2 := HB5.out.size; omega)
        obtain ⟨oa6, oc6, rfl, _, _⟩ := ho6.len
        have hstep := HJ.out.step (p := ((vr, rb, .slice ra rL rc, z * y) : Pt)) HB5.out ho6 hg6 hk6 ⟨HRG.out, HR4.out.below HBL5.out⟩ (fun W9 h9 => ⟨(h9 _ (by have := HN1.out; omega) (HJ.out.own.apart HJ.out.oth.1 (by decide)) HJ.out.oth.1.lt).trans HJ.out.oth.1, (h9 _ (by have := HN1.out; omega) (HJ.out.own.apart HJ.out.oth.2.1 (by decide)) HJ.out.oth.2.1.lt').trans HJ.out.oth.2.1, (h9 _ (by have := HN1.out; omega) (HJ.out.own.apart HJ.out.oth.2.2 (by decide)) HJ.out.oth.2.2.lt).trans HJ.out.oth.2.2⟩)
        have HSTEP := hide hstep
        have HBF := hide (hstep.2.2.2 w.heap.size w (by have := HN1.out; omega) (by have := HN1.out; omega) HBW.out (Nat.le_refl _))
        have h0 : Below w.heap.size w w6 := (bafter HBW.out HB5.out (Nat.le_refl _)).grown hg6 (Nat.le_trans HBW.out.size HB5.out.size) (fun j hj => Nat.le_trans (by have := HN1.out; omega) (HJ.out.own.lt hj).1)
        have HS6 : Hid (let Y := w6; Y.cell? ⟨w.heap.size, 2, none⟩ = some (.slice (some ⟨b, o, none⟩) Ln pc) ∧ Y.cell? ⟨b, o + i * 3, none⟩ = some (.int .i64 vr) ∧ Y.cell? ⟨b, o + i * 3 + 1, none⟩ = some (.bool neg) ∧ Y.cell? ⟨b, o + i * 3 + 2, none⟩ = some (.slice ma mL mc) ∧ Y.cell? ⟨w.heap.size + 1, 0, none⟩ = some (.bool dn) ∧ Y.cell? ⟨w.heap.size + 1, 1, none⟩ = some (.slice da dL dc)) := by
          have h1 : Thr w6 w.heap.size (.bool cn) (.slice ca cL cc) (.slice (some ⟨b, o, none⟩) Ln pc) 35 := ((hstep.2.2.1 _ (by have := HN1.out; omega) (HJ.out.own.apart HJ.out.oth.1 (by decide)) HJ.out.oth.1.lt).2).trans HJ.out.oth.1
          have h5 : Two w6 (w.heap.size + 1) (.bool dn) (.slice da dL dc) 32 := ((hstep.2.2.1 _ (by have := HN1.out; omega) (HJ.out.own.apart HJ.out.oth.2.1 (by decide)) HJ.out.oth.2.1.lt').2).trans HJ.out.oth.2.1
          obtain ⟨h2, h3, h4⟩ := HC.out w6 h0
          exact ⟨h1.c2, h2, h3, h4, h5.c0, h5.c1⟩
        have HS7 : Hid (let Y := w6.setCell ⟨w1.heap.size, 2, none⟩ (.slice oa6 (X ++ [((vr, rb, .slice ra rL rc, z * y) : Pt)]).length oc6); Y.cell? ⟨w.heap.size, 2, none⟩ = some (.slice (some ⟨b, o, none⟩) Ln pc) ∧ Y.cell? ⟨b, o + i * 3, none⟩ = some (.int .i64 vr) ∧ Y.cell? ⟨b, o + i * 3 + 1, none⟩ = some (.bool neg) ∧ Y.cell? ⟨b, o + i * 3 + 2, none⟩ = some (.slice ma mL mc) ∧ Y.cell? ⟨w.heap.size + 1, 0, none⟩ = some (.bool dn) ∧ Y.cell? ⟨w.heap.size + 1, 1, none⟩ = some (.slice da dL dc)) := by
          obtain ⟨h2, h3, h4⟩ := HC.out _ HBF.out
          exact ⟨HSTEP.out.1.oth.1.c2, h2, h3, h4, HSTEP.out.1.oth.2.1.c0, HSTEP.out.1.oth.2.1.c1⟩
        obtain ⟨y0, y1, y2, y3, y4, y5⟩ := hstep.2.1.every
        generalize hxl : (X ++ [((vr, rb, .slice ra rL rc, z * y) : Pt)]).length = xl at *
        have HXL2 := hide hxl
        clear hstep ho6 hg6 ha6 hk6 hxl h0
        refine wpAnyH_ready (rs := [18]) (by kernel_rfl) (by simp) ?_
        refine AllReadyH.cons rfl (fun K hK => ?_) AllReadyH.nil
        refine Lib.wp_append_run _ _ _ _ _ rfl _ _ rfl rfl _ _ hrun6 ?_
        clear hrun6
        refine hK.out _ _ (HS6.out) (fun hHeld => ?_)
        clear hK K
        try simp only [Act.put, List.setIfInBounds_toArray, List.set_cons_zero, List.set_cons_succ]
        refine takeD (i := 19) (v := ?v16) (some 38) rfl (by kernel_rfl) (by kernel_rfl) (by kernel_rfl) (fun _ _ _ h => h) (Or.inl ⟨by rfl, ?hy16⟩) (by assumption) (by rfl) ?rest16
        case hy16 => first | (intro w hSw; (try dsimp only at hSw); obtain ⟨q0, q1, q2, q3, q4, q5⟩ := hSw; go_simp; done) | (intro w hSw; (try dsimp only at hSw); obtain ⟨q0, q1, q2, q3, q4, q5⟩ := hSw; go_simp; with_reducible rfl)
        try simp only [Act.put, List.setIfInBounds_toArray, List.set_cons_zero, List.set_cons_succ]
        refine wpAnyH_ready (rs := [20]) (by kernel_rfl) (by simp) ?_
        refine AllReadyH.cons rfl (fun K hK => ?_) AllReadyH.nil
        go_simp
        refine hK.out _ _ (HS7.out) (fun hHeld => ?_)
        clear hK K hHeld
        try simp only [Act.put, List.setIfInBounds_toArray, List.set_cons_zero, List.set_cons_succ]
        refine wpAnyH_done (by kernel_rfl) ?_ _
        clear y0 y1 y2 y3 y4 y5
        go_wp2
        go_roundw
        case rel =>
          have e9 := HXL2.out
          subst e9
          exact ⟨i + 1, X ++ [((vr, rb, .slice ra rL rc, z * y) : Pt)], _, _, by omega, by go_num, HSTEP.out.1, by rw [ps_append, HPS.out, times_take_step HM.out]; rfl, HBF.out⟩
        case measure => simp [RowKit.intOf]; omega
      · go_simp
        refine (HMUL.out _ (by (first | exact (Below.refl _ _).drew | exact Below.refl _ _))).mono ?_
        rintro e w4 ⟨v4, rfl, hr4, hb4⟩
        obtain ⟨rb, ra, rL, rc, rfl⟩ := hr4.form
        have HB4 : Hid (Below wr.heap.size wr w4) := bafter (by (first | exact (Below.refl _ _).drew | exact Below.refl _ _)) hb4 (Nat.le_refl _)
        have HR4 := hide hr4
        clear hr4 hb4 hHeld
        go_wp2_with fail
        refine hK.out _ _ (HS.out _ HB4.out) (fun hHeld => ?_)
        clear hK K
        try simp only [Act.put, List.setIfInBounds_toArray, List.set_cons_zero, List.set_cons_succ]
        refine takeD (i := 16) (v := ?v19) (some 35) rfl (by kernel_rfl) (by kernel_rfl) (by kernel_rfl) (fun _ _ _ h => h) (Or.inl ⟨by rfl, ?hy19⟩) (by assumption) (by rfl) ?rest19
        case hy19 => first | (intro w hSw; (try dsimp only at hSw); obtain ⟨q0, q1, q2, q3, q4, q5⟩ := hSw; go_simp; done) | (intro w hSw; (try dsimp only at hSw); obtain ⟨q0, q1, q2, q3, q4, q5⟩ := hSw; go_simp; with_reducible rfl)
        try simp only [Act.put, List.setIfInBounds_toArray, List.set_cons_zero, List.set_cons_succ]
        refine wpAnyH_ready (rs := [1, 17]) (by kernel_rfl) (by simp) ?_
        refine AllReadyH.cons rfl (fun K hK => ?_) (AllReadyH.cons rfl (fun K hK => ?_) AllReadyH.nil)
        · have u0 := (HJ.out.box.keep HB4.out).c2
          go_simp
          refine hK.out _ _ (HS.out _ HB4.out) (fun hHeld => ?_)
          clear hK K
          try simp only [Act.put, List.setIfInBounds_toArray, List.set_cons_zero, List.set_cons_succ]
          clear u0
          refine wpAnyH_ready (rs := [17]) (by kernel_rfl) (by simp) ?_
          refine AllReadyH.cons rfl (fun K hK => ?_) AllReadyH.nil
          go_simp
          have hbl := bel w4 (.cells #[.int .i64 vr, .bool rb, .slice ra rL rc] 74)
          have HB5 := hide (bafter HB4.out hbl (Nat.le_refl _))
          have HBL5 := hide hbl
          have HRL := hide (row_litQ w4 vr rb (.slice ra rL rc) (z * y))
          clear hbl
          generalize hw5 : w4.alloc (.cells #[.int .i64 vr, .bool rb, .slice ra rL rc] 74) = w5 at *
          clear hw5
          refine hK.out _ _ (HS.out _ HB5.out) (fun hHeld => ?_)
          clear hK K hHeld
          try simp only [Act.put, List.setIfInBounds_toArray, List.set_cons_zero, List.set_cons_succ]
          obtain ⟨v6, w6, hrun6, ho6, hg6, ha6, hk6⟩ := run_appQ w5 w1.heap.size 33 _ X (HJ.out.own.below HB5.out) _ [((vr, rb, .slice ra rL rc, z * y) : Pt)] HRL.out (fun m hm => by simp at hm; subst hm; rfl) (by have h1 := HXL.out; simp only [List.length_cons, List.length_nil]; omega) (by have h1 := HJ.out.box.lt; have h2 := HB5.out.size; omega)
          obtain ⟨oa6, oc6, rfl, _, _⟩ := ho6.len
          have hstep := HJ.out.step (p := ((vr, rb, .slice ra rL rc, z * y) : Pt)) HB5.out ho6 hg6 hk6 ⟨HRG.out, HR4.out.below HBL5.out⟩ (fun W9 h9 => ⟨(h9 _ (by have := HN1.out; omega) (HJ.out.own.apart HJ.out.oth.1 (by decide)) HJ.out.oth.1.lt).trans HJ.out.oth.1, (h9 _ (by have := HN1.out; omega) (HJ.out.own.apart HJ.out.oth.2.1 (by decide)) HJ.out.oth.2.1.lt').trans HJ.out.oth.2.1, (h9 _ (by have := HN1.out; omega) (HJ.out.own.apart HJ.out.oth.2.2 (by decide)) HJ.out.oth.2.2.lt).trans HJ.out.oth.2.2⟩)
          have HSTEP := hide hstep
          have HBF := hide (hstep.2.2.2 w.heap.size w (by have := HN1.out; omega) (by have := HN1.out; omega) HBW.out (Nat.le_refl _))
          have h0 : Below w.heap.size w w6 := (bafter HBW.out HB5.out (Nat.le_refl _)).grown hg6 (Nat.le_trans HBW.out.size HB5.out.size) (fun j hj => Nat.le_trans (by have := HN1.out; omega) (HJ.out.own.lt hj).1)
          have HS6 : Hid (let Y := w6; Y.cell? ⟨w.heap.size, 2, none⟩ = some (.slice (some ⟨b, o, none⟩) Ln pc) ∧ Y.cell? ⟨b, o + i * 3, none⟩ = some (.int .i64 vr) ∧ Y.cell? ⟨b, o + i * 3 + 1, none⟩ = some (.bool neg) ∧ Y.cell? ⟨b, o + i * 3 + 2, none⟩ = some (.slice ma mL mc) ∧ Y.cell? ⟨w.heap.size + 1, 0, none⟩ = some (.bool dn) ∧ Y.cell? ⟨w.heap.size + 1, 1, none⟩ = some (.slice da dL dc)) := by
            have h1 : Thr w6 w.heap.size (.bool cn) (.slice ca cL cc) (.slice (some ⟨b, o, none⟩) Ln pc) 35 := ((hstep.2.2.1 _ (by have := HN1.out; omega) (HJ.out.own.apart HJ.out.oth.1 (by decide)) HJ.out.oth.1.lt).2).trans HJ.out.oth.1
            have h5 : Two w6 (w.heap.size + 1) (.bool dn) (.slice da dL dc) 32 := ((hstep.2.2.1 _ (by have := HN1.out; omega) (HJ.out.own.apart HJ.out.oth.2.1 (by decide)) HJ.out.oth.2.1.lt').2).trans HJ.out.oth.2.1
            obtain ⟨h2, h3, h4⟩ := HC.out w6 h0
            exact ⟨h1.c2, h2, h3, h4, h5.c0, h5.c1⟩
          have HS7 : Hid (let Y := w6.setCell ⟨w1.heap.size, 2, none⟩ (.slice oa6 (X ++ [((vr, rb, .slice ra rL rc, z * y) : Pt)]).length oc6); Y.cell? ⟨w.heap.size, 2, none⟩ = some (.slice (some ⟨b, o, none⟩) Ln pc) ∧ Y.cell? ⟨b, o + i * 3, none⟩ = some (.int .i64 vr) ∧ Y.cell? ⟨b, o + i * 3 + 1, none⟩ = some (.bool neg) ∧ Y.cell? ⟨b, o + i * 3 + 2, none⟩ = some (.slice ma mL mc) ∧ Y.cell? ⟨w.heap.size + 1, 0, none⟩ = some (.bool dn) ∧ Y.cell? ⟨w.heap.size + 1, 1, none⟩ = some (.slice da dL dc)) := by
            obtain ⟨h2, h3, h4⟩ := HC.out _ HBF.out
            exact ⟨HSTEP.out.1.oth.1.c2, h2, h3, h4, HSTEP.out.1.oth.2.1.c0, HSTEP.out.1.oth.2.1.c1⟩
          obtain ⟨y0, y1, y2, y3, y4, y5⟩ := hstep.2.1.every
          generalize hxl : (X ++ [((vr, rb, .slice ra rL rc, z * y) : Pt)]).length = xl at *
          have HXL2 := hide hxl
          clear hstep ho6 hg6 ha6 hk6 hxl h0
          refine wpAnyH_ready (rs := [18]) (by kernel_rfl) (by simp) ?_
          refine AllReadyH.cons rfl (fun K hK => ?_) AllReadyH.nil
          refine Lib.wp_append_run _ _ _ _ _ rfl _ _ rfl rfl _ _ hrun6 ?_
          clear hrun6
          refine hK.out _ _ (HS6.out) (fun hHeld => ?_)
          clear hK K
          try simp only [Act.put, List.setIfInBounds_toArray, List.set_cons_zero, List.set_cons_succ]
          refine takeD (i := 19) (v := ?v17) (some 38) rfl (by kernel_rfl) (by kernel_rfl) (by kernel_rfl) (fun _ _ _ h => h) (Or.inl ⟨by rfl, ?hy17⟩) (by assumption) (by rfl) ?rest17
          case hy17 => first | (intro w hSw; (try dsimp only at hSw); obtain ⟨q0, q1, q2, q3, q4, q5⟩ := hSw; go_simp; done) | (intro w hSw; (try dsimp only at hSw); obtain ⟨q0, q1, q2, q3, q4, q5⟩ := hSw; go_simp; with_reducible rfl)
          try simp only [Act.put, List.setIfInBounds_toArray, List.set_cons_zero, List.set_cons_succ]
          refine wpAnyH_ready (rs := [20]) (by kernel_rfl) (by simp) ?_
          refine AllReadyH.cons rfl (fun K hK => ?_) AllReadyH.nil
          go_simp
          refine hK.out _ _ (HS7.out) (fun hHeld => ?_)
          clear hK K hHeld
          try simp only [Act.put, List.setIfInBounds_toArray, List.set_cons_zero, List.set_cons_succ]
          refine wpAnyH_done (by kernel_rfl) ?_ _
          clear y0 y1 y2 y3 y4 y5
          go_wp2
          go_roundw
          case rel =>
            have e9 := HXL2.out
            subst e9
            exact ⟨i + 1, X ++ [((vr, rb, .slice ra rL rc, z * y) : Pt)], _, _, by omega, by go_num, HSTEP.out.1, by rw [ps_append, HPS.out, times_take_step HM.out]; rfl, HBF.out⟩
          case measure => simp [RowKit.intOf]; omega
        · go_simp
          have hbl := bel w4 (.cells #[.int .i64 vr, .bool rb, .slice ra rL rc] 74)
          have HB5 := hide (bafter HB4.out hbl (Nat.le_refl _))
          have HBL5 := hide hbl
          have HRL := hide (row_litQ w4 vr rb (.slice ra rL rc) (z * y))
          clear hbl
          generalize hw5 : w4.alloc (.cells #[.int .i64 vr, .bool rb, .slice ra rL rc] 74) = w5 at *
          clear hw5
          refine hK.out _ _ (HS.out _ HB5.out) (fun hHeld => ?_)
          clear hK K hHeld
          try simp only [Act.put, List.setIfInBounds_toArray, List.set_cons_zero, List.set_cons_succ]
          have u0 := (HJ.out.box.keep HB5.out).c2
          refine wpAnyH_ready (rs := [1]) (by kernel_rfl) (by simp) ?_
          refine AllReadyH.cons rfl (fun K hK => ?_) AllReadyH.nil
          go_simp
          refine hK.out _ _ (HS.out _ HB5.out) (fun hHeld => ?_)
          clear hK K hHeld
          try simp only [Act.put, List.setIfInBounds_toArray, List.set_cons_zero, List.set_cons_succ]
          clear u0
          obtain ⟨v6, w6, hrun6, ho6, hg6, ha6, hk6⟩ := run_appQ w5 w1.heap.size 33 _ X (HJ.out.own.below HB5.out) _ [((vr, rb, .slice ra rL rc, z * y) : Pt)] HRL.out (fun m hm => by simp at hm; subst hm; rfl) (by have h1 := HXL.out; simp only [List.length_cons, List.length_nil]; omega) (by have h1 := HJ.out.box.lt; have h2 := HB5.out.size; omega)
          obtain ⟨oa6, oc6, rfl, _, _⟩ := ho6.len
          have hstep := HJ.out.step (p := ((vr, rb, .slice ra rL rc, z * y) : Pt)) HB5.out ho6 hg6 hk6 ⟨HRG.out, HR4.out.below HBL5.out⟩ (fun W9 h9 => ⟨(h9 _ (by have := HN1.out; omega) (HJ.out.own.apart HJ.out.oth.1 (by decide)) HJ.out.oth.1.lt).trans HJ.out.oth.1, (h9 _ (by have := HN1.out; omega) (HJ.out.own.apart HJ.out.oth.2.1 (by decide)) HJ.out.oth.2.1.lt').trans HJ.out.oth.2.1, (h9 _ (by have := HN1.out; omega) (HJ.out.own.apart HJ.out.oth.2.2 (by decide)) HJ.out.oth.2.2.lt).trans HJ.out.oth.2.2⟩)
          have HSTEP := hide hstep
          have HBF := hide (hstep.2.2.2 w.heap.size w (by have := HN1.out; omega) (by have := HN1.out; omega) HBW.out (Nat.le_refl _))
          have h0 : Below w.heap.size w w6 := (bafter HBW.out HB5.out (Nat.le_refl _)).grown hg6 (Nat.le_trans HBW.out.size HB5.out.size) (fun j hj => Nat.le_trans (by have := HN1.out; omega) (HJ.out.own.lt hj).1)
          have HS6 : Hid (let Y := w6; Y.cell? ⟨w.heap.size, 2, none⟩ = some (.slice (some ⟨b, o, none⟩) Ln pc) ∧ Y.cell? ⟨b, o + i * 3, none⟩ = some (.int .i64 vr) ∧ Y.cell? ⟨b, o + i * 3 + 1, none⟩ = some (.bool neg) ∧ Y.cell? ⟨b, o + i * 3 + 2, none⟩ = some (.slice ma mL mc) ∧ Y.cell? ⟨w.heap.size + 1, 0, none⟩ = some (.bool dn) ∧ Y.cell? ⟨w.heap.size + 1, 1, none⟩ = some (.slice da dL dc)) := by
            have h1 : Thr w6 w.heap.size (.bool cn) (.slice ca cL cc) (.slice (some ⟨b, o, none⟩) Ln pc) 35 := ((hstep.2.2.1 _ (by have := HN1.out; omega) (HJ.out.own.apart HJ.out.oth.1 (by decide)) HJ.out.oth.1.lt).2).trans HJ.out.oth.1
            have h5 : Two w6 (w.heap.size + 1) (.bool dn) (.slice da dL dc) 32 := ((hstep.2.2.1 _ (by have := HN1.out; omega) (HJ.out.own.apart HJ.out.oth.2.1 (by decide)) HJ.out.oth.2.1.lt').2).trans HJ.out.oth.2.1
            obtain ⟨h2, h3, h4⟩ := HC.out w6 h0
            exact ⟨h1.c2, h2, h3, h4, h5.c0, h5.c1⟩
          have HS7 : Hid (let Y := w6.setCell ⟨w1.heap.size, 2, none⟩ (.slice oa6 (X ++ [((vr, rb, .slice ra rL rc, z * y) : Pt)]).length oc6); Y.cell? ⟨w.heap.size, 2, none⟩ = some (.slice (some ⟨b, o, none⟩) Ln pc) ∧ Y.cell? ⟨b, o + i * 3, none⟩ = some (.int .i64 vr) ∧ Y.cell? ⟨b, o + i * 3 + 1, none⟩ = some (.bool neg) ∧ Y.cell? ⟨b, o + i * 3 + 2, none⟩ = some (.slice ma mL mc) ∧ Y.cell? ⟨w.heap.size + 1, 0, none⟩ = some (.bool dn) ∧ Y.cell? ⟨w.heap.size + 1, 1, none⟩ = some (.slice da dL dc)) := by
            obtain ⟨h2, h3, h4⟩ := HC.out _ HBF.out
            exact ⟨HSTEP.out.1.oth.1.c2, h2, h3, h4, HSTEP.out.1.oth.2.1.c0, HSTEP.out.1.oth.2.1.c1⟩
          obtain ⟨y0, y1, y2, y3, y4, y5⟩ := hstep.2.1.every
          generalize hxl : (X ++ [((vr, rb, .slice ra rL rc, z * y) : Pt)]).length = xl at *
          have HXL2 := hide hxl
          clear hstep ho6 hg6 ha6 hk6 hxl h0
          refine wpAnyH_ready (rs := [18]) (by kernel_rfl) (by simp) ?_
          refine AllReadyH.cons rfl (fun K hK => ?_) AllReadyH.nil
          refine Lib.wp_append_run _ _ _ _ _ rfl _ _ rfl rfl _ _ hrun6 ?_
          clear hrun6
          refine hK.out _ _ (HS6.out) (fun hHeld => ?_)
          clear hK K
          try simp only [Act.put, List.setIfInBounds_toArray, List.set_cons_zero, List.set_cons_succ]
          refine takeD (i := 19) (v := ?v18) (some 38) rfl (by kernel_rfl) (by kernel_rfl) (by kernel_rfl) (fun _ _ _ h => h) (Or.inl ⟨by rfl, ?hy18⟩) (by assumption) (by rfl) ?rest18
          case hy18 => first | (intro w hSw; (try dsimp only at hSw); obtain ⟨q0, q1, q2, q3, q4, q5⟩ := hSw; go_simp; done) | (intro w hSw; (try dsimp only at hSw); obtain ⟨q0, q1, q2, q3, q4, q5⟩ := hSw; go_simp; with_reducible rfl)
          try simp only [Act.put, List.setIfInBounds_toArray, List.set_cons_zero, List.set_cons_succ]
          refine wpAnyH_ready (rs := [20]) (by kernel_rfl) (by simp) ?_
          refine AllReadyH.cons rfl (fun K hK => ?_) AllReadyH.nil
          go_simp
          refine hK.out _ _ (HS7.out) (fun hHeld => ?_)
          clear hK K hHeld
          try simp only [Act.put, List.setIfInBounds_toArray, List.set_cons_zero, List.set_cons_succ]
          refine wpAnyH_done (by kernel_rfl) ?_ _
          clear y0 y1 y2 y3 y4 y5
          go_wp2
          go_roundw
          case rel =>
            have e9 := HXL2.out
            subst e9
            exact ⟨i + 1, X ++ [((vr, rb, .slice ra rL rc, z * y) : Pt)], _, _, by omega, by go_num, HSTEP.out.1, by rw [ps_append, HPS.out, times_take_step HM.out]; rfl, HBF.out⟩
          case measure => simp [RowKit.intOf]; omega
    · obtain rfl : i = Ln := by omega
      have d1 : ¬ (i : Int) < (i : Int) := by omega
      have HBX : Hid (BndT (K + K) (times y (ps M))) := bndT_times HBD.out HY.out
      have htz := HJ.out.oth.2.2
      have HTZ := hide htz
      obtain ⟨x0, x1, x2, _, _, _⟩ := HJ.out.box.every
      have hrt : RTerm wr (.agg #[.bool nb, .slice na nL nc, .slice oa X.length oc]) (c * y) X := ⟨_, _, _, _, _, _, _, rfl, HJ.out.num, HJ.out.own.row, HJ.out.good⟩
      have hpx : ps X = times y (ps M) := by
        rw [HPS.out, List.take_of_length_le (by rw [HLN.out]; omega)]
      have hno := rnormT_calls (K := K + K) hrt HCY.out (by rw [hpx]; exact HBX.out) (by have h1 := congrArg List.length hpx; rw [times_length, ps_length, ps_length] at h1; have := HLN.out; omega) (by omega)
      have HPX := hide hpx
      generalize hxl : X.length = xl at *
      clear htz hxl hrt hpx
      go_wp2_with fail
      refine hno.mono ?_
      rintro e w7 ⟨v7, M7, rfl, ht7, ⟨hn7, hc7⟩, hb7⟩
      obtain ⟨fn, fa, fL, fc, ta, tl, tc, rfl⟩ := ht7.form
      have TZ7 := hide (HTZ.out.keep hb7)
      have HB7 := hide (bafter HBW.out hb7 (Nat.le_refl _))
      have HT7 := hide ht7
      have HN7 := hide hn7
      have HC7 := hide hc7
      obtain ⟨z0, z1, z2, f0, f1, f2⟩ := TZ7.out.every
      clear hno ht7 hn7 hc7 hb7 x0 x1 x2 c0 c1 c2
      go_wp2
      refine bodyPost_ret (results_rterm rfl rfl (TZ7.out.put _ _ _)) rfl ?_
      exact ⟨_, M7, rfl, HT7.out.but (TZ7.out.but _ _ _), ⟨HN7.out, fun x => by rw [HC7.out, HPX.out, times, cf_scale]⟩, put3_below HB7.out (by omega) _ _ _⟩

end Go.Proofs.YtkdhcpfmlelfcaaGreatDoor

namespace Go.Proofs.YtkdhcpfmlelfcaaGreatDoor
set_option linter.unusedVariables false
set_option linter.unusedSimpArgs false
set_option maxRecDepth 100000
open Go Go.RowKit Go.Shelf Go.Lib

def woL (x : Int) (l : Ps) : Ps := l.filter fun p => decide (p.1 ≠ x)
theorem wo_step {M : List Pt} {i : Nat} {m : Pt} {x : Int} (h : M[i]? = some m) : woL x (ps (M.take (i + 1))) = woL x (ps (M.take i)) ++ (if m.1 = x then [] else [pt m]) := by
  rw [ps_take_step h]
  unfold woL
  rw [List.filter_append]
  congr 1
  by_cases e : m.1 = x <;> simp [pt, e]

end Go.Proofs.YtkdhcpfmlelfcaaGreatDoor

namespace Go.Proofs.YtkdhcpfmlelfcaaGreatDoor
set_option linter.unusedVariables false
set_option linter.unusedSimpArgs false
set_option maxRecDepth 100000
open Go Go.RowKit Go.Shelf Go.Lib

theorem nf_bndT {K : Nat} {l m : Ps} (h : NF l) (hc : ∀ u, cf u l = cf u m) (hb : BndT K m) : BndT (K + m.length) l := fun p hp => by
  rw [← nf_mem h hp, hc]
  exact cf_boundT hb p.1
theorem bndT_up {K J : Nat} {l : Ps} (h : BndT K l) (hk : K ≤ J) : BndT J l := fun p hp => ten_up (h p hp) hk
theorem len_ps {M : List Pt} {l : Ps} (h : NF (ps M)) (hc : ∀ u, cf u (ps M) = cf u l) : M.length ≤ l.length := by
  have := nf_length h hc
  rw [ps_length] at this
  exact this
theorem ten_mul {x y : Int} {j k : Nat} (h : x.natAbs < 10 ^ j) (g : y.natAbs < 10 ^ k) : (x * y).natAbs < 10 ^ (j + k) := by
  rw [Int.natAbs_mul, Nat.pow_add]
  exact Nat.mul_lt_mul'' h g

set_option maxHeartbeats 4000000 in
theorem rsubT_calls {K : Nat} {w : World} {v u : Value} {c d : Int} {A B : List Pt} (h : RTerm w v c A) (g : RTerm w u d B) (hc : c.natAbs < 10 ^ K) (hd : d.natAbs < 10 ^ K) (ha : BndT K (ps A)) (hb : BndT K (ps B)) (la : A.length ≤ 40) (lb : B.length ≤ 40) (hK : K ≤ 160) (hK0 : 0 < K) :
    Calls Tryz.prog 29 #[v, u] w fun e w' => RTermE w (c - d) (fun l => NF l ∧ ∀ y, cf y l = cf y (ps A) - cf y (ps B)) e w' := by
  obtain ⟨cn, ca, cL, cc, pa, pl, pc, rfl⟩ := h.form
  obtain ⟨dn, da, dL, dc, qa, ql, qc, rfl⟩ := g.form
  have tb := ((Thr.new w (.bool cn) (.slice ca cL cc) (.slice pa pl pc) 35).alloc (.cells #[.bool dn, .slice da dL dc, .slice qa ql qc] 35)).alloc (.cells #[.bool false, .slice none 0 0, .slice none 0 0] 35)
  have tc := (Thr.new1 w (.cells #[.bool cn, .slice ca cL cc, .slice pa pl pc] 35) (.bool dn) (.slice da dL dc) (.slice qa ql qc) 35).alloc (.cells #[.bool false, .slice none 0 0, .slice none 0 0] 35)
  have tz := Thr.new2 w (.cells #[.bool cn, .slice ca cL cc, .slice pa pl pc] 35) (.cells #[.bool dn, .slice da dL dc, .slice qa ql qc] 35) (.bool false) (.slice none 0 0) (.slice none 0 0) 35
  have hba := bel3 w (.cells #[.bool cn, .slice ca cL cc, .slice pa pl pc] 35) (.cells #[.bool dn, .slice da dL dc, .slice qa ql qc] 35) (.cells #[.bool false, .slice none 0 0, .slice none 0 0] 35)
  generalize hwA : ((w.alloc (.cells #[.bool cn, .slice ca cL cc, .slice pa pl pc] 35)).alloc (.cells #[.bool dn, .slice da dL dc, .slice qa ql qc] 35)).alloc (.cells #[.bool false, .slice none 0 0, .slice none 0 0] 35) = wA at *
  have HWA := hide hwA
  have TB := hide tb
  have TC := hide tc
  have TZ := hide tz
  have HBA := hide hba
  have HT := hide h
  have HG := hide g
  have HCC := hide hc
  have HDD := hide hd
  have HAB := hide ha
  have HBB := hide hb
  have HS : Hid (∀ X : World, Below wA.heap.size wA X → X.cell? ⟨w.heap.size, 0, none⟩ = some (.bool cn) ∧ X.cell? ⟨w.heap.size, 1, none⟩ = some (.slice ca cL cc) ∧ X.cell? ⟨w.heap.size, 2, none⟩ = some (.slice pa pl pc) ∧ X.cell? ⟨w.heap.size + 1, 0, none⟩ = some (.bool dn) ∧ X.cell? ⟨w.heap.size + 1, 1, none⟩ = some (.slice da dL dc) ∧ X.cell? ⟨w.heap.size + 1, 2, none⟩ = some (.slice qa ql qc)) := fun X hX => ⟨(TB.out.keep hX).c0, (TB.out.keep hX).c1, (TB.out.keep hX).c2, (TC.out.keep hX).c0, (TC.out.keep hX).c1, (TC.out.keep hX).c2⟩
  clear hwA tb tc tz hba h g hc hd ha hb
  go_enter Tryz.func29, Tryz.ntmps29
  go_upto_region 1 with fail
  rw [HWA.out]
  refine wp_region_held_drew (S := fun X : World => X.cell? ⟨w.heap.size, 0, none⟩ = some (.bool cn) ∧ X.cell? ⟨w.heap.size, 1, none⟩ = some (.slice ca cL cc) ∧ X.cell? ⟨w.heap.size, 2, none⟩ = some (.slice pa pl pc) ∧ X.cell? ⟨w.heap.size + 1, 0, none⟩ = some (.bool dn) ∧ X.cell? ⟨w.heap.size + 1, 1, none⟩ = some (.slice da dL dc) ∧ X.cell? ⟨w.heap.size + 1, 2, none⟩ = some (.slice qa ql qc)) (by kernel_rfl) ?_ (fun hHeld => ?_)
  · exact HS.out _ (by (first | exact (Below.refl _ _).drew | exact Below.refl _ _))
  refine takeD (i := 0) (v := ?v1) (some 5) rfl (by kernel_rfl) (by kernel_rfl) (by kernel_rfl) (fun _ _ _ h => h) (Or.inl ⟨by rfl, ?hy1⟩) (by assumption) (by rfl) ?rest1
  case hy1 => first | (intro w hSw; (try dsimp only at hSw); obtain ⟨q0, q1, q2, q3, q4, q5⟩ := hSw; go_simp; done) | (intro w hSw; (try dsimp only at hSw); obtain ⟨q0, q1, q2, q3, q4, q5⟩ := hSw; go_simp; with_reducible rfl)
  try simp only [Act.put, List.setIfInBounds_toArray, List.set_cons_zero, List.set_cons_succ]
  refine takeD (i := 1) (v := ?v2) (some 6) rfl (by kernel_rfl) (by kernel_rfl) (by kernel_rfl) (fun _ _ _ h => h) (Or.inl ⟨by rfl, ?hy2⟩) (by assumption) (by rfl) ?rest2
  case hy2 => first | (intro w hSw; (try dsimp only at hSw); obtain ⟨q0, q1, q2, q3, q4, q5⟩ := hSw; go_simp; done) | (intro w hSw; (try dsimp only at hSw); obtain ⟨q0, q1, q2, q3, q4, q5⟩ := hSw; go_simp; with_reducible rfl)
  try simp only [Act.put, List.setIfInBounds_toArray, List.set_cons_zero, List.set_cons_succ]
  refine wpAnyH_ready (rs := [2]) (by kernel_rfl) (by simp) ?_
  refine AllReadyH.cons rfl (fun K hK => ?_) AllReadyH.nil
  go_simp
  refine (rof_calls _ (-1) (by omega) (by omega)).mono ?_
  rintro e w1 ⟨v1, rfl, hr1, hb1⟩
  obtain ⟨nb, na, nL, nc, rfl⟩ := hr1.form
  have HB1 : Hid (Below wA.heap.size wA w1) := bafter (by (first | exact (Below.refl _ _).drew | exact Below.refl _ _)) hb1 (Nat.le_refl _)
  have HR1 := hide hr1
  clear hr1 hb1 hHeld
  go_wp2_with fail
  refine hK.out _ _ (HS.out _ HB1.out) (fun hHeld => ?_)
  clear hK K
  try simp only [Act.put, List.setIfInBounds_toArray, List.set_cons_zero, List.set_cons_succ]
  have h1 : (-1 : Int).natAbs < 10 ^ 1 := by decide
  have H1 := hide h1
  clear h1
  refine wpAnyH_ready (rs := [3]) (by kernel_rfl) (by simp) ?_
  refine AllReadyH.cons rfl (fun K hK => ?_) AllReadyH.nil
  go_simp
  refine (rscaleT_calls (HG.out.below (bafter HBA.out HB1.out (Nat.le_refl _))) HR1.out HDD.out (ten_up H1.out (by omega)) HBB.out (by omega) (by omega)).mono ?_
  rintro e w2 ⟨v2, M2, rfl, ht2, ⟨hn2, hc2⟩, hb2⟩
  obtain ⟨fn, fa, fL, fc, ta, tl, tc, rfl⟩ := ht2.form
  have HB2 : Hid (Below wA.heap.size wA w2) := bafter HB1.out hb2 (Nat.le_refl _)
  have HT2 := hide ht2
  have HN2 := hide hn2
  have HC2 := hide hc2
  have HBS2 := hide hb2
  clear ht2 hn2 hc2 hb2 hHeld
  go_wp2_with fail
  refine hK.out _ _ (HS.out _ HB2.out) (fun hHeld => ?_)
  clear hK K
  try simp only [Act.put, List.setIfInBounds_toArray, List.set_cons_zero, List.set_cons_succ]
  have h3c : ∀ y, cf y (ps M2) = cf y (times (-1) (ps B)) := fun y => by rw [HC2.out, times, cf_scale]
  obtain ⟨K3, hK3⟩ : ∃ K3, K3 = K + 1 + 40 := ⟨_, rfl⟩
  have h3b : BndT K3 (ps M2) := bndT_up (nf_bndT HN2.out h3c (bndT_times HBB.out H1.out)) (by rw [times_length, ps_length]; omega)
  have h3n := len_ps HN2.out h3c
  rw [times_length, ps_length] at h3n
  refine wpAnyH_ready (rs := [4]) (by kernel_rfl) (by simp) ?_
  refine AllReadyH.cons rfl (fun K hK => ?_) AllReadyH.nil
  go_simp
  refine (raddT_calls (K := K3) (HT.out.below (bafter HBA.out HB2.out (Nat.le_refl _))) HT2.out (ten_up HCC.out (by omega)) (ten_up (ten_mul HDD.out H1.out) (by omega)) (bndT_up HAB.out (by omega)) h3b (by omega) (by omega) (by omega)).mono ?_
  rintro e w4 ⟨v4, M4, rfl, ht4, ⟨hn4, hc4⟩, hb4⟩
  obtain ⟨gn, ga, gL, gc, ua, ul, uc, rfl⟩ := ht4.form
  have HB4 : Hid (Below wA.heap.size wA w4) := bafter HB2.out hb4 (Nat.le_refl _)
  have HT4 := hide ht4
  have HN4 := hide hn4
  have HC4 := hide hc4
  have HBS4 := hide hb4
  clear ht4 hn4 hc4 hb4 hHeld
  go_wp2_with fail
  clear h3c h3b h3n
  refine hK.out _ _ (HS.out _ HB4.out) (fun hHeld => ?_)
  clear hK K
  try simp only [Act.put, List.setIfInBounds_toArray, List.set_cons_zero, List.set_cons_succ]
  have HTR : Hid (RTerm w4 (.agg #[.bool gn, .slice ga gL gc, .slice ua ul uc]) (c - d) M4) := by
    have h9 := HT4.out
    rw [show c + d * -1 = c - d by omega] at h9
    exact h9
  have TZ4 := hide (TZ.out.keep HB4.out)
  obtain ⟨d0, d1, d2, f0, f1, f2⟩ := TZ4.out.every
  have HS5 : Hid (let X := put3 w4 (w.heap.size + 2) (.bool gn) (.slice ga gL gc) (.slice ua ul uc); X.cell? ⟨w.heap.size, 0, none⟩ = some (.bool cn) ∧ X.cell? ⟨w.heap.size, 1, none⟩ = some (.slice ca cL cc) ∧ X.cell? ⟨w.heap.size, 2, none⟩ = some (.slice pa pl pc) ∧ X.cell? ⟨w.heap.size + 1, 0, none⟩ = some (.bool dn) ∧ X.cell? ⟨w.heap.size + 1, 1, none⟩ = some (.slice da dL dc) ∧ X.cell? ⟨w.heap.size + 1, 2, none⟩ = some (.slice qa ql qc)) := by
    show _ ∧ _ ∧ _ ∧ _ ∧ _ ∧ _
    rw [put3_cells (by omega), put3_cells (by omega), put3_cells (by omega), put3_cells (by omega), put3_cells (by omega), put3_cells (by omega)]
    exact HS.out _ HB4.out
  refine wpAnyH_ready (rs := [5]) (by kernel_rfl) (by simp) ?_
  refine AllReadyH.cons rfl (fun K hK => ?_) AllReadyH.nil
  go_simp
  refine hK.out _ _ (HS5.out) (fun hHeld => ?_)
  clear hK K hHeld
  try simp only [Act.put, List.setIfInBounds_toArray, List.set_cons_zero, List.set_cons_succ]
  refine wpAnyH_done (by kernel_rfl) ?_ _
  clear d0 d1 d2 f0 f1 f2
  go_wp2
  refine bodyPost_ret (results_rterm rfl rfl (TZ4.out.put _ _ _)) rfl ?_
  exact ⟨_, M4, rfl, HTR.out.but (TZ4.out.but _ _ _), ⟨HN4.out, fun y => by rw [HC4.out, HC2.out]; omega⟩, put3_below (bafter HBA.out HB4.out (Nat.le_refl _)) (by omega) _ _ _⟩

end Go.Proofs.YtkdhcpfmlelfcaaGreatDoor

namespace Go.Proofs.YtkdhcpfmlelfcaaGreatDoor
set_option linter.unusedVariables false
set_option linter.unusedSimpArgs false
set_option maxRecDepth 100000
open Go Go.RowKit Go.Shelf Go.Lib

theorem gsmall_any {w : World} {neg : Bool} {a : Option Addr} {L c : Nat} :
    Calls Tryz.prog 25 #[.agg #[.bool neg, .slice a L c]] w fun e w' => e = .returned (.bool (decide (L ≤ 4))) ∧ Below w.heap.size w w' := by
  by_cases h : L ≤ 4
  · rw [decide_eq_true h]
    exact gsmall_yes h
  · rw [decide_eq_false h]
    exact gsmall_no h
def LightP (M : List Pt) (cL : Nat) : Prop := M.length ≤ 12 ∧ cL ≤ 4 ∧ ∀ m ∈ M, lenV m.2.2.1 ≤ 4
def LightE (w : World) (M : List Pt) (cL : Nat) (e : Ending) (w' : World) : Prop := ∃ r, e = .returned (.bool r) ∧ (r = true ↔ LightP M cL) ∧ Below w.heap.size w w'

set_option maxHeartbeats 4000000 in
theorem light_calls {w : World} {cn : Bool} {ca pa : Option Addr} {cL cc pl pc : Nat} {M : List Pt} (hr : RowP w (.slice pa pl pc) M) (hs : Sl M) :
    Calls Tryz.prog 8 #[.agg #[.bool cn, .slice ca cL cc, .slice pa pl pc]] w fun e w' => LightE w M cL e w' := by
  have tb := Thr.new w (.bool cn) (.slice ca cL cc) (.slice pa pl pc) 27
  have hba := bel w (.cells #[.bool cn, .slice ca cL cc, .slice pa pl pc] 27)
  have HBA := hide hba
  have TB := hide tb
  have HSL := hide hs
  obtain ⟨_, _, e, _, _, h3⟩ := hr
  simp only [Value.slice.injEq] at e
  obtain ⟨rfl, rfl, rfl⟩ := e
  have H3 := hide h3
  clear h3 hs tb hba
  generalize hLn : M.length = Ln at *
  have HLN := hide hLn
  clear hLn
  by_cases h12 : Ln ≤ 12
  · have g0 : ¬ (12 : Int) < (Ln : Int) := by omega
    have g1 : decide ((12 : Int) < (Ln : Int)) = false := decide_eq_false g0
    by_cases hc : cL ≤ 4
    · have hsm := gsmall_yes (w := w.alloc (.cells #[.bool cn, .slice ca cL cc, .slice pa Ln pc] 27)) (neg := cn) (a := ca) (c := cc) hc
      have HC := hide hc
      clear hc
      go_enter Tryz.func8, Tryz.ntmps8
      go_wp2_with fail
      refine hsm.mono ?_
      rintro e w1 ⟨rfl, hb1⟩
      have TB1 := hide (TB.out.keep hb1)
      have HB1 := hide (bafter HBA.out hb1 (Nat.le_refl _))
      clear hsm hb1
      go_wp2
      go_loopw [3] (fun iv wr => ∃ i : Nat, i ≤ Ln ∧ iv = .int .i64 (i : Int) ∧ (∀ m ∈ M.take i, lenV m.2.2.1 ≤ 4) ∧ Thr wr w.heap.size (.bool cn) (.slice ca cL cc) (.slice pa Ln pc) 27 ∧ Below w.heap.size w wr) (fun iv _ => Ln - (RowKit.intOf iv).toNat)
      case atStart => exact ⟨0, Nat.zero_le _, rfl, fun m hm => (by simp at hm), TB1.out, HB1.out⟩
      case round =>
        obtain ⟨i, hi, rfl, hall, htb, hbw⟩ := hrel
        obtain ⟨c0, c1, c2, _, _, _⟩ := htb.every
        have HALL := hide hall
        have HTB := hide htb
        have HBW := hide hbw
        clear hall htb hbw
        by_cases hlt : i < Ln
        · obtain ⟨⟨vr, neg, mv, z⟩, hm⟩ : ∃ m, M[i]? = some m := ⟨_, List.getElem?_eq_getElem (by rw [HLN.out]; exact hlt)⟩
          obtain ⟨ma, mL, mc, e⟩ := HSL.out _ (List.mem_of_getElem? hm)
          simp only at e
          subst e
          obtain ⟨b, o, rfl, hcl⟩ := H3.out i _ hm
          obtain ⟨x0, x1, x2⟩ := hcl.below HBW.out
          dsimp only at x0 x1 x2
          have d1 : (i : Int) < (Ln : Int) := by omega
          have d0 : (0 : Int) ≤ (i : Int) := by omega
          have HM := hide hm
          clear hm hcl
          by_cases hL : mL ≤ 4
          · have hsm := gsmall_yes (w := wr) (neg := neg) (a := ma) (c := mc) hL
            have HL := hide hL
            clear hL
            go_wp2_with fail
            refine hsm.mono ?_
            rintro e w4 ⟨rfl, hb4⟩
            have HT4 := hide (HTB.out.keep hb4)
            have HB4 := hide (bafter HBW.out hb4 (Nat.le_refl _))
            clear hsm hb4
            go_wp2
            go_roundw
            case rel =>
              refine ⟨i + 1, by omega, by go_num, fun m hm => ?_, HT4.out, HB4.out⟩
              rw [List.take_add_one, HM.out] at hm
              rcases List.mem_append.1 hm with hm | hm
              · exact HALL.out m hm
              · simp at hm
                subst hm
                exact HL.out
            case measure => simp [RowKit.intOf]; omega
          · have hsm := gsmall_no (w := wr) (neg := neg) (a := ma) (c := mc) hL
            have HL := hide hL
            clear hL
            go_wp2_with fail
            refine hsm.mono ?_
            rintro e w4 ⟨rfl, hb4⟩
            have HB4 := hide (bafter HBW.out hb4 (Nat.le_refl _))
            clear hsm hb4
            go_wp2
            go_ret
            refine ⟨false, rfl, ⟨fun h => (by cases h), fun h => absurd (h.2.2 _ (List.mem_of_getElem? HM.out)) ?_⟩, HB4.out⟩
            exact HL.out
        · obtain rfl : i = Ln := by omega
          have d1 : ¬ (i : Int) < (i : Int) := by omega
          go_wp2
          go_ret
          refine ⟨true, rfl, ⟨fun _ => ⟨by rw [HLN.out]; omega, HC.out, fun m hm => HALL.out m ?_⟩, fun _ => rfl⟩, HBW.out⟩
          rw [List.take_of_length_le (by rw [HLN.out]; omega)]
          exact hm
    · have hsm := gsmall_no (w := w.alloc (.cells #[.bool cn, .slice ca cL cc, .slice pa Ln pc] 27)) (neg := cn) (a := ca) (c := cc) hc
      have HC := hide hc
      clear hc
      go_enter Tryz.func8, Tryz.ntmps8
      go_wp2_with fail
      refine hsm.mono ?_
      rintro e w1 ⟨rfl, hb1⟩
      have HB1 := hide (bafter HBA.out hb1 (Nat.le_refl _))
      clear hsm hb1
      go_wp2
      go_ret
      exact ⟨false, rfl, ⟨fun h => (by cases h), fun h => absurd h.2.1 HC.out⟩, HB1.out⟩
  · have g0 : (12 : Int) < (Ln : Int) := by omega
    have H12 := hide h12
    clear h12
    go_enter Tryz.func8, Tryz.ntmps8
    go_wp2
    go_ret
    exact ⟨false, rfl, ⟨fun h => (by cases h), fun h => absurd h.1 (by rw [HLN.out]; exact H12.out)⟩, HBA.out⟩

end Go.Proofs.YtkdhcpfmlelfcaaGreatDoor

namespace Go.Proofs.YtkdhcpfmlelfcaaGreatDoor
set_option linter.unusedVariables false
set_option linter.unusedSimpArgs false
set_option maxRecDepth 100000
open Go Go.RowKit Go.Shelf Go.Lib

set_option maxHeartbeats 4000000 in
theorem gsameT_calls {K : Nat} {w : World} {u v : Value} {c : Int} {M M' : List Pt} (h : TermR w u c M) (g : RTerm w v c M') (hp : ps M = ps M') (hc : c.natAbs < 10 ^ K) (hb : BndT K (ps M)) (hl : M.length ≤ 1000) (hK : K ≤ 1000) :
    Calls Tryz.prog 11 #[u, v] w fun e w' => e = .returned (.bool true) ∧ Below w.heap.size w w' := by
  obtain ⟨cn, ca, cL, cc, pa, pl, pc, rfl, h1, hr, hg, _⟩ := h
  obtain ⟨dn, da, dL, dc, qa, ql, qc, rfl, g1, gr, gg⟩ := g
  obtain ⟨_, _, e, _, _, h3⟩ := hr
  simp only [Value.slice.injEq] at e
  obtain ⟨rfl, rfl, rfl⟩ := e
  obtain ⟨_, _, e, _, _, g3⟩ := gr
  simp only [Value.slice.injEq] at e
  obtain ⟨rfl, rfl, rfl⟩ := e
  have hll : M'.length = M.length := by
    have := congrArg List.length hp
    rw [ps_length, ps_length] at this
    exact this.symm
  have HP := hide hp
  rw [hll]
  generalize hLn : M.length = Ln at *
  have HLN := hide hLn
  have HLL := hide hll
  have H3 := hide h3
  have G3 := hide g3
  have HG := hide hg
  have GG := hide gg
  have HB := hide hb
  have tb := (Thr.new w (.bool cn) (.slice ca cL cc) (.slice pa Ln pc) 27).alloc (.cells #[.bool dn, .slice da dL dc, .slice qa Ln qc] 35)
  have tc := Thr.new1 w (.cells #[.bool cn, .slice ca cL cc, .slice pa Ln pc] 27) (.bool dn) (.slice da dL dc) (.slice qa Ln qc) 35
  have hba : Below w.heap.size w ((w.alloc (.cells #[.bool cn, .slice ca cL cc, .slice pa Ln pc] 27)).alloc (.cells #[.bool dn, .slice da dL dc, .slice qa Ln qc] 35)) := (bel _ _).trans ((bel _ _).mono (by simp))
  have hs := gsame_true (h1.below hba) ((g1.below hba).arg hc) hK
  generalize hwA : (w.alloc (.cells #[.bool cn, .slice ca cL cc, .slice pa Ln pc] 27)).alloc (.cells #[.bool dn, .slice da dL dc, .slice qa Ln qc] 35) = wA at *
  have HWA := hide hwA
  obtain ⟨c0, c1, c2, _, _, _⟩ := tb.every
  obtain ⟨e0, e1, e2, _, _, _⟩ := tc.every
  have TB := hide tb
  have TC := hide tc
  have HBA := hide hba
  clear hwA tb tc hba h1 g1 h3 g3 hg gg hLn hp hc hll hb
  go_enter Tryz.func11, Tryz.ntmps11
  go_upto_region 1 with fail
  rw [HWA.out]
  go_wp2_with fail
  refine hs.mono ?_
  rintro e w1 ⟨rfl, hb1⟩
  have TB1 := hide (TB.out.keep hb1)
  have TC1 := hide (TC.out.keep hb1)
  have HB1 := hide (bafter HBA.out hb1 (Nat.le_refl _))
  obtain ⟨x0, x1, x2, _, _, _⟩ := TB1.out.every
  obtain ⟨y0, y1, y2, _, _, _⟩ := TC1.out.every
  clear hs hb1 c0 c1 c2 e0 e1 e2
  go_wp2
  clear x0 x1 x2 y0 y1 y2
  go_loopw [5] (fun iv wr => ∃ i : Nat, i ≤ Ln ∧ iv = .int .i64 (i : Int) ∧ Thr wr w.heap.size (.bool cn) (.slice ca cL cc) (.slice pa Ln pc) 27 ∧ Thr wr (w.heap.size + 1) (.bool dn) (.slice da dL dc) (.slice qa Ln qc) 35 ∧ Below w.heap.size w wr) (fun iv _ => Ln - (RowKit.intOf iv).toNat)
  case atStart => exact ⟨0, Nat.zero_le _, rfl, TB1.out, TC1.out, HB1.out⟩
  case round =>
    obtain ⟨i, hi, rfl, htb, htc, hbw⟩ := hrel
    obtain ⟨x0, x1, x2, _, _, _⟩ := htb.every
    have HTB := hide htb
    have HTC := hide htc
    have HBW := hide hbw
    clear htb htc hbw
    by_cases hlt : i < Ln
    · obtain ⟨⟨vr, neg, mv, z⟩, hm⟩ : ∃ m, M[i]? = some m := ⟨_, List.getElem?_eq_getElem (by rw [HLN.out]; exact hlt)⟩
      obtain ⟨⟨vr', neg', mv', z'⟩, hm'⟩ : ∃ m, M'[i]? = some m := ⟨_, List.getElem?_eq_getElem (by rw [HLL.out]; exact hlt)⟩
      obtain ⟨rfl, rfl⟩ : vr = vr' ∧ z = z' := by
        have h1 : (ps M)[i]? = some (vr, z) := by unfold ps; rw [List.getElem?_map, hm]; rfl
        have h2 : (ps M')[i]? = some (vr', z') := by unfold ps; rw [List.getElem?_map, hm']; rfl
        rw [HP.out, h2] at h1
        simp only [Option.some.injEq, Prod.mk.injEq] at h1
        exact ⟨h1.1.symm, h1.2.symm⟩
      obtain ⟨ma, mL, mc, e⟩ := HG.out.sl _ (List.mem_of_getElem? hm)
      simp only at e
      subst e
      obtain ⟨ma', mL', mc', e⟩ := GG.out.sl _ (List.mem_of_getElem? hm')
      simp only at e
      subst e
      obtain ⟨b, o, rfl, hc⟩ := H3.out i _ hm
      obtain ⟨b', o', rfl, hc'⟩ := G3.out i _ hm'
      have HC : Hid (∀ W, Below w.heap.size w W → CellsP W b (o + i * 3) (vr, neg, .slice ma mL mc, z)) := fun W h => hc.below h
      have HC' : Hid (∀ W, Below w.heap.size w W → CellsP W b' (o' + i * 3) (vr, neg', .slice ma' mL' mc', z)) := fun W h => hc'.below h
      have d1 : (i : Int) < (Ln : Int) := by omega
      have d0 : (0 : Int) ≤ (i : Int) := by omega
      have hzb : z.natAbs < 10 ^ K := HB.out (vr, z) (List.mem_map.2 ⟨_, List.mem_of_getElem? hm, rfl⟩)
      have hga := (HG.out _ (List.mem_of_getElem? hm)).2
      have hgb := (GG.out _ (List.mem_of_getElem? hm')).2
      have HSM := hide (fun (W : World) (h : Below w.heap.size w W) => gsame_true (hga.below h) ((hgb.below h).arg hzb) hK)
      clear hm hm' hc hc' hzb hga hgb
      have HS : Hid (∀ Y : World, Below wr.heap.size wr Y → Y.cell? ⟨w.heap.size, 2, none⟩ = some (.slice (some ⟨b, o, none⟩) Ln pc) ∧ Y.cell? ⟨w.heap.size + 1, 2, none⟩ = some (.slice (some ⟨b', o', none⟩) Ln qc) ∧ Y.cell? ⟨b, o + i * 3, none⟩ = some (.int .i64 vr) ∧ Y.cell? ⟨b, o + i * 3 + 1, none⟩ = some (.bool neg) ∧ Y.cell? ⟨b, o + i * 3 + 2, none⟩ = some (.slice ma mL mc) ∧ Y.cell? ⟨b', o' + i * 3, none⟩ = some (.int .i64 vr) ∧ Y.cell? ⟨b', o' + i * 3 + 1, none⟩ = some (.bool neg') ∧ Y.cell? ⟨b', o' + i * 3 + 2, none⟩ = some (.slice ma' mL' mc')) := fun Y hY => by
        obtain ⟨h2, h3, h4⟩ := HC.out Y (bafter HBW.out hY (Nat.le_refl _))
        obtain ⟨g2, g3, g4⟩ := HC'.out Y (bafter HBW.out hY (Nat.le_refl _))
        exact ⟨(HTB.out.keep hY).c2, (HTC.out.keep hY).c2, h2, h3, h4, g2, g3, g4⟩
      go_upto_region 6 with fail
      refine wp_region_held_drew (S := fun Y : World => Y.cell? ⟨w.heap.size, 2, none⟩ = some (.slice (some ⟨b, o, none⟩) Ln pc) ∧ Y.cell? ⟨w.heap.size + 1, 2, none⟩ = some (.slice (some ⟨b', o', none⟩) Ln qc) ∧ Y.cell? ⟨b, o + i * 3, none⟩ = some (.int .i64 vr) ∧ Y.cell? ⟨b, o + i * 3 + 1, none⟩ = some (.bool neg) ∧ Y.cell? ⟨b, o + i * 3 + 2, none⟩ = some (.slice ma mL mc) ∧ Y.cell? ⟨b', o' + i * 3, none⟩ = some (.int .i64 vr) ∧ Y.cell? ⟨b', o' + i * 3 + 1, none⟩ = some (.bool neg') ∧ Y.cell? ⟨b', o' + i * 3 + 2, none⟩ = some (.slice ma' mL' mc')) (by kernel_rfl) ?_ (fun hHeld => ?_)
      · exact HS.out _ (by (first | exact (Below.refl _ _).drew | exact Below.refl _ _))
      refine takeD (i := 0) (v := ?v1) (some 28) rfl (by kernel_rfl) (by kernel_rfl) (by kernel_rfl) (fun _ _ _ h => h) (Or.inl ⟨by rfl, ?hy1⟩) (by assumption) (by rfl) ?rest1
      case hy1 => first | (intro w hSw; (try dsimp only at hSw); obtain ⟨q0, q1, q2, q3, q4, q5, q6, q7⟩ := hSw; go_simp; done) | (intro w hSw; (try dsimp only at hSw); obtain ⟨q0, q1, q2, q3, q4, q5, q6, q7⟩ := hSw; go_simp; with_reducible rfl)
      try simp only [Act.put, List.setIfInBounds_toArray, List.set_cons_zero, List.set_cons_succ]
      refine takeD (i := 1) (v := ?v2) (some 29) rfl (by kernel_rfl) (by kernel_rfl) (by kernel_rfl) (fun _ _ _ h => h) (Or.inl ⟨by rfl, ?hy2⟩) (by assumption) (by rfl) ?rest2
      case hy2 => first | (intro w hSw; (try dsimp only at hSw); obtain ⟨q0, q1, q2, q3, q4, q5, q6, q7⟩ := hSw; go_simp; done) | (intro w hSw; (try dsimp only at hSw); obtain ⟨q0, q1, q2, q3, q4, q5, q6, q7⟩ := hSw; go_simp; with_reducible rfl)
      try simp only [Act.put, List.setIfInBounds_toArray, List.set_cons_zero, List.set_cons_succ]
      refine takeD (i := 2) (v := ?v3) (some 30) rfl (by kernel_rfl) (by kernel_rfl) (by kernel_rfl) (fun _ _ _ h => h) (Or.inl ⟨by rfl, ?hy3⟩) (by assumption) (by rfl) ?rest3
      case hy3 => first | (intro w hSw; (try dsimp only at hSw); obtain ⟨q0, q1, q2, q3, q4, q5, q6, q7⟩ := hSw; go_simp; done) | (intro w hSw; (try dsimp only at hSw); obtain ⟨q0, q1, q2, q3, q4, q5, q6, q7⟩ := hSw; go_simp; with_reducible rfl)
      try simp only [Act.put, List.setIfInBounds_toArray, List.set_cons_zero, List.set_cons_succ]
      refine takeD (i := 3) (v := ?v4) (some 31) rfl (by kernel_rfl) (by kernel_rfl) (by kernel_rfl) (fun _ _ _ h => h) (Or.inl ⟨by rfl, ?hy4⟩) (by assumption) (by rfl) ?rest4
      case hy4 => first | (intro w hSw; (try dsimp only at hSw); obtain ⟨q0, q1, q2, q3, q4, q5, q6, q7⟩ := hSw; go_simp; done) | (intro w hSw; (try dsimp only at hSw); obtain ⟨q0, q1, q2, q3, q4, q5, q6, q7⟩ := hSw; go_simp; with_reducible rfl)
      try simp only [Act.put, List.setIfInBounds_toArray, List.set_cons_zero, List.set_cons_succ]
      refine takeD (i := 4) (v := ?v5) (some 32) rfl (by kernel_rfl) (by kernel_rfl) (by kernel_rfl) (fun _ _ _ h => h) (Or.inl ⟨by rfl, ?hy5⟩) (by assumption) (by rfl) ?rest5
      case hy5 => first | (intro w hSw; (try dsimp only at hSw); obtain ⟨q0, q1, q2, q3, q4, q5, q6, q7⟩ := hSw; go_simp; done) | (intro w hSw; (try dsimp only at hSw); obtain ⟨q0, q1, q2, q3, q4, q5, q6, q7⟩ := hSw; go_simp; with_reducible rfl)
      try simp only [Act.put, List.setIfInBounds_toArray, List.set_cons_zero, List.set_cons_succ]
      refine takeD (i := 5) (v := ?v6) (some 33) rfl (by kernel_rfl) (by kernel_rfl) (by kernel_rfl) (fun _ _ _ h => h) (Or.inl ⟨by rfl, ?hy6⟩) (by assumption) (by rfl) ?rest6
      case hy6 => first | (intro w hSw; (try dsimp only at hSw); obtain ⟨q0, q1, q2, q3, q4, q5, q6, q7⟩ := hSw; go_simp; done) | (intro w hSw; (try dsimp only at hSw); obtain ⟨q0, q1, q2, q3, q4, q5, q6, q7⟩ := hSw; go_simp; with_reducible rfl)
      try simp only [Act.put, List.setIfInBounds_toArray, List.set_cons_zero, List.set_cons_succ]
      refine takeD (i := 6) (v := ?v7) (some 34) rfl (by kernel_rfl) (by kernel_rfl) (by kernel_rfl) (fun _ _ _ h => h) (Or.inl ⟨by rfl, ?hy7⟩) (by assumption) (by rfl) ?rest7
      case hy7 => first | (intro w hSw; (try dsimp only at hSw); obtain ⟨q0, q1, q2, q3, q4, q5, q6, q7⟩ := hSw; go_simp; done) | (intro w hSw; (try dsimp only at hSw); obtain ⟨q0, q1, q2, q3, q4, q5, q6, q7⟩ := hSw; go_simp; with_reducible rfl)
      try simp only [Act.put, List.setIfInBounds_toArray, List.set_cons_zero, List.set_cons_succ]
      refine takeD (i := 7) (v := ?v8) (some 35) rfl (by kernel_rfl) (by kernel_rfl) (by kernel_rfl) (fun _ _ _ h => h) (Or.inl ⟨by rfl, ?hy8⟩) (by assumption) (by rfl) ?rest8
      case hy8 => first | (intro w hSw; (try dsimp only at hSw); obtain ⟨q0, q1, q2, q3, q4, q5, q6, q7⟩ := hSw; go_simp; done) | (intro w hSw; (try dsimp only at hSw); obtain ⟨q0, q1, q2, q3, q4, q5, q6, q7⟩ := hSw; go_simp; with_reducible rfl)
      try simp only [Act.put, List.setIfInBounds_toArray, List.set_cons_zero, List.set_cons_succ]
      refine takeD (i := 8) (v := ?v9) (some 36) rfl (by kernel_rfl) (by kernel_rfl) (by kernel_rfl) (fun _ _ _ h => h) (Or.inl ⟨by rfl, ?hy9⟩) (by assumption) (by rfl) ?rest9
      case hy9 => first | (intro w hSw; (try dsimp only at hSw); obtain ⟨q0, q1, q2, q3, q4, q5, q6, q7⟩ := hSw; go_simp; done) | (intro w hSw; (try dsimp only at hSw); obtain ⟨q0, q1, q2, q3, q4, q5, q6, q7⟩ := hSw; go_simp; with_reducible rfl)
      try simp only [Act.put, List.setIfInBounds_toArray, List.set_cons_zero, List.set_cons_succ]
      refine takeD (i := 9) (v := ?v10) (some 37) rfl (by kernel_rfl) (by kernel_rfl) (by kernel_rfl) (fun _ _ _ h => h) (Or.inl ⟨by rfl, ?hy10⟩) (by assumption) (by rfl) ?rest10
      case hy10 => first | (intro w hSw; (try dsimp only at hSw); obtain ⟨q0, q1, q2, q3, q4, q5, q6, q7⟩ := hSw; go_simp; done) | (intro w hSw; (try dsimp only at hSw); obtain ⟨q0, q1, q2, q3, q4, q5, q6, q7⟩ := hSw; go_simp; with_reducible rfl)
      try simp only [Act.put, List.setIfInBounds_toArray, List.set_cons_zero, List.set_cons_succ]
      refine takeD (i := 10) (v := ?v11) (some 38) rfl (by kernel_rfl) (by kernel_rfl) (by kernel_rfl) (fun _ _ _ h => h) (Or.inl ⟨by rfl, ?hy11⟩) (by assumption) (by rfl) ?rest11
      case hy11 => first | (intro w hSw; (try dsimp only at hSw); obtain ⟨q0, q1, q2, q3, q4, q5, q6, q7⟩ := hSw; go_simp; done) | (intro w hSw; (try dsimp only at hSw); obtain ⟨q0, q1, q2, q3, q4, q5, q6, q7⟩ := hSw; go_simp; with_reducible rfl)
      try simp only [Act.put, List.setIfInBounds_toArray, List.set_cons_zero, List.set_cons_succ]
      refine takeD (i := 11) (v := ?v12) (some 39) rfl (by kernel_rfl) (by kernel_rfl) (by kernel_rfl) (fun _ _ _ h => h) (Or.inl ⟨by rfl, ?hy12⟩) (by assumption) (by rfl) ?rest12
      case hy12 => first | (intro w hSw; (try dsimp only at hSw); obtain ⟨q0, q1, q2, q3, q4, q5, q6, q7⟩ := hSw; go_simp; done) | (intro w hSw; (try dsimp only at hSw); obtain ⟨q0, q1, q2, q3, q4, q5, q6, q7⟩ := hSw; go_simp; with_reducible rfl)
      try simp only [Act.put, List.setIfInBounds_toArray, List.set_cons_zero, List.set_cons_succ]
      refine takeD (i := 12) (v := ?v13) (some 40) rfl (by kernel_rfl) (by kernel_rfl) (by kernel_rfl) (fun _ _ _ h => h) (Or.inl ⟨by rfl, ?hy13⟩) (by assumption) (by rfl) ?rest13
      case hy13 => first | (intro w hSw; (try dsimp only at hSw); obtain ⟨q0, q1, q2, q3, q4, q5, q6, q7⟩ := hSw; go_simp; done) | (intro w hSw; (try dsimp only at hSw); obtain ⟨q0, q1, q2, q3, q4, q5, q6, q7⟩ := hSw; go_simp; with_reducible rfl)
      try simp only [Act.put, List.setIfInBounds_toArray, List.set_cons_zero, List.set_cons_succ]
      refine takeD (i := 13) (v := ?v14) (some 41) rfl (by kernel_rfl) (by kernel_rfl) (by kernel_rfl) (fun _ _ _ h => h) (Or.inl ⟨by rfl, ?hy14⟩) (by assumption) (by rfl) ?rest14
      case hy14 => first | (intro w hSw; (try dsimp only at hSw); obtain ⟨q0, q1, q2, q3, q4, q5, q6, q7⟩ := hSw; go_simp; done) | (intro w hSw; (try dsimp only at hSw); obtain ⟨q0, q1, q2, q3, q4, q5, q6, q7⟩ := hSw; go_simp; with_reducible rfl)
      try simp only [Act.put, List.setIfInBounds_toArray, List.set_cons_zero, List.set_cons_succ]
      refine takeD (i := 14) (v := ?v15) (some 42) rfl (by kernel_rfl) (by kernel_rfl) (by kernel_rfl) (fun _ _ _ h => h) (Or.inl ⟨by rfl, ?hy15⟩) (by assumption) (by rfl) ?rest15
      case hy15 => first | (intro w hSw; (try dsimp only at hSw); obtain ⟨q0, q1, q2, q3, q4, q5, q6, q7⟩ := hSw; go_simp; done) | (intro w hSw; (try dsimp only at hSw); obtain ⟨q0, q1, q2, q3, q4, q5, q6, q7⟩ := hSw; go_simp; with_reducible rfl)
      try simp only [Act.put, List.setIfInBounds_toArray, List.set_cons_zero, List.set_cons_succ]
      refine takeD (i := 15) (v := ?v16) (some 43) rfl (by kernel_rfl) (by kernel_rfl) (by kernel_rfl) (fun _ _ _ h => h) (Or.inl ⟨by rfl, ?hy16⟩) (by assumption) (by rfl) ?rest16
      case hy16 => first | (intro w hSw; (try dsimp only at hSw); obtain ⟨q0, q1, q2, q3, q4, q5, q6, q7⟩ := hSw; go_simp; done) | (intro w hSw; (try dsimp only at hSw); obtain ⟨q0, q1, q2, q3, q4, q5, q6, q7⟩ := hSw; go_simp; with_reducible rfl)
      try simp only [Act.put, List.setIfInBounds_toArray, List.set_cons_zero, List.set_cons_succ]
      refine takeD (i := 16) (v := ?v17) (some 44) rfl (by kernel_rfl) (by kernel_rfl) (by kernel_rfl) (fun _ _ _ h => h) (Or.inl ⟨by rfl, ?hy17⟩) (by assumption) (by rfl) ?rest17
      case hy17 => first | (intro w hSw; (try dsimp only at hSw); obtain ⟨q0, q1, q2, q3, q4, q5, q6, q7⟩ := hSw; go_simp; done) | (intro w hSw; (try dsimp only at hSw); obtain ⟨q0, q1, q2, q3, q4, q5, q6, q7⟩ := hSw; go_simp; with_reducible rfl)
      try simp only [Act.put, List.setIfInBounds_toArray, List.set_cons_zero, List.set_cons_succ]
      refine takeD (i := 17) (v := ?v18) (some 45) rfl (by kernel_rfl) (by kernel_rfl) (by kernel_rfl) (fun _ _ _ h => h) (Or.inl ⟨by rfl, ?hy18⟩) (by assumption) (by rfl) ?rest18
      case hy18 => first | (intro w hSw; (try dsimp only at hSw); obtain ⟨q0, q1, q2, q3, q4, q5, q6, q7⟩ := hSw; go_simp; done) | (intro w hSw; (try dsimp only at hSw); obtain ⟨q0, q1, q2, q3, q4, q5, q6, q7⟩ := hSw; go_simp; with_reducible rfl)
      try simp only [Act.put, List.setIfInBounds_toArray, List.set_cons_zero, List.set_cons_succ]
      refine takeD (i := 18) (v := ?v19) (some 46) rfl (by kernel_rfl) (by kernel_rfl) (by kernel_rfl) (fun _ _ _ h => h) (Or.inl ⟨by rfl, ?hy19⟩) (by assumption) (by rfl) ?rest19
      case hy19 => first | (intro w hSw; (try dsimp only at hSw); obtain ⟨q0, q1, q2, q3, q4, q5, q6, q7⟩ := hSw; go_simp; done) | (intro w hSw; (try dsimp only at hSw); obtain ⟨q0, q1, q2, q3, q4, q5, q6, q7⟩ := hSw; go_simp; with_reducible rfl)
      try simp only [Act.put, List.setIfInBounds_toArray, List.set_cons_zero, List.set_cons_succ]
      refine takeD (i := 19) (v := ?v20) (some 47) rfl (by kernel_rfl) (by kernel_rfl) (by kernel_rfl) (fun _ _ _ h => h) (Or.inl ⟨by rfl, ?hy20⟩) (by assumption) (by rfl) ?rest20
      case hy20 => first | (intro w hSw; (try dsimp only at hSw); obtain ⟨q0, q1, q2, q3, q4, q5, q6, q7⟩ := hSw; go_simp; done) | (intro w hSw; (try dsimp only at hSw); obtain ⟨q0, q1, q2, q3, q4, q5, q6, q7⟩ := hSw; go_simp; with_reducible rfl)
      try simp only [Act.put, List.setIfInBounds_toArray, List.set_cons_zero, List.set_cons_succ]
      refine takeD (i := 20) (v := ?v21) (some 48) rfl (by kernel_rfl) (by kernel_rfl) (by kernel_rfl) (fun _ _ _ h => h) (Or.inl ⟨by rfl, ?hy21⟩) (by assumption) (by rfl) ?rest21
      case hy21 => first | (intro w hSw; (try dsimp only at hSw); obtain ⟨q0, q1, q2, q3, q4, q5, q6, q7⟩ := hSw; go_simp; done) | (intro w hSw; (try dsimp only at hSw); obtain ⟨q0, q1, q2, q3, q4, q5, q6, q7⟩ := hSw; go_simp; with_reducible rfl)
      try simp only [Act.put, List.setIfInBounds_toArray, List.set_cons_zero, List.set_cons_succ]
      refine takeD (i := 21) (v := ?v22) (some 49) rfl (by kernel_rfl) (by kernel_rfl) (by kernel_rfl) (fun _ _ _ h => h) (Or.inl ⟨by rfl, ?hy22⟩) (by assumption) (by rfl) ?rest22
      case hy22 => first | (intro w hSw; (try dsimp only at hSw); obtain ⟨q0, q1, q2, q3, q4, q5, q6, q7⟩ := hSw; go_simp; done) | (intro w hSw; (try dsimp only at hSw); obtain ⟨q0, q1, q2, q3, q4, q5, q6, q7⟩ := hSw; go_simp; with_reducible rfl)
      try simp only [Act.put, List.setIfInBounds_toArray, List.set_cons_zero, List.set_cons_succ]
      refine takeD (i := 22) (v := ?v23) (some 50) rfl (by kernel_rfl) (by kernel_rfl) (by kernel_rfl) (fun _ _ _ h => h) (Or.inl ⟨by rfl, ?hy23⟩) (by assumption) (by rfl) ?rest23
      case hy23 => first | (intro w hSw; (try dsimp only at hSw); obtain ⟨q0, q1, q2, q3, q4, q5, q6, q7⟩ := hSw; go_simp; done) | (intro w hSw; (try dsimp only at hSw); obtain ⟨q0, q1, q2, q3, q4, q5, q6, q7⟩ := hSw; go_simp; with_reducible rfl)
      try simp only [Act.put, List.setIfInBounds_toArray, List.set_cons_zero, List.set_cons_succ]
      refine takeD (i := 23) (v := ?v24) (some 51) rfl (by kernel_rfl) (by kernel_rfl) (by kernel_rfl) (fun _ _ _ h => h) (Or.inl ⟨by rfl, ?hy24⟩) (by assumption) (by rfl) ?rest24
      case hy24 => first | (intro w hSw; (try dsimp only at hSw); obtain ⟨q0, q1, q2, q3, q4, q5, q6, q7⟩ := hSw; go_simp; done) | (intro w hSw; (try dsimp only at hSw); obtain ⟨q0, q1, q2, q3, q4, q5, q6, q7⟩ := hSw; go_simp; with_reducible rfl)
      try simp only [Act.put, List.setIfInBounds_toArray, List.set_cons_zero, List.set_cons_succ]
      refine takeD (i := 24) (v := ?v25) (some 52) rfl (by kernel_rfl) (by kernel_rfl) (by kernel_rfl) (fun _ _ _ h => h) (Or.inl ⟨by rfl, ?hy25⟩) (by assumption) (by rfl) ?rest25
      case hy25 => first | (intro w hSw; (try dsimp only at hSw); obtain ⟨q0, q1, q2, q3, q4, q5, q6, q7⟩ := hSw; go_simp; done) | (intro w hSw; (try dsimp only at hSw); obtain ⟨q0, q1, q2, q3, q4, q5, q6, q7⟩ := hSw; go_simp; with_reducible rfl)
      try simp only [Act.put, List.setIfInBounds_toArray, List.set_cons_zero, List.set_cons_succ]
      refine takeD (i := 25) (v := ?v26) (some 53) rfl (by kernel_rfl) (by kernel_rfl) (by kernel_rfl) (fun _ _ _ h => h) (Or.inl ⟨by rfl, ?hy26⟩) (by assumption) (by rfl) ?rest26
      case hy26 => first | (intro w hSw; (try dsimp only at hSw); obtain ⟨q0, q1, q2, q3, q4, q5, q6, q7⟩ := hSw; go_simp; done) | (intro w hSw; (try dsimp only at hSw); obtain ⟨q0, q1, q2, q3, q4, q5, q6, q7⟩ := hSw; go_simp; with_reducible rfl)
      try simp only [Act.put, List.setIfInBounds_toArray, List.set_cons_zero, List.set_cons_succ]
      refine wpAnyH_ready (rs := [26]) (by kernel_rfl) (by simp) ?_
      refine AllReadyH.cons rfl (fun K hK => ?_) AllReadyH.nil
      go_simp
      refine (HSM.out _ (bafter HBW.out (by (first | exact (Below.refl _ _).drew | exact Below.refl _ _)) (Nat.le_refl _))).mono ?_
      rintro e w4 ⟨rfl, hb4⟩
      have HB4 : Hid (Below wr.heap.size wr w4) := bafter (by (first | exact (Below.refl _ _).drew | exact Below.refl _ _)) hb4 (Nat.le_refl _)
      clear hb4 hHeld
      go_wp2_with fail
      refine hK.out _ _ (HS.out _ HB4.out) (fun hHeld => ?_)
      clear hK K
      try simp only [Act.put, List.setIfInBounds_toArray, List.set_cons_zero, List.set_cons_succ]
      refine takeD (i := 27) (v := ?v27) (some 55) rfl (by kernel_rfl) (by kernel_rfl) (by kernel_rfl) (fun _ _ _ h => h) (Or.inl ⟨by rfl, ?hy27⟩) (by assumption) (by rfl) ?rest27
      case hy27 => first | (intro w hSw; (try dsimp only at hSw); obtain ⟨q0, q1, q2, q3, q4, q5, q6, q7⟩ := hSw; go_simp; done) | (intro w hSw; (try dsimp only at hSw); obtain ⟨q0, q1, q2, q3, q4, q5, q6, q7⟩ := hSw; go_simp; with_reducible rfl)
      try simp only [Act.put, List.setIfInBounds_toArray, List.set_cons_zero, List.set_cons_succ]
      refine takeD (i := 28) (v := ?v28) (some 56) rfl (by kernel_rfl) (by kernel_rfl) (by kernel_rfl) (fun _ _ _ h => h) (Or.inl ⟨by rfl, ?hy28⟩) (by assumption) (by rfl) ?rest28
      case hy28 => first | (intro w hSw; (try dsimp only at hSw); obtain ⟨q0, q1, q2, q3, q4, q5, q6, q7⟩ := hSw; go_simp; done) | (intro w hSw; (try dsimp only at hSw); obtain ⟨q0, q1, q2, q3, q4, q5, q6, q7⟩ := hSw; go_simp; with_reducible rfl)
      try simp only [Act.put, List.setIfInBounds_toArray, List.set_cons_zero, List.set_cons_succ]
      refine wpAnyH_done (by kernel_rfl) ?_ _
      clear hHeld
      go_wp2
      go_roundw
      case rel => exact ⟨i + 1, by omega, by go_num, HTB.out.keep HB4.out, HTC.out.keep HB4.out, bafter HBW.out HB4.out (Nat.le_refl _)⟩
      case measure => simp [RowKit.intOf]; omega
    · obtain rfl : i = Ln := by omega
      have d1 : ¬ (i : Int) < (i : Int) := by omega
      go_wp2
      go_ret
      exact ⟨rfl, HBW.out⟩

end Go.Proofs.YtkdhcpfmlelfcaaGreatDoor

namespace Go.Proofs.YtkdhcpfmlelfcaaGreatDoor
set_option linter.unusedVariables false
set_option linter.unusedSimpArgs false
set_option maxRecDepth 100000
open Go Go.RowKit Go.Shelf Go.Lib Go.ChangeShapes Go.WideShapes Go.ChangeAt

theorem cellsTerm : Tryz.prog.cellsOf 27 = 3 := by kernel_rfl
theorem cellsPart : Tryz.prog.cellsOf 85 = 3 := by kernel_rfl
theorem cellsParts : Tryz.prog.cellsOf 25 = 1 := by kernel_rfl
theorem cellsInt : Tryz.prog.cellsOf 3 = 1 := by kernel_rfl

/-- A slice of limbs, of which few are known to be limbs. -/
theorem limbs_few {H : Type} {enc : TypeId × Value → H} {W : World} {fuel : Nat} {c : Value} {x : DataW H × List MemPlace}
    (hf : DataW.trod enc Tryz.prog W 0 (fun _ => true) true fuel 22 [c] = some x) : ∃ a L cap, c = .slice a L cap ∧ (L ≤ 8 → ∃ xs, Limbs W c xs ∧ xs.length = L) := by
  rcases open_ints Tryz.underlying22 Tryz.underlying136 cellsU32 hf with ⟨hcs, _⟩ | ⟨y, len0, cap0, zs, hcs, _, hl, hm, hz, hx, hcell, hwz⟩
  · simp at hcs
    subst hcs
    exact ⟨none, 0, 0, rfl, fun _ => ⟨[], Limbs.nil W, rfl⟩⟩
  · simp at hcs
    subst hcs
    refine ⟨some y, len0, cap0, rfl, fun h8 => ?_⟩
    simp only [if_true] at hz
    have hl0 : ((zs.take len0).map Int.toNat).length = len0 := by simp; omega
    have hw : ∀ n ∈ zs, 0 ≤ n ∧ n < 4294967296 := fun n hn => by
      have := hwz n hn
      simp [Lit.wf, IntKind.min, IntKind.max, IntKind.signed, IntKind.bits] at this
      omega
    refine ⟨(zs.take len0).map Int.toNat, ⟨some y, cap0, by rw [hl0], by rw [hl0]; exact hl, by omega, ?_, fun j hj => ?_⟩, hl0⟩
    · intro u hu
      obtain ⟨n, hn, rfl⟩ := List.mem_map.1 hu
      have := hw n (List.mem_of_mem_take hn)
      rw [R_eq]
      omega
    · rw [hl0] at hj
      have hc := hcell j (by omega)
      have hc0 := hcell 0 (by omega)
      obtain ⟨b, off, spot⟩ := y
      have hspot : spot = none := by simpa [Addr.add] using World.cell?_spot hc0
      subst hspot
      rw [addr_add] at hc
      refine ⟨b, off, rfl, ?_⟩
      have hjz : j < zs.length := by omega
      have hmem := hw zs[j] (List.getElem_mem hjz)
      have e1 : nth ((zs.take len0).map Int.toNat) j = (zs[j]).toNat := by
        rw [nth_eq (by simp; omega)]
        simp
      rw [e1, Int.toNat_of_nonneg hmem.1]
      simpa [List.getD, hjz] using hc
/-- A number with a sign, as a part of something. -/
theorem big_few {H : Type} {enc : TypeId × Value → H} {W : World} {fuel : Nat} {c0 c1 : Value} {x : DataW H × List MemPlace}
    (hf : DataW.trod enc Tryz.prog W 0 (fun _ => true) true fuel 24 [c0, c1] = some x) : ∃ b a L cap, c0 = .bool b ∧ c1 = .slice a L cap ∧ (L ≤ 8 → ∃ xs, Limbs W c1 xs ∧ xs.length = L) := by
  obtain ⟨y0, y1, m, hx, _, hy0, hy1⟩ := trod_struct2 Tryz.underlying24 hf
  simp [Value.cells, cellsBool, cellsSl] at hy0 hy1
  obtain ⟨b, e0, _⟩ := DataW.trod_bool Tryz.underlying4 hy0
  simp at e0
  obtain ⟨a, L, cap, e1, h⟩ := limbs_few hy1
  exact ⟨b, a, L, cap, e0, e1, h⟩
/-- What a part that came in is: its number, if it is small. -/
def PIn (W : World) (m : Pt) : Prop := Rng m.1 ∧ ∃ a L c, m.2.2.1 = .slice a L c ∧ (L ≤ 8 → ∃ xs, Limbs W m.2.2.1 xs ∧ xs.length = L ∧ m.2.2.2 = sgn m.2.1 (val R xs))
theorem part_of {H : Type} {enc : TypeId × Value → H} {W : World} {n : Nat} {b off i : Nat} {cs : List Value} {x : DataW H × List MemPlace}
    (h1 : W.cells? 0 ((⟨b, off, none⟩ : Addr).add (i * 3)) 3 = some cs) (h2 : DataW.trod enc Tryz.prog W 0 (fun _ => true) true n 85 cs = some x) :
    ∃ m : Pt, PIn W m ∧ CellsP W b (off + i * 3) m := by
  obtain ⟨_, hlen, hcell⟩ := World.cells?_some h1
  match cs, hlen with
  | [v0, v1, v2], _ =>
    obtain ⟨y0, y1, k, _, _, g0, g1⟩ := trod_struct2 Tryz.underlying85 h2
    simp [cellsInt, cellsBig] at g0 g1
    obtain ⟨z, e0, _, hz⟩ := DataW.trod_int Tryz.underlying3 g0
    simp at e0
    obtain ⟨sg0, a, L, cap, e1, e2, hlim⟩ := big_few g1
    subst e0 e1 e2
    have k0 := hcell 0 (by omega)
    have k1 := hcell 1 (by omega)
    have k2 := hcell 2 (by omega)
    rw [addr_add, addr_add] at k0 k1 k2
    have hrg : Rng z := by
      simp [Lit.wf, IntKind.min, IntKind.max, IntKind.signed, IntKind.bits] at hz
      unfold Rng
      omega
    by_cases h8 : L ≤ 8
    · obtain ⟨xs, hx, hxl⟩ := hlim h8
      exact ⟨(z, sg0, .slice a L cap, sgn sg0 (val R xs)), ⟨hrg, a, L, cap, rfl, fun _ => ⟨xs, hx, hxl, rfl⟩⟩, by simpa using k0, by simpa using k1, by simpa using k2⟩
    · exact ⟨(z, sg0, .slice a L cap, 0), ⟨hrg, a, L, cap, rfl, fun h => absurd h h8⟩, by simpa using k0, by simpa using k1, by simpa using k2⟩
theorem spot_none3 {W : World} {a : Addr} {n : Nat} {cs : List Value} (hn : 0 < n) (h : W.cells? 0 a n = some cs) : ∃ b o, a = ⟨b, o, none⟩ := by
  obtain ⟨_, hlen, hcell⟩ := World.cells?_some h
  have h0 := hcell 0 (by omega)
  rw [List.getElem?_eq_getElem (by omega)] at h0
  obtain ⟨b, o, sp⟩ := a
  have hs : sp = none := by
    have := World.cell?_spot h0
    simpa [Addr.add] using this
  subst hs
  exact ⟨b, o, rfl⟩
theorem parts_in {H : Type} {enc : TypeId × Value → H} {W : World} {fuel : Nat} {v : Value} {x : DataW H × List MemPlace}
    (hf : DataW.trod enc Tryz.prog W 0 (fun _ => true) true fuel 25 [v] = some x) : ∃ pa pl pc M, v = .slice pa pl pc ∧ RowP W (.slice pa pl pc) M ∧ ∀ m ∈ M, PIn W m := by
  rcases Go.Deep.open_slice Tryz.underlying25 hf with ⟨h0, _⟩ | ⟨a, len, cap, m, n, D, Pl, hcs, hb, hl, hm, hmm, hx, hel⟩
  · simp at h0
    subst h0
    exact ⟨none, 0, 0, [], rfl, row_nil W, fun m hm => by cases hm⟩
  · simp at hcs
    subst hcs
    simp only [if_true] at hmm
    subst hmm
    rw [cellsPart] at hel
    rcases Nat.eq_zero_or_pos len with h0 | hpos
    · subst h0
      exact ⟨some a, 0, m, [], rfl, ⟨some a, m, rfl, Nat.zero_le _, hm, fun j x hj => by simp at hj⟩, fun m hm => by cases hm⟩
    · obtain ⟨cs0, hc0, _⟩ := hel 0 (by omega)
      rw [Nat.zero_mul] at hc0
      obtain ⟨b, off, rfl⟩ : ∃ b o, a = ⟨b, o, none⟩ := by
        obtain ⟨b, o, e⟩ := spot_none3 (by omega) hc0
        obtain ⟨ab, ao, sp⟩ := a
        simp [Addr.add] at e
        exact ⟨b, o, by simp [e]⟩
      obtain ⟨f, hff⟩ := Go.Deep.choose_lt (α := Pt) (n := len) (p := fun i y => PIn W y ∧ CellsP W b (off + i * 3) y) (fun i hi => by
        obtain ⟨cs', h1, h2⟩ := hel i (by omega)
        exact part_of h1 h2)
      refine ⟨some ⟨b, off, none⟩, len, m, (List.range len).map f, rfl, ⟨some ⟨b, off, none⟩, m, by simp, by simpa using hl, hm, fun j y hj => ?_⟩, fun y hy => ?_⟩
      · simp only [List.getElem?_map, Option.map_eq_some_iff] at hj
        obtain ⟨i, hi, rfl⟩ := hj
        obtain ⟨hi1, rfl⟩ := List.getElem?_eq_some_iff.1 hi
        simp only [List.length_range] at hi1
        simp only [List.getElem_range]
        exact ⟨b, off, rfl, (hff j hi1).2⟩
      · obtain ⟨i, hi, rfl⟩ := List.mem_map.1 hy
        exact (hff i (by simpa using hi)).1
/-- A sum that came in. -/
def TermI (W : World) (v : Value) (cn : Bool) (ca : Option Addr) (cL cc : Nat) (pa : Option Addr) (pl pc : Nat) (M : List Pt) : Prop :=
  v = .agg #[.bool cn, .slice ca cL cc, .slice pa pl pc] ∧ RowP W (.slice pa pl pc) M ∧ (∀ m ∈ M, PIn W m) ∧ (cL ≤ 8 → ∃ xs, Limbs W (.slice ca cL cc) xs ∧ xs.length = cL)
theorem term_in {H : Type} {enc : TypeId × Value → H} {W : World} {base : Nat} {v : Value} {d : DataW H} {ps : List MemPlace}
    (hval : Value.okWide Tryz.prog W .any base 27 v) (h : DataW.Trod enc Tryz.prog W 0 (fun _ => true) true 27 v d ps) :
    ∃ cn ca cL cc pa pl pc M, TermI W v cn ca cL cc pa pl pc M := by
  obtain ⟨cs, rfl, hcl⟩ := okWide_struct Tryz.underlying27 hval
  rw [cellsTerm] at hcl
  obtain ⟨l⟩ := cs
  match l, hcl with
  | [c0, c1, c2], _ =>
    obtain ⟨fuel, hf⟩ := h
    obtain ⟨y0, y1, m, hx, _, hy0, hy1⟩ := trod_struct2 Tryz.underlying27 hf
    simp [Value.cells, cellsBig, cellsParts] at hy0 hy1
    obtain ⟨b, a, L, cap, e0, e1, hlim⟩ := big_few hy0
    obtain ⟨pa, pl, pc, M, e2, hr, hp⟩ := parts_in hy1
    subst e0 e1 e2
    exact ⟨b, a, L, cap, pa, pl, pc, M, rfl, hr, hp, hlim⟩

/-- A light sum that came in, for both sides. -/
structure Both (w : World) (v : Value) (cn : Bool) (ca : Option Addr) (cL cc : Nat) (pa : Option Addr) (pl pc : Nat) (M : List Pt) (c : Int) : Prop where
  term : TermA 8 w v c M
  num : ∃ xs, Limbs w (.slice ca cL cc) xs ∧ xs.length ≤ 8 ∧ c = sgn cn (val R xs)
  row : RowP w (.slice pa pl pc) M
  good : ∀ m ∈ M, Rng m.1 ∧ Lim 8 w m
  len : M.length ≤ 12
  bnd : BndT 80 (ps M)
  cb : c.natAbs < 10 ^ 80
theorem TermI.both {w : World} {v : Value} {cn : Bool} {ca : Option Addr} {cL cc : Nat} {pa : Option Addr} {pl pc : Nat} {M : List Pt} (h : TermI w v cn ca cL cc pa pl pc M) (hl : LightP M cL) : ∃ c, Both w v cn ca cL cc pa pl pc M c := by
  obtain ⟨rfl, hr, hp, hx⟩ := h
  obtain ⟨h12, h4, hm4⟩ := hl
  obtain ⟨xs, hxs, hxl⟩ := hx (by omega)
  have hlim : ∀ m ∈ M, Rng m.1 ∧ Lim 8 w m := fun m hm => by
    obtain ⟨h1, a, L, c, e, h2⟩ := hp m hm
    have h3 := hm4 m hm
    rw [e] at h3
    simp only [lenV] at h3
    obtain ⟨ys, hy, hyl, hz⟩ := h2 (by omega)
    exact ⟨h1, ys, hy, by omega, hz⟩
  have hcb : (sgn cn (val R xs)).natAbs < R ^ 8 := bl_limbs hxs.small (by omega)
  have hb : ∀ m ∈ M, m.2.2.2.natAbs < R ^ 8 := fun m hm => by
    obtain ⟨_, ys, hy, hyl, hz⟩ := hlim m hm
    rw [hz]
    exact bl_limbs hy.small hyl
  have hbp : ∀ p ∈ ps M, p.2.natAbs < R ^ 8 := fun p hp2 => by
    obtain ⟨m, hm, rfl⟩ := List.mem_map.1 hp2
    exact hb m hm
  refine ⟨sgn cn (val R xs), ⟨⟨cn, ca, cL, cc, pa, pl, pc, rfl, box_arg hxs (by omega), hcb, hr, fun m hm => ?_, hbp, .inl h12, by omega⟩, ⟨xs, hxs, by omega, rfl⟩, hr, hlim, h12, fun p hp2 => bl10 (hbp p hp2), bl10 hcb⟩⟩
  obtain ⟨h1, ys, hy, hyl, hz⟩ := hlim m hm
  refine ⟨h1, ?_⟩
  rw [hz]
  exact ⟨_, _, _, rfl, ⟨ys, hy, by omega, rfl⟩, rfl⟩
theorem TermI.sl {w : World} {v : Value} {cn : Bool} {ca : Option Addr} {cL cc : Nat} {pa : Option Addr} {pl pc : Nat} {M : List Pt} (h : TermI w v cn ca cL cc pa pl pc M) : Sl M := fun m hm => by
  obtain ⟨_, a, L, c, e, _⟩ := h.2.2.1 m hm
  exact ⟨a, L, c, e⟩
theorem TermI.light {w W : World} {v : Value} {cn : Bool} {ca : Option Addr} {cL cc : Nat} {pa : Option Addr} {pl pc : Nat} {M : List Pt} (h : TermI w v cn ca cL cc pa pl pc M) (hb : Below w.heap.size w W) :
    Calls Tryz.prog 8 #[.agg #[.bool cn, .slice ca cL cc, .slice pa pl pc]] W fun e w' => LightE W M cL e w' := light_calls (h.2.1.below hb) h.sl
theorem Both.of {w W : World} {v : Value} {cn : Bool} {ca : Option Addr} {cL cc : Nat} {pa : Option Addr} {pl pc : Nat} {M : List Pt} {c : Int} (h : Both w v cn ca cL cc pa pl pc M c) (hb : Below w.heap.size w W) :
    Calls Tryz.prog 10 #[.agg #[.bool cn, .slice ca cL cc, .slice pa pl pc]] W fun e w' => RTermE W c (fun l => l = ps M) e w' := by
  obtain ⟨xs, hx, hl, rfl⟩ := h.num
  exact gof_calls (hx.below hb) hl (h.row.below hb) (fun m hm => ⟨(h.good m hm).1, (h.good m hm).2.below hb⟩) (by have := h.len; omega)

end Go.Proofs.YtkdhcpfmlelfcaaGreatDoor

namespace Go.Proofs.YtkdhcpfmlelfcaaGreatDoor
set_option linter.unusedVariables false
set_option linter.unusedSimpArgs false
set_option maxRecDepth 100000
open Go Go.RowKit Go.Shelf Go.Lib Go.Maps Go.ChangeShapes Go.WideShapes
open Go.ChangeMaps (modify_eq_set)

def zBig : Value := .agg #[.bool false, .slice none 0 0]
theorem zeroBig (w : World) : (zeroValue 24).run Tryz.prog w = .ok zBig w := by kernel_rfl
theorem keyedI : Keyed Tryz.prog 3 := int_keyed Tryz.underlying3
theorem keyOfI {x : Int} (h : Rng x) : keyOf Tryz.prog 3 (.int .i64 x) = some (.int .i64 x) := keyOf_int_mk Tryz.underlying3 (by
  unfold Rng at h
  simp [Lit.wf, IntKind.min, IntKind.max, IntKind.signed, IntKind.bits]
  omega)
/-- A map's block: its keys are whole numbers, each once. -/
def MapB (W : World) (r : Nat) (f : Int → Option Value) : Prop :=
  ∃ es clock, W.heap[r]? = some (.map es clock) ∧ (∀ e ∈ es.toList, ∃ x, e.key = .int .i64 x ∧ Rng x) ∧ es.toList.Pairwise (fun a b => a.key ≠ b.key) ∧ ∀ x v, f x = some v ↔ ∃ e ∈ es.toList, e.key = .int .i64 x ∧ e.val = v
theorem MapB.made (W : World) : MapB (W.alloc (.map #[] 0)) W.heap.size (fun _ => none) :=
  ⟨#[], 0, World.alloc_heap_new W _, fun e he => by simp at he, by simp, fun x v => by simp⟩
theorem MapB.keep {W W' : World} {r : Nat} {f : Int → Option Value} (h : MapB W r f) (hb : W'.heap[r]? = W.heap[r]?) : MapB W' r f := by
  obtain ⟨es, clock, h1, h2⟩ := h
  exact ⟨es, clock, hb.trans h1, h2⟩
theorem MapB.lt {W : World} {r : Nat} {f : Int → Option Value} (h : MapB W r f) : r < W.heap.size := by
  obtain ⟨es, clock, h1, h2⟩ := h
  exact (Array.getElem?_eq_some_iff.1 h1).1
theorem MapB.keysOf {es : Array MapEntry} (h : ∀ e ∈ es.toList, ∃ x, e.key = .int .i64 x ∧ Rng x) : ∀ e ∈ es.toList, ∃ l, keyOf Tryz.prog 3 e.key = some l := fun e he => by
  obtain ⟨x, e1, h1⟩ := h e he
  exact ⟨_, by rw [e1]; exact keyOfI h1⟩
theorem MapB.look {W : World} {r : Nat} {f : Int → Option Value} (h : MapB W r f) {x : Int} (hx : Rng x) :
    (Instr.lookup 103 (.map (some r)) (.int .i64 x) false).run Tryz.prog W = .ok ((f x).getD zBig) W := by
  obtain ⟨es, clock, h1, h2, h3, h4⟩ := h
  rcases keyedI.find W (keyOfI hx) es.toList (MapB.keysOf h2) with ⟨g1, g2⟩ | ⟨j, e0, g1, g2, g3⟩
  · have hf : f x = none := by
      cases hfx : f x with
      | none => rfl
      | some v =>
        obtain ⟨e, he, e1, _⟩ := (h4 x v).1 hfx
        exact absurd e1 (g2 e he)
    rw [hf]
    simp [Instr.lookup, run_underlying Tryz.underlying103, MapKept.run_getObj_map h1, keyedI.check W _ (keyOfI hx), g1, zeroBig, Result.andThen]
    rfl
  · have hf : f x = some e0.val := (h4 x _).2 ⟨e0, List.mem_of_getElem? g2, g3, rfl⟩
    rw [hf]
    simp [Instr.lookup, run_underlying Tryz.underlying103, MapKept.run_getObj_map h1, keyedI.check W _ (keyOfI hx), g1, Result.andThen]
theorem MapB.put {W : World} {r : Nat} {f : Int → Option Value} (h : MapB W r f) {x : Int} (hx : Rng x) (v : Value) :
    ∃ o, (Instr.mapUpdate 103 (.map (some r)) (.int .i64 x) v).run Tryz.prog W = .ok () (W.putObj r o) ∧ o.isCells = false ∧ MapB (W.putObj r o) r (fun y => if y = x then some v else f y) := by
  have hlt := h.lt
  obtain ⟨es, clock, h1, h2, h3, h4⟩ := h
  rcases keyedI.find W (keyOfI hx) es.toList (MapB.keysOf h2) with ⟨g1, g2⟩ | ⟨j, e0, g1, g2, g3⟩
  · refine ⟨.map (es.push ⟨.int .i64 x, v, clock⟩) (clock + 1), ?_, rfl, es.push ⟨.int .i64 x, v, clock⟩, clock + 1, World.putObj_heap_same hlt, ?_, ?_, ?_⟩
    · simp [Instr.mapUpdate, run_underlying Tryz.underlying103, MapKept.run_getObj_map h1, keyedI.check W false (keyOfI hx), g1, MapKept.run_setObj_map _ h1, Result.andThen]
      rfl
    · intro e he
      simp only [Array.toList_push, List.mem_append, List.mem_singleton] at he
      rcases he with he | rfl
      · exact h2 e he
      · exact ⟨x, rfl, hx⟩
    · rw [Array.toList_push, List.pairwise_append]
      refine ⟨h3, by simp, fun a ha b hb => ?_⟩
      simp only [List.mem_singleton] at hb
      subst hb
      exact g2 a ha
    · intro y u
      simp only [Array.toList_push, List.mem_append, List.mem_singleton]
      by_cases e : y = x
      · subst e
        rw [if_pos rfl]
        constructor
        · intro e1
          cases e1
          exact ⟨_, .inr rfl, rfl, rfl⟩
        · rintro ⟨e, he | rfl, e1, e2⟩
          · exact absurd e1 (g2 e he)
          · rw [← e2]
      · rw [if_neg e, h4]
        constructor
        · rintro ⟨e1, he, h5⟩
          exact ⟨e1, .inl he, h5⟩
        · rintro ⟨e1, he | rfl, e2, e3⟩
          · exact ⟨e1, he, e2, e3⟩
          · simp only [Value.int.injEq, true_and] at e2
            exact absurd e2.symm e
  · have hj : es[j]? = some e0 := by simpa using g2
    have hlist : (es.modify j (fun e' => { e' with key := .int .i64 x, val := v })).toList = es.toList.set j { e0 with key := .int .i64 x, val := v } := by
      rw [Array.toList_modify]
      exact modify_eq_set _ _ _ _ g2
    have hoth : ∀ (i : Nat) (e : MapEntry), es.toList[i]? = some e → i ≠ j → e.key ≠ .int .i64 x := fun i e hi hne => by
      have hp := List.pairwise_iff_getElem.1 h3
      obtain ⟨hi1, hi2⟩ := List.getElem?_eq_some_iff.1 hi
      obtain ⟨hj1, hj2⟩ := List.getElem?_eq_some_iff.1 g2
      rcases Nat.lt_or_gt_of_ne hne with h | h
      · have := hp i j hi1 hj1 h
        rw [hi2, hj2, g3] at this
        exact this
      · have := hp j i hj1 hi1 h
        rw [hi2, hj2, g3] at this
        exact fun e => this e.symm
    have hmem : ∀ e, e ∈ es.toList.set j { e0 with key := .int .i64 x, val := v } ↔ e = { e0 with key := .int .i64 x, val := v } ∨ (e ∈ es.toList ∧ e.key ≠ .int .i64 x) := fun e => by
      rw [List.mem_iff_getElem?]
      constructor
      · rintro ⟨i, hi⟩
        rw [List.getElem?_set] at hi
        split at hi
        · split at hi
          · exact .inl (Option.some.inj hi).symm
          · cases hi
        · rename_i hne
          exact .inr ⟨List.mem_of_getElem? hi, hoth i e hi (fun h => hne h.symm)⟩
      · rintro (rfl | ⟨he, hk⟩)
        · exact ⟨j, by rw [List.getElem?_set_self (List.getElem?_eq_some_iff.1 g2).1]⟩
        · obtain ⟨i, hi⟩ := List.mem_iff_getElem?.1 he
          refine ⟨i, ?_⟩
          rw [List.getElem?_set_ne (fun h => hk (by subst h; rw [g2] at hi; cases hi; exact g3))]
          exact hi
    refine ⟨.map (es.modify j (fun e' => { e' with key := .int .i64 x, val := v })) clock, ?_, rfl, es.modify j (fun e' => { e' with key := .int .i64 x, val := v }), clock, World.putObj_heap_same hlt, ?_, ?_, ?_⟩
    · simp [Instr.mapUpdate, run_underlying Tryz.underlying103, MapKept.run_getObj_map h1, keyedI.check W false (keyOfI hx), g1, hj, g3, keyedI.stays W (keyOfI hx), MapKept.run_setObj_map _ h1, Result.andThen]
      rfl
    · rw [hlist]
      intro e he
      rcases (hmem e).1 he with rfl | ⟨he, _⟩
      · exact ⟨x, rfl, hx⟩
      · exact h2 e he
    · rw [hlist]
      have hk : (es.toList.set j { e0 with key := .int .i64 x, val := v }).map (·.key) = es.toList.map (·.key) := by
        rw [List.map_set]
        apply List.ext_getElem?
        intro i
        rw [List.getElem?_set]
        split
        · rename_i e
          subst e
          rw [List.getElem?_map, g2]
          have hjl := (List.getElem?_eq_some_iff.1 g2).1
          simp at hjl
          simp [g3, hjl]
        · rfl
      have h5 : (es.toList.map (·.key)).Pairwise (· ≠ ·) := List.pairwise_map.2 h3
      rw [← hk] at h5
      exact List.pairwise_map.1 h5
    · intro y u
      rw [hlist]
      show (if y = x then some v else f y) = some u ↔ _
      by_cases e : y = x
      · subst e
        rw [if_pos rfl]
        constructor
        · intro e1
          cases e1
          exact ⟨_, (hmem _).2 (.inl rfl), rfl, rfl⟩
        · rintro ⟨e, he, e1, e2⟩
          rcases (hmem e).1 he with rfl | ⟨_, hk⟩
          · rw [← e2]
          · exact absurd e1 hk
      · rw [if_neg e, h4]
        constructor
        · rintro ⟨e1, he, e2, e3⟩
          exact ⟨e1, (hmem _).2 (.inr ⟨he, by rw [e2]; simpa using e⟩), e2, e3⟩
        · rintro ⟨e1, he, e2, e3⟩
          rcases (hmem e1).1 he with rfl | ⟨he, _⟩
          · simp only [Value.int.injEq, true_and] at e2
            exact absurd e2.symm e
          · exact ⟨e1, he, e2, e3⟩

end Go.Proofs.YtkdhcpfmlelfcaaGreatDoor

namespace Go.Proofs.YtkdhcpfmlelfcaaGreatDoor
set_option linter.unusedVariables false
set_option linter.unusedSimpArgs false
set_option maxRecDepth 100000
open Go Go.RowKit Go.Shelf Go.Lib

/-- What is handed over in the round k: the place, and what stands there. -/
def backV (M : List Pt) (k : Nat) : Array Value := #[.int .i64 ((M.length : Int) - 1 - (k : Int)), .agg #[.int .i64 (atP M (M.length - 1 - k)).1, .bool (atP M (M.length - 1 - k)).2.1, (atP M (M.length - 1 - k)).2.2.1]]

set_option maxHeartbeats 2000000 in
theorem back_hands (B : Nat) (v : Value) (M : List Pt) (hsl : Sl M) (hl : M.length ≤ 1048576) :
    HandsB Tryz.prog 100 #[.pointer (some ⟨B, 0, none⟩)] M.length (backV M) (fun _ W => VarsKnow B v M W) := by
  intro l J Jx W hKn hSt hY h0
  obtain ⟨hc0, hr0⟩ := hKn 0 W h0
  obtain ⟨a, n, c, rfl⟩ := hr0.shape
  obtain rfl : n = M.length := by
    obtain ⟨_, _, e, _⟩ := hr0
    cases e
    rfl
  have HBV : Hid (∀ k, backV M k = #[.int .i64 ((M.length : Int) - 1 - (k : Int)), .agg #[.int .i64 (atP M (M.length - 1 - k)).1, .bool (atP M (M.length - 1 - k)).2.1, (atP M (M.length - 1 - k)).2.2.1]]) := fun k => rfl
  generalize hLn : M.length = Ln at *
  have hw0 : IntKind.i64.wrap ((Ln : Int) - 1) = (Ln : Int) - 1 := by rw [IntKind.wrap_i64]; omega
  have HLN := hide hLn
  have HKn := hide hKn
  have HSt := hide hSt
  have HY := hide hY
  have HSL := hide hsl
  clear hr0 hKn hSt hY hLn hsl
  refine callsIn_of_wp Tryz.func100 rfl trivial ?_ rfl
  simp only [Tryz.ntmps100, List.size_toArray, List.length_cons, List.length_nil, Nat.reduceAdd, Nat.reduceSub, Array.replicate_succ, Array.replicate_zero, List.push_toArray, List.append_toArray, List.nil_append, List.cons_append]
  gi_wp2
  gi_loopw [3] (fun i wr => ∃ k : Nat, k ≤ Ln ∧ i = .int .i64 ((Ln : Int) - 1 - (k : Int)) ∧ J k wr) (fun i _ => (RowKit.intOf i + 1).toNat)
  case atStart => exact ⟨0, Nat.zero_le _, by simp, h0⟩
  case round =>
    obtain ⟨k, hk, rfl, hJ⟩ := hrel
    clear h0 hc0 hw0
    by_cases hlt : k < Ln
    · obtain ⟨j, hj⟩ : ∃ j : Nat, j = Ln - 1 - k := ⟨_, rfl⟩
      have hji : (Ln : Int) - 1 - (k : Int) = (j : Int) := by omega
      have hjl : j < Ln := by omega
      rw [hji]
      obtain ⟨⟨vr, neg, mv, z⟩, hm⟩ : ∃ m, M[j]? = some m := ⟨_, List.getElem?_eq_getElem (by rw [HLN.out]; exact hjl)⟩
      obtain ⟨ma, mL, mc, e⟩ := HSL.out _ (List.mem_of_getElem? hm)
      simp only at e
      subst e
      obtain ⟨hcb, hr⟩ := HKn.out k _ hJ
      obtain ⟨_, _, e, _, _, h3⟩ := hr
      simp only [Value.slice.injEq] at e
      obtain ⟨ea, eL, ec⟩ := e
      clear eL
      subst ea
      subst ec
      obtain ⟨b, o, rfl, hc⟩ := h3 j _ hm
      obtain ⟨c0, c1, c2⟩ := hc
      dsimp only at c0 c1 c2
      have hy0 := HY.out k _ hlt hJ
      rw [HBV.out k, hji, ← hj, atP_of hm] at hy0
      have d1 : (j : Int) < (Ln : Int) := by omega
      have d0 : (0 : Int) ≤ (j : Int) := by omega
      have HJI := hide hji
      have HJ := hide hj
      have hw1 : IntKind.i64.wrap ((j : Int) - 1) = (j : Int) - 1 := by rw [IntKind.wrap_i64]; omega
      clear hm h3 hJ hji hj
      obtain ⟨fn, tmps, assign, body, hy, hR⟩ := hy0
      gi_wp2
      refine hR.mono ?_
      rintro e W3 (⟨rfl, hJ3⟩ | ⟨rfl, hJx3⟩)
      · clear hR hy
        gi_wp2
        go_roundw
        case rel => exact ⟨k + 1, by omega, by have := HJI.out; simp; omega, hJ3⟩
        case measure => simp [RowKit.intOf]
      · clear hR hy
        gi_wp2
        refine bodyPost_ret (results_none rfl _ _ _) rfl ?_
        exact ⟨⟨_, rfl⟩, .inr ⟨k, hlt, hJx3⟩⟩
    · obtain rfl : k = Ln := by omega
      have e1 : (k : Int) - 1 - (k : Int) = -1 := by omega
      rw [e1]
      clear e1
      gi_wp2
      go_end0
      exact ⟨⟨_, rfl⟩, .inl hJ⟩

/-- What Backward answers: an iterator over the row. -/
def BackE (w : World) (v : Value) (e : Ending) (w' : World) : Prop :=
  ∃ B, e = .returned (.func (.func 100) #[] #[.pointer (some ⟨B, 0, none⟩)]) ∧ Uno w' B v 60 ∧ w.heap.size ≤ B ∧ Below w.heap.size w w'

set_option maxHeartbeats 1000000 in
theorem back_calls (w : World) (a : Option Addr) (l c : Nat) : Calls Tryz.prog 65 #[.slice a l c] w fun e w' => BackE w (.slice a l c) e w' := by
  go_enter Tryz.func65, Tryz.ntmps65
  go_wp2
  go_ret
  exact ⟨w.heap.size, rfl, World.alloc_heap_new w _, Nat.le_refl _, bel w _⟩

end Go.Proofs.YtkdhcpfmlelfcaaGreatDoor

namespace Go.Proofs.YtkdhcpfmlelfcaaGreatDoor
set_option linter.unusedVariables false
set_option linter.unusedSimpArgs false
set_option maxRecDepth 100000
open Go Go.RowKit Go.Shelf Go.Lib
attribute [local go_sem] Oper.semAt_some

/-- A loop over an iterator whose variables aren't laid into memory. -/
theorem range_knownD {P : Program} {g : Operand} {ps : Array Tmp} {assign body : Code} {Q : Exit → Act → World → Prop} {a : Act} {w : World}
    {gf : Nat} {lb : Array Value} (hg : a.eval g = .func (.func gf) #[] lb) (eg : ∀ args w, (callFunc gf args).run P w = .ok (.enter gf args) w)
    {N : Nat} {args : Nat → Array Value} {Know : Nat → World → Prop} (hseq : HandsB P gf lb N args Know) (hps : ∀ k, (args k).size = ps.size)
    (J : Nat → World → Prop) (Jx : Code → Nat → World → Prop) (hJ : ∀ k W W', J k W → Cel W W' → J k W') (hJx : ∀ c k W W', Jx c k W → Cel W W' → Jx c k W') (n₀ : Nat) (w₀ : World) (hn : n₀ ≤ w₀.heap.size) (hn2 : n₀ ≤ w.heap.size)
    (hKn : ∀ k W, J k W → Know k W) (h0 : J 0 w ∧ Below n₀ w₀ w) (a₁ : Nat → Act)
    (hassign : ∀ (l k : Nat) (W : World) (K : Act → World → Prop), k < N → K (a₁ k) W →
      assign.wpIn (Fence.wide.inRound l) 1 P (Exit.then K (fun _ _ _ => False)) { tmps := (ps.zip (args k)).foldl (fun t (p, v) => t.setIfInBounds p v) a.tmps, defers := [] } W)
    (hbody : ∀ (l k : Nat) (W : World), k < N → J k W ∧ Below n₀ w₀ W → body.wpIn (Fence.wide.inRound l) 1 P (roundPost w.heap.size (fun k W => J k W ∧ Below n₀ w₀ W) (fun c k W => Jx c k W ∧ Below n₀ w₀ W) k W) (a₁ k) W)
    (hdone : ∀ (D : Nat) (W : World), w.heap.size ≤ D → J N W ∧ Below n₀ w₀ W → W.heap[D]? = some (.deferred (some [])) → Q .normal { a with defers := { target := .collected D, args := #[] } :: a.defers } W)
    (hstop : ∀ (D : Nat) (c : Code) (k : Nat) (W : World), w.heap.size ≤ D → k < N → Jx c k W ∧ Below n₀ w₀ W → W.heap[D]? = some (.deferred (some [])) → c.wpIn Fence.wide 3 P Q { a with defers := { target := .collected D, args := #[] } :: a.defers } W) :
    (Code.rangeFunc g ps assign body).wpIn Fence.wide 3 P Q a w :=
  range_knownB hg eg hseq hps (fun k W => J k W ∧ Below n₀ w₀ W) (fun c k W => Jx c k W ∧ Below n₀ w₀ W) (ownFrom_frame hJ hn hn2) (fun c => ownFrom_frame (hJx c) hn hn2) (fun k W h => hKn k W h.1)
    (fun k W W' h hb => ⟨hJ k W W' h.1 (Cel.of hb), h.2.trans (hb.mono (Nat.le_trans hn h.2.size))⟩) h0 a₁ hassign hbody hdone hstop

def LIsE (w : World) (M : List Pt) (e : Ending) (w' : World) : Prop := ∃ l : Ps, e = .returned (.bool (decide (l.length = 0))) ∧ NF l ∧ (∀ u, cf u l = cf u (ps M)) ∧ Below w.heap.size w w'

set_option maxHeartbeats 4000000 in
theorem isconst_calls {k : Nat} {w : World} {v : Value} {c : Int} {M : List Pt} (h : TermA k w v c M) (hk : k ≤ 400000) :
    Calls Tryz.prog 17 #[v] w fun e w' => LIsE w M e w' := by
  obtain ⟨cn, ca, cL, cc, pa, pl, pc, rfl⟩ := h.form
  have tb := (Thr.new w (.bool cn) (.slice ca cL cc) (.slice pa pl pc) 27).alloc (.cells #[.bool false] 4)
  have hba : Below w.heap.size w ((w.alloc (.cells #[.bool cn, .slice ca cL cc, .slice pa pl pc] 27)).alloc (.cells #[.bool false] 4)) := (bel _ _).trans ((bel _ _).mono (by simp))
  have tu : Uno ((w.alloc (.cells #[.bool cn, .slice ca cL cc, .slice pa pl pc] 27)).alloc (.cells #[.bool false] 4)) (w.heap.size + 1) (.bool false) 4 := by
    have h1 := World.alloc_heap_new (w.alloc (.cells #[.bool cn, .slice ca cL cc, .slice pa pl pc] 27)) (.cells #[.bool false] 4)
    rw [World.size_alloc] at h1
    exact h1
  generalize hwA : (w.alloc (.cells #[.bool cn, .slice ca cL cc, .slice pa pl pc] 27)).alloc (.cells #[.bool false] 4) = wA at *
  have hvars := vars_calls (h.below hba) (by omega)
  have HT := hide h
  have HWA := hide hwA
  have HBA := hide hba
  have TU := hide tu
  obtain ⟨c0, c1, c2, _, _, _⟩ := tb.every
  clear hwA tb hba tu h
  refine calls_of_marks Tryz.func17 rfl ?_
  simp only [Tryz.ntmps17, List.size_toArray, List.length_cons, List.length_nil, Nat.reduceAdd, Nat.reduceSub, Array.replicate_succ, Array.replicate_zero, List.push_toArray, List.append_toArray, List.nil_append, List.cons_append]
  go_upto_region 1 with fail
  rw [HWA.out]
  go_wp2_with fail
  refine hvars.mono ?_
  clear hvars c0 c1 c2
  rintro e w3 ⟨B0, M3, a3, l3, k3, rfl, hu3, hB0, ho3, hg3, hn3, hc3, hb3⟩
  have HU3 := hide hu3
  have HO3 := hide ho3
  have HG3 := hide hg3
  have HN3 := hide hn3
  have HC3 := hide hc3
  have HB3 := hide hb3
  clear hu3 hB0 ho3 hg3 hn3 hc3 hb3
  go_wp2_with fail
  refine (wpIn_wide (n := 3)).1 ?_
  have HL3 : Hid (M3.length ≤ 1000) := by
    have h1 := len_of HN3.out HC3.out
    have h2 := HT.out.len
    show _ ≤ _
    omega
  refine range_knownD (gf := 74) (lb := #[.pointer (some ⟨B0, 0, none⟩)]) ?hg (enters_of Tryz.func74 (by kernel_rfl) rfl)
    (vars_hands B0 (.slice a3 l3 k3) M3 HG3.out.sl (by have := HL3.out; omega)) (fun _ => rfl)
    (fun i W => i = 0 ∧ VarsKnow B0 (.slice a3 l3 k3) M3 W ∧ Uno W (w.heap.size + 1) (.bool false) 4)
    (fun c i W => c = .ret ∧ Uno W (w.heap.size + 1) (.bool false) 4) (fun i W W' hj hc => ⟨hj.1, hj.2.1.cel hc, hc.uno hj.2.2⟩) (fun c i W W' hj hc => ⟨hj.1, hc.uno hj.2⟩) w.heap.size w (Nat.le_refl _) (Nat.le_trans HBA.out.size HB3.out.size)
    (fun i W hj => hj.2.1) ⟨⟨rfl, ⟨HU3.out.c0, HO3.out.row⟩, TU.out.keep HB3.out⟩, bafter HBA.out HB3.out (Nat.le_refl _)⟩ ?a1 ?assign ?body ?done ?stop
  case hg => rfl
  case assign =>
    intro l i W K hi hK
    unfold varV
    gi_wp2
    exact hK
  case body =>
    rintro l i W hi ⟨⟨rfl, hkn, hu⟩, hbw⟩
    have u0 := hu.c0
    have u1 := hu.f0 0
    have HUU := hide hu
    have HBW := hide hbw
    clear hkn hu hbw
    gi_wp2
    exact ⟨(KeepsOthers.setCell _ _ _).from _, ⟨rfl, HUU.out.put _⟩, HBW.out.setCell (p := ⟨w.heap.size + 1, 0, none⟩) (by show _ ≤ w.heap.size + 1; omega) _⟩
  case done =>
    rintro D W hD ⟨⟨h0, hkn, hu⟩, hbw⟩ hK
    have u0 := hu.c0
    have u1 := hu.f0 0
    have HUU := hide hu
    have HBW := hide hbw
    have HK := hide hK
    have H0 := hide h0
    have HD := hide hD
    clear hkn hu hbw hK h0 hD
    go_wp2
    have hK' := (KeepsOthers.setCell W ⟨w.heap.size + 1, 0, none⟩ (.bool true)).same D _ HK.out rfl
    refine ⟨by simp, .inl ⟨_, _, rfl, run_takeDeferred hK', ?_⟩⟩
    have hc5 := ((cel_put (.deferred none) hK' rfl).uno (HUU.out.put (.bool true))).c0
    refine ⟨.bool true, ?_, ps M3, ?_, HN3.out, HC3.out, (HBW.out.setCell (p := ⟨w.heap.size + 1, 0, none⟩) (by show _ ≤ w.heap.size + 1; omega) _).trans (belowK_b (w := w) (Nat.le_refl _) _ D _ _ (by have h1 := HD.out; have h2 := HBA.out.size; have h3 := HB3.out.size; omega) hK' rfl rfl)⟩
    · simp [results, Tryz.f17, go_sem, hc5]
    · rw [ps_length, H0.out]
      rfl
  case stop =>
    rintro D c i W hD hi ⟨⟨rfl, hu⟩, hbw⟩ hK
    have HUU := hide hu
    have HBW := hide hbw
    have HK := hide hK
    have HI := hide hi
    have HD := hide hD
    clear hu hbw hK hi hD
    gi_wp2
    refine ⟨by simp, .inl ⟨_, _, rfl, run_takeDeferred HK.out, ?_⟩⟩
    have hc5 := ((cel_put (.deferred none) HK.out rfl).uno HUU.out).c0
    refine ⟨.bool false, ?_, ps M3, ?_, HN3.out, HC3.out, HBW.out.trans (belowK_b (w := w) (Nat.le_refl _) _ D _ _ (by have h1 := HD.out; have h2 := HBA.out.size; have h3 := HB3.out.size; omega) HK.out rfl rfl)⟩
    · simp [results, Tryz.f17, go_sem, hc5]
    · rw [ps_length, decide_eq_false (by have := HI.out; omega)]

end Go.Proofs.YtkdhcpfmlelfcaaGreatDoor

namespace Go.Proofs.YtkdhcpfmlelfcaaGreatDoor
set_option linter.unusedVariables false
set_option linter.unusedSimpArgs false
set_option maxRecDepth 100000
open Go Go.RowKit Go.Shelf Go.Lib

/-- All blocks but one are as they were. -/
def NoUn (b : Nat) (W' W : World) : Prop := ∀ k, k ≠ b → W'.heap[k]? = W.heap[k]?
theorem noUn (b : Nat) (W : World) (v : Value) : NoUn b (W.setCell ⟨b, 0, none⟩ v) W := fun k hk => heap_setCell_other W ⟨b, 0, none⟩ k v hk
theorem NoUn.cell {b : Nat} {W' W : World} (h : NoUn b W' W) {a : Addr} {u : Value} (g : W.cell? a = some u) (hn : a.block ≠ b) : W'.cell? a = some u := (World.cell?_of_block (h a.block hn)).trans g
theorem NoUn.row {b : Nat} {W' W : World} (h : NoUn b W' W) {x : Value} {t : TypeId} (hb : Uno W b x t) {v : Value} {M : List Pt} (hr : RowP W v M) : RowP W' v M := by
  obtain ⟨ao, cap, e, h1, h2, h3⟩ := hr
  refine ⟨ao, cap, e, h1, h2, fun j m hj => ?_⟩
  obtain ⟨bb, o, e2, hc⟩ := h3 j m hj
  have hne : bb ≠ b := by
    intro e
    subst e
    have h4 := hc.2.2
    rw [cell_of_row W bb _ _ _ _ hb] at h4
    simp at h4
  exact ⟨bb, o, e2, hc.keep (fun a u hu ha => h.cell hu (by rw [ha]; exact hne))⟩
theorem NoUn.goodN {b n : Nat} {W' W : World} (h : NoUn b W' W) {M : List Pt} (hf : FrL n M) (hn : b < n) (hg : GoodN W M) : GoodN W' M := fun m hm => by
  obtain ⟨h1, dv, e, ds, ⟨ao, cap, e2, h2, h3, h4⟩, h5⟩ := hg m hm
  refine ⟨h1, dv, e, ds, ⟨ao, cap, e2, h2, h3, fun j hj => ?_⟩, h5⟩
  obtain ⟨bb, off, e3, hc⟩ := h4 j hj
  refine ⟨bb, off, e3, h.cell hc ?_⟩
  obtain ⟨b', dv', e4, h6⟩ := hf m hm
  rw [e] at e4
  simp only [Value.agg.injEq, Array.mk.injEq, List.cons.injEq, and_true] at e4
  have h7 := h6 ⟨bb, off, none⟩ _ _ (by rw [← e4.2, e2, e3])
  show bb ≠ b
  have h8 : n ≤ bb := h7
  omega

theorem kept_block {B D : Nat} {o : Obj} (h : D < B) : ∀ (W W' : World) (row : Option Nat), W.heap[D]? = some o → W.grownBy W' row → (∀ r, row = some r → B ≤ r ∧ ∃ o' : Obj, W.heap[r]? = some o' ∧ o'.isCells = false) → W'.heap[D]? = some o := fun W W' row hD hg hr =>
  (hg.block D (Array.getElem?_eq_some_iff.1 hD).1 (fun e => by have := (hr D e.symm).1; omega)).trans hD

/-- The same as range_knownC, where something else of memory is kept besides. -/
theorem range_knownE {P : Program} {g : Operand} {ps : Array Tmp} {assign body : Code} {Q : Exit → Act → World → Prop} {a : Act} {w : World}
    {gf : Nat} {lb : Array Value} (hg : a.eval g = .func (.func gf) #[] lb) (eg : ∀ args w, (callFunc gf args).run P w = .ok (.enter gf args) w)
    {N : Nat} {args : Nat → Array Value} {Know : Nat → World → Prop} (hseq : HandsB P gf lb N args Know) (hps : ∀ k, (args k).size = ps.size)
    (J : Nat → World → Prop) (Jx : Code → Nat → World → Prop) (hJ : ∀ k W W', J k W → Cel W W' → J k W') (hJx : ∀ c k W W', Jx c k W → Cel W W' → Jx c k W')
    (X : Nat → World → Prop) (hX : ∀ (k : Nat) (W W' : World) (row : Option Nat), X k W → W.grownBy W' row → (∀ r, row = some r → w.heap.size ≤ r ∧ ∃ o : Obj, W.heap[r]? = some o ∧ o.isCells = false) → X k W') (hXB : ∀ k W W', X k W → Below W.heap.size W W' → X k W')
    (n₀ : Nat) (w₀ : World) (hn : n₀ ≤ w₀.heap.size) (hn2 : n₀ ≤ w.heap.size)
    (hKn : ∀ k W, J k W → Know k W) (h0 : (J 0 w ∧ X 0 w) ∧ Below n₀ w₀ w) (o : Nat → Obj) (ho : ∀ k, (o k).isCells = true) (a₁ : Nat → Nat → Act)
    (hassign : ∀ (l k B : Nat) (W : World) (K : Act → World → Prop), k < N → W.heap.size = B → K (a₁ k B) (W.alloc (o k)) →
      assign.wpIn (Fence.wide.inRound l) 1 P (Exit.then K (fun _ _ _ => False)) { tmps := (ps.zip (args k)).foldl (fun t (p, v) => t.setIfInBounds p v) a.tmps, defers := [] } W)
    (hbody : ∀ (l k B : Nat) (W : World), k < N → J k W → X k W → Below n₀ w₀ W → W.heap[B]? = some (o k) → w.heap.size ≤ B →
      body.wpIn (Fence.wide.inRound l) 1 P (roundPost w.heap.size (fun k W => (J k W ∧ X k W) ∧ Below n₀ w₀ W) (fun c k W => (Jx c k W ∧ X k W) ∧ Below n₀ w₀ W) k W) (a₁ k B) W)
    (hdone : ∀ (D : Nat) (W : World), w.heap.size ≤ D → J N W → X N W → Below n₀ w₀ W → W.heap[D]? = some (.deferred (some [])) → Q .normal { a with defers := { target := .collected D, args := #[] } :: a.defers } W)
    (hstop : ∀ (D : Nat) (c : Code) (k : Nat) (W : World), w.heap.size ≤ D → k < N → Jx c k W → X k W → Below n₀ w₀ W → W.heap[D]? = some (.deferred (some [])) → c.wpIn Fence.wide 3 P Q { a with defers := { target := .collected D, args := #[] } :: a.defers } W) :
    (Code.rangeFunc g ps assign body).wpIn Fence.wide 3 P Q a w := by
  have hown : ∀ {β : Type} {F : β → World → Prop} (g : β → Nat), (∀ s W W', F s W → Cel W W' → F s W') → OwnFrom w.heap.size (fun s W => ((F s W ∧ X (g s) W) ∧ w.heap.size ≤ W.heap.size) ∧ Below n₀ w₀ W) := fun g hF s W W' row hs hgr hr =>
    ⟨⟨⟨hF s W W' hs.1.1.1 (cel_grown hgr hr), hX (g s) W W' row hs.1.1.2 hgr hr⟩, Nat.le_trans hs.1.2 hgr.size⟩, (ownFrom_below (β := Unit) hn hn2) () W W' row hs.2 hgr hr⟩
  refine range_knownA hg eg hseq hps (fun k W => ((J k W ∧ X k W) ∧ w.heap.size ≤ W.heap.size) ∧ Below n₀ w₀ W) (fun c k W => ((Jx c k W ∧ X k W) ∧ w.heap.size ≤ W.heap.size) ∧ Below n₀ w₀ W) (hown id hJ) (fun c => hown id (hJx c)) (fun k W h => hKn k W h.1.1.1)
    (fun k W W' h hb => ⟨⟨⟨hJ k W W' h.1.1.1 (Cel.of hb), hXB k W W' h.1.1.2 hb⟩, Nat.le_trans h.1.2 hb.size⟩, h.2.trans (hb.mono (Nat.le_trans hn h.2.size))⟩) ⟨⟨h0.1, Nat.le_refl _⟩, h0.2⟩
    (fun p W2 => ((((∃ B, p.2 = a₁ p.1 B ∧ W2.heap[B]? = some (o p.1) ∧ w.heap.size ≤ B) ∧ J p.1 W2) ∧ X p.1 W2) ∧ w.heap.size ≤ W2.heap.size) ∧ Below n₀ w₀ W2) (hown (fun (p : Nat × Act) => p.1) ?_) ?_ ?_ (fun D W hD h hK => hdone D W hD h.1.1.1 h.1.1.2 h.2 hK) (fun D c k W hD hk h hK => hstop D c k W hD hk h.1.1.1 h.1.1.2 h.2 hK)
  · rintro s W W' ⟨⟨B, e1, e2, e3⟩, e4⟩ hc
    exact ⟨⟨B, e1, hc _ _ e2 (ho _), e3⟩, hJ _ _ _ e4 hc⟩
  · intro l k W K hk hI hK
    exact hassign l k W.heap.size W K hk rfl (hK _ _ (bel _ _) ⟨⟨⟨⟨⟨W.heap.size, rfl, World.alloc_heap_new W _, hI.1.2⟩, hJ _ _ _ hI.1.1.1 (Cel.of (bel _ _))⟩, hXB _ _ _ hI.1.1.2 (bel _ _)⟩, Nat.le_trans hI.1.2 (bel W _).size⟩, bafter hI.2 (bel _ _) hn⟩)
  · rintro l k a1 W hk ⟨⟨⟨⟨⟨B, e1, e2, e3⟩, e4⟩, e7⟩, e6⟩, e5⟩
    dsimp only at e1 e2
    subst e1
    refine wpIn_mono (hbody l k B W hk e4 e7 e5 e2 e3) ?_
    rintro e a3 W3 hp
    cases e with
    | normal => exact ⟨hp.1, ⟨hp.2.1, Nat.le_trans e6 hp.1.size⟩, hp.2.2⟩
    | ret => exact ⟨hp.1, ⟨hp.2.1, Nat.le_trans e6 hp.1.size⟩, hp.2.2⟩
    | exit id => exact ⟨hp.1, ⟨hp.2.1, Nat.le_trans e6 hp.1.size⟩, hp.2.2⟩
    | goto t => exact ⟨hp.1, ⟨hp.2.1, Nat.le_trans e6 hp.1.size⟩, hp.2.2⟩
    | panic c => exact hp
    | outgrown => exact hp

end Go.Proofs.YtkdhcpfmlelfcaaGreatDoor

namespace Go.Proofs.YtkdhcpfmlelfcaaGreatDoor
set_option linter.unusedVariables false
set_option linter.unusedSimpArgs false
set_option maxRecDepth 100000
open Go Go.RowKit Go.Shelf Go.Lib
attribute [local go_sem] Oper.semAt_some

/-- What a variable is bound to: the first of its bindings. -/
def lookB (L : List Pt) (x : Int) : Option Pt := L.find? (fun m => m.1 == x)
def valB (m : Pt) : Value := .agg #[.bool m.2.1, m.2.2.1]
def lookV (L : List Pt) (x : Int) : Option Value := (lookB L x).map valB
def lookZ (L : List Pt) (x : Int) : Int := ((lookB L x).map (fun m => m.2.2.2)).getD 0
theorem lookV_nil : lookV [] = fun _ => none := rfl
theorem lookV_step {L : List Pt} {j : Nat} {m : Pt} (h : L[j]? = some m) : lookV (L.drop j) = fun y => if y = m.1 then some (valB m) else lookV (L.drop (j + 1)) y := by
  obtain ⟨h1, h2⟩ := List.getElem?_eq_some_iff.1 h
  funext y
  rw [List.drop_eq_getElem_cons h1, h2]
  unfold lookV lookB
  rw [List.find?_cons]
  by_cases e : y = m.1
  · subst e
    simp
  · have e2 : (m.1 == y) = false := beq_eq_false_iff_ne.2 (fun h => e h.symm)
    rw [e2, if_neg e]
theorem look_mem {L : List Pt} {x : Int} {m : Pt} (h : lookB L x = some m) : m ∈ L ∧ m.1 = x := ⟨List.mem_of_find?_eq_some h, by simpa using List.find?_some h⟩
theorem look_arg {W : World} {L : List Pt} (hG : GoodA W L) (x : Int) : BArg W ((lookV L x).getD zBig) (lookZ L x) := by
  unfold lookV lookZ
  cases h : lookB L x with
  | none => exact BRes.arg (k := 0) ⟨_, rfl, Res.nil _⟩ (by simp) (by omega)
  | some m => exact (hG m (look_mem h).1).2
theorem look_bnd {L : List Pt} {k : Nat} (hB : Bnd k (ps L)) (x : Int) : (lookZ L x).natAbs < R ^ k := by
  unfold lookZ
  cases h : lookB L x with
  | none => exact Nat.pow_pos R_pos
  | some m => exact hB (pt m) (List.mem_map.2 ⟨m, (look_mem h).1, rfl⟩)
theorem look_form {W : World} {L : List Pt} (hG : GoodA W L) (x : Int) : ∃ b a l c, (lookV L x).getD zBig = .agg #[.bool b, .slice a l c] := by
  unfold lookV
  cases h : lookB L x with
  | none => exact ⟨_, _, _, _, rfl⟩
  | some m =>
    obtain ⟨a, l, c, e⟩ := hG.sl m (look_mem h).1
    exact ⟨m.2.1, a, l, c, by simp [valB, e]⟩
theorem ev_take {M : List Pt} {i : Nat} {m : Pt} (h : M[i]? = some m) (f : Int → Int) : ev f (ps (M.take (i + 1))) = ev f (ps (M.take i)) + m.2.2.2 * f m.1 := by
  rw [List.take_add_one, h, ps_append, ev_append]
  show _ + (m.2.2.2 * f m.1 + 0) = _
  omega
theorem ev_bnd {k j : Nat} {f : Int → Int} (hf : ∀ x, (f x).natAbs < R ^ j) : ∀ {l : Ps}, Bnd k l → (ev f l).natAbs < R ^ (k + j + l.length)
  | [], _ => Nat.pow_pos R_pos
  | p :: l, h => by
    have h1 := ev_bnd hf (l := l) (fun q hq => h q (by simp [hq]))
    have h2 := bl_mul (h p (by simp)) (hf p.1)
    rw [ev_cons, List.length_cons, ← Nat.add_assoc]
    exact pl_add (lt_up h2 (by omega)) h1

theorem MapB.cel {W : World} {r : Nat} {f : Int → Option Value} (h : MapB W r f) (o : Obj) : Cel W (W.putObj r o) := by
  obtain ⟨es, clock, h1, _⟩ := h
  exact cel_put o h1 rfl
theorem below_obj {n : Nat} {w W : World} (h : Below n w W) {r : Nat} (hr : n ≤ r) (o : Obj) : Below n w (W.putObj r o) :=
  ⟨h.os, h.tape, h.output, by have := h.size; simpa using this, fun k hk => (World.putObj_heap_other (by omega)).trans (h.block k hk)⟩
theorem keepsFrom_obj {C r : Nat} {W : World} (hr : r < C) (o : Obj) : KeepsFrom C W (W.putObj r o) := ⟨by simp, fun k o' hk hb _ => (World.putObj_heap_other (by omega)).trans hb⟩
theorem kept_map {B r : Nat} {f : Int → Option Value} (h : r < B) : ∀ (W W' : World) (row : Option Nat), MapB W r f → W.grownBy W' row → (∀ r, row = some r → B ≤ r ∧ ∃ o' : Obj, W.heap[r]? = some o' ∧ o'.isCells = false) → MapB W' r f := fun W W' row hD hg hr =>
  hD.keep (hg.block r hD.lt (fun e => by have := (hr r e.symm).1; omega))

/-- A number in its box. -/
def SumAt (W : World) (b : Nat) (z : Int) : Prop := ∃ sn sa sL sc, Two W b (.bool sn) (.slice sa sL sc) 24 ∧ BRes W (.agg #[.bool sn, .slice sa sL sc]) z
def EvalE (w : World) (z : Int) (e : Ending) (w' : World) : Prop := ∃ rv, e = .returned rv ∧ BRes w' rv z ∧ Below w.heap.size w w'

set_option maxHeartbeats 16000000 in
theorem eval_calls {k : Nat} {w : World} {v : Value} {c : Int} {M : List Pt} (h : TermA k w v c M) {la : Option Addr} {Ln lk : Nat} {L : List Pt} (hR : RowP w (.slice la Ln lk) L) (hG : GoodA w L) (hB : Bnd k (ps L)) (hl : L.length ≤ 1000) (hk : k ≤ 100000) :
    Calls Tryz.prog 36 #[v, .slice la Ln lk] w fun e w' => EvalE w (c + ev (lookZ L) (ps M)) e w' := by
  obtain ⟨cn, ca, cL, cc, pa, pl, pc, rfl⟩ := h.form
  have hLn : L.length = Ln := by
    obtain ⟨_, _, e, _⟩ := hR
    simp only [Value.slice.injEq] at e
    exact e.2.1.symm
  have tb := (((Thr.new w (.bool cn) (.slice ca cL cc) (.slice pa pl pc) 27).alloc (.cells #[.bool false, .slice none 0 0] 24)).alloc (.map #[] 0)).alloc (.cells #[.map (some (w.heap.size + 1 + 1))] 103)
  have tz : Two ((((w.alloc (.cells #[.bool cn, .slice ca cL cc, .slice pa pl pc] 27)).alloc (.cells #[.bool false, .slice none 0 0] 24)).alloc (.map #[] 0)).alloc (.cells #[.map (some (w.heap.size + 1 + 1))] 103)) (w.heap.size + 1) (.bool false) (.slice none 0 0) 24 := ((Two.new1 w (.cells #[.bool cn, .slice ca cL cc, .slice pa pl pc] 27) (.bool false) (.slice none 0 0) 24).alloc (.map #[] 0)).alloc (.cells #[.map (some (w.heap.size + 1 + 1))] 103)
  have tm : MapB ((((w.alloc (.cells #[.bool cn, .slice ca cL cc, .slice pa pl pc] 27)).alloc (.cells #[.bool false, .slice none 0 0] 24)).alloc (.map #[] 0)).alloc (.cells #[.map (some (w.heap.size + 1 + 1))] 103)) (w.heap.size + 1 + 1) (fun _ => none) := by
    have h1 := MapB.made ((w.alloc (.cells #[.bool cn, .slice ca cL cc, .slice pa pl pc] 27)).alloc (.cells #[.bool false, .slice none 0 0] 24))
    rw [World.size_alloc, World.size_alloc] at h1
    exact h1.keep ((bel _ _).block _ h1.lt)
  have tu : Uno ((((w.alloc (.cells #[.bool cn, .slice ca cL cc, .slice pa pl pc] 27)).alloc (.cells #[.bool false, .slice none 0 0] 24)).alloc (.map #[] 0)).alloc (.cells #[.map (some (w.heap.size + 1 + 1))] 103)) (w.heap.size + 1 + 1 + 1) (.map (some (w.heap.size + 1 + 1))) 103 := by
    have h1 : Uno ((((w.alloc (.cells #[.bool cn, .slice ca cL cc, .slice pa pl pc] 27)).alloc (.cells #[.bool false, .slice none 0 0] 24)).alloc (.map #[] 0)).alloc (.cells #[.map (some (w.heap.size + 1 + 1))] 103)) _ (.map (some (w.heap.size + 1 + 1))) 103 := World.alloc_heap_new (((w.alloc (.cells #[.bool cn, .slice ca cL cc, .slice pa pl pc] 27)).alloc (.cells #[.bool false, .slice none 0 0] 24)).alloc (.map #[] 0)) (.cells #[.map (some (w.heap.size + 1 + 1))] 103)
    rw [World.size_alloc, World.size_alloc, World.size_alloc] at h1
    exact h1
  have hba : Below w.heap.size w ((((w.alloc (.cells #[.bool cn, .slice ca cL cc, .slice pa pl pc] 27)).alloc (.cells #[.bool false, .slice none 0 0] 24)).alloc (.map #[] 0)).alloc (.cells #[.map (some (w.heap.size + 1 + 1))] 103)) := bafter (bel3 w (.cells #[.bool cn, .slice ca cL cc, .slice pa pl pc] 27) (.cells #[.bool false, .slice none 0 0] 24) (.map #[] 0)) (bel _ _) (Nat.le_refl _)
  have hsA : ((((w.alloc (.cells #[.bool cn, .slice ca cL cc, .slice pa pl pc] 27)).alloc (.cells #[.bool false, .slice none 0 0] 24)).alloc (.map #[] 0)).alloc (.cells #[.map (some (w.heap.size + 1 + 1))] 103)).heap.size = w.heap.size + 1 + 1 + 1 + 1 := by rw [World.size_alloc, World.size_alloc, World.size_alloc, World.size_alloc]
  generalize hwA : (((w.alloc (.cells #[.bool cn, .slice ca cL cc, .slice pa pl pc] 27)).alloc (.cells #[.bool false, .slice none 0 0] 24)).alloc (.map #[] 0)).alloc (.cells #[.map (some (w.heap.size + 1 + 1))] 103) = wA at *
  have HSA := hide hsA
  have hback := back_calls wA la Ln lk
  have HT := hide h
  have HR := hide hR
  have HG := hide hG
  have HBD := hide hB
  have HLL := hide hl
  have HWA := hide hwA
  have HBA := hide hba
  have TB := hide tb
  have TZ := hide tz
  have TM := hide tm
  have TU := hide tu
  have HLN := hide hLn
  clear hwA tb tz tm tu hba h hR hG hB hl hsA hLn
  refine calls_of_marks Tryz.func36 rfl ?_
  simp only [Tryz.ntmps36, List.size_toArray, List.length_cons, List.length_nil, Nat.reduceAdd, Nat.reduceSub, Array.replicate_succ, Array.replicate_zero, List.push_toArray, List.append_toArray, List.nil_append, List.cons_append]
  have hmm := @run_makeMap Tryz.prog
  go_upto_region 2 with fail
  clear hmm
  rw [HWA.out]
  go_wp2_with fail
  refine hback.mono ?_
  clear hback
  rintro e w1 ⟨B1, rfl, hu1, hB1, hb1⟩
  have HU1 := hide hu1
  have HB1 := hide hb1
  have HW1 := hide (bafter HBA.out hb1 (Nat.le_refl _))
  have HRW1 := hide (HR.out.below HW1.out)
  have HSZ1 : Hid (w.heap.size + 1 + 1 + 1 < w1.heap.size) := (TU.out.keep hb1).lt
  clear hu1 hB1 hb1
  go_wp2_with fail
  refine (wpIn_wide (n := 3)).1 ?_
  refine range_knownE (gf := 100) (lb := #[.pointer (some ⟨B1, 0, none⟩)]) ?hg (enters_of Tryz.func100 (by kernel_rfl) rfl)
    (back_hands B1 (.slice la Ln lk) L HG.out.sl (by have := HLL.out; omega)) (fun _ => rfl)
    (fun i W => VarsKnow B1 (.slice la Ln lk) L W ∧ Thr W w.heap.size (.bool cn) (.slice ca cL cc) (.slice pa pl pc) 27 ∧ Two W (w.heap.size + 1) (.bool false) (.slice none 0 0) 24 ∧ Uno W (w.heap.size + 1 + 1 + 1) (.map (some (w.heap.size + 1 + 1))) 103)
    (fun _ _ _ => False) (fun i W W' hj hc => ⟨hj.1.cel hc, hc.thr hj.2.1, hc.two hj.2.2.1, hc.uno hj.2.2.2⟩) (fun _ _ _ _ h _ => h.elim)
    (fun i W => MapB W (w.heap.size + 1 + 1) (lookV (L.drop (L.length - i)))) (fun i => kept_map (by have := HSZ1.out; omega)) (fun i W W' h hb => h.keep (hb.block _ h.lt)) w.heap.size w (Nat.le_refl _) HW1.out.size
    (fun i W hj => hj.1) ⟨⟨⟨⟨HU1.out.c0, HRW1.out⟩, TB.out.keep HB1.out, TZ.out.keep HB1.out, TU.out.keep HB1.out⟩, ?start⟩, HW1.out⟩
    (fun i => .cells #[.int .i64 (atP L (L.length - 1 - i)).1, .bool (atP L (L.length - 1 - i)).2.1, (atP L (L.length - 1 - i)).2.2.1] 79) (fun _ => rfl) ?a1 ?assign ?body ?done ?stop
  case hg => rfl
  case start =>
    rw [Nat.sub_zero, List.drop_length, lookV_nil]
    exact TM.out.keep (HB1.out.block _ TM.out.lt)
  case assign =>
    intro l i B W K hi hB hK
    have hj : L.length - 1 - i < L.length := by omega
    obtain ⟨ma, mL, mc, hsl⟩ := HG.out.sl (atP L (L.length - 1 - i)) (by rw [atP_of (List.getElem?_eq_getElem hj)]; exact List.getElem_mem hj)
    unfold backV
    rw [hsl]
    have HSL := hide hsl
    have HBE := hide hB
    generalize hA1 : (atP L (L.length - 1 - i)).1 = vr at *
    generalize hA2 : (atP L (L.length - 1 - i)).2.1 = nb at *
    generalize hA3 : (L.length : Int) - 1 - (i : Int) = ix at *
    have HA1 := hide hA1
    have HA2 := hide hA2
    have HA3 := hide hA3
    clear hsl hB hA1 hA2 hA3 hj
    gi_wp2
    have hsl := HSL.out
    have hB := HBE.out
    have hA1 := HA1.out
    have hA2 := HA2.out
    have hA3 := HA3.out
    rw [hB]
    subst hA1
    subst hA2
    subst hA3
    rw [← hsl]
    exact hK
  case body =>
    rintro l i B W hi ⟨jv, jA, jZ, jU⟩ jX hbw hB hBlt
    have hj : L.length - 1 - i < L.length := by omega
    obtain ⟨⟨vr, nb, mv, cz⟩, hm⟩ : ∃ m, L[L.length - 1 - i]? = some m := ⟨_, List.getElem?_eq_getElem hj⟩
    obtain ⟨ma, mL, mc, e⟩ := HG.out.sl _ (List.mem_of_getElem? hm)
    simp only at e
    subst e
    try dsimp only
    rw [atP_of hm] at hB ⊢
    have hB' : Thr W B (.int .i64 vr) (.bool nb) (.slice ma mL mc) 79 := hB
    have hrg : Rng vr := (HG.out _ (List.mem_of_getElem? hm)).1
    obtain ⟨o, hrun, hoc, hmp⟩ := jX.put hrg (.agg #[.bool nb, .slice ma mL mc])
    have hcel := jX.cel o
    have HMP : Hid (MapB (W.putObj (w.heap.size + 1 + 1) o) (w.heap.size + 1 + 1) (lookV (L.drop (L.length - (i + 1))))) := by
      have h1 := lookV_step hm
      have e1 : L.length - (i + 1) = L.length - 1 - i := by omega
      have e2 : L.length - 1 - i + 1 = L.length - i := by omega
      rw [e2] at h1
      show MapB _ _ _
      rw [e1, h1]
      exact hmp
    obtain ⟨b0, b1, b2, _, _, _⟩ := hB'.every
    have u0 := jU.c0
    have HK1 := hide (show VarsKnow B1 (.slice la Ln lk) L (W.putObj (w.heap.size + 1 + 1) o) from jv.cel hcel)
    have HK2 := hide (hcel.thr jA)
    have HK3 := hide (hcel.two jZ)
    have HK4 := hide (hcel.uno jU)
    have HBW := hide (below_obj hbw (show w.heap.size ≤ w.heap.size + 1 + 1 by omega) o)
    clear jv jA jZ jU jX hbw hB hB' hBlt hm hmp hcel hoc hj
    gi_wp2
    exact ⟨keepsFrom_obj (by have := HSZ1.out; omega) o, ⟨⟨HK1.out, HK2.out, HK3.out, HK4.out⟩, HMP.out⟩, HBW.out⟩
  case done =>
    rintro D W hD ⟨jv, jA, jZ, jU⟩ jX hbw hK
    rw [Nat.sub_self, List.drop_zero] at jX
    have hno := bnorm_calls (HT.out.num.below hbw)
    obtain ⟨a0, a1, a2, _, _, _⟩ := jA.every
    have HJA := hide jA
    have HJZ := hide jZ
    have HJU := hide jU
    have HJX := hide jX
    have HBW := hide hbw
    have HKD := hide hK
    have HD := hide hD
    clear jv jA jZ jU jX hbw hK hD
    go_wp2_with fail
    refine hno.mono ?_
    rintro e w4 ⟨v4, rfl, hr4, hb4⟩
    obtain ⟨sn0, sa0, sL0, sc0, rfl⟩ := hr4.form
    have hbx := bel w4 (.cells #[.bool sn0, .slice sa0 sL0 sc0] 24)
    have HTS := hide (Two.new w4 (.bool sn0) (.slice sa0 sL0 sc0) 24)
    have HRS := hide (hr4.below hbx)
    have HB4 := hide (bafter hb4 hbx (Nat.le_refl _))
    have HW4 := hide (bafter (bafter HBW.out hb4 (Nat.le_refl _)) hbx (Nat.le_refl _))
    have HSG4 : Hid (w.heap.size + 1 + 1 + 1 < w4.heap.size) := (HJU.out.keep hb4).lt
    have hsz4 : (w4.alloc (.cells #[.bool sn0, .slice sa0 sL0 sc0] 24)).heap.size = w4.heap.size + 1 := World.size_alloc _ _
    have HSZ4 := hide hsz4
    clear hno hr4 hb4 hbx a0 a1 a2 hsz4
    go_upto_region 6 with fail
    generalize hw5 : w4.alloc (.cells #[.bool sn0, .slice sa0 sL0 sc0] 24) = w5 at *
    have hvars := vars_calls (HT.out.below HW4.out) (by omega)
    obtain ⟨a0, a1, a2, _, _, _⟩ := (HJA.out.keep HB4.out).every
    clear hw5
    go_wp2_with fail
    refine hvars.mono ?_
    clear hvars a0 a1 a2
    rintro e w3 ⟨B0, M3, a3, l3, k3, rfl, hu3, hB0, ho3, hg3, hn3, hc3, hb3⟩
    have HU3 := hide hu3
    have HO3 := hide ho3
    have HG3 := hide hg3
    have HN3 := hide hn3
    have HC3 := hide hc3
    have HB3 := hide hb3
    have HB43 := hide (bafter HB4.out hb3 (Nat.le_refl _))
    have HW3 := hide (bafter HW4.out hb3 (Nat.le_refl _))
    obtain ⟨bS, hbS⟩ : ∃ bS, w4.heap.size = bS := ⟨_, rfl⟩
    rw [hbS] at HTS HSG4 HSZ4 ⊢
    have HBSG : Hid (w.heap.size + 1 + 1 + 1 < bS) := HSG4.out
    have HBSL : Hid (bS < w3.heap.size) := by have h1 := hb3.size; have h2 := HSZ4.out; show _ < _; omega
    have HL3 : Hid (M3.length ≤ 1000) := by
      have h1 := len_of hn3 hc3
      have h2 := HT.out.len
      show _ ≤ _
      omega
    have HBN : Hid (Bnd (k + 1000) (ps M3)) := fun p hp => lt_up (nf_bnd hn3 hc3 HT.out.bnd.1 p hp) (by rw [ps_length]; have := HT.out.len; omega)
    clear hu3 hB0 ho3 hg3 hn3 hc3 hb3 hbS
    go_wp2_with fail
    refine (wpIn_wide (n := 3)).1 ?_
    refine range_knownE (gf := 74) (lb := #[.pointer (some ⟨B0, 0, none⟩)]) ?hg2 (enters_of Tryz.func74 (by kernel_rfl) rfl)
      (vars_hands B0 (.slice a3 l3 k3) M3 HG3.out.sl (by have := HL3.out; omega)) (fun _ => rfl)
      (fun i W => (Uno W B0 (.slice a3 l3 k3) 25 ∧ RowP W (.slice a3 l3 k3) M3 ∧ GoodR W M3 ∧ Two W (w.heap.size + 1) (.bool false) (.slice none 0 0) 24 ∧ Uno W (w.heap.size + 1 + 1 + 1) (.map (some (w.heap.size + 1 + 1))) 103) ∧ SumAt W bS (c + ev (lookZ L) (ps (M3.take i))))
      (fun _ _ _ => False) (fun i W W' ⟨⟨j1, j2, j3, j4, j7⟩, sn, sa, sL, sc, j5, j6⟩ hc => ⟨⟨hc.uno j1, hc.row j2, j3.k32 hc.k32, hc.two j4, hc.uno j7⟩, sn, sa, sL, sc, hc.two j5, j6.k32 hc.k32⟩) (fun _ _ _ _ h _ => h.elim)
      (fun _ W => MapB W (w.heap.size + 1 + 1) (lookV L) ∧ W.heap[D]? = some (.deferred (some [])))
      (fun _ W W' row h hg hr => ⟨kept_map (by have := HBSG.out; have := HBSL.out; omega) W W' row h.1 hg hr, kept_block (by have h1 := (Array.getElem?_eq_some_iff.1 HKD.out).1; have h2 := HB43.out.size; omega) W W' row h.2 hg hr⟩)
      (fun _ W W' h hb => ⟨h.1.keep (hb.block _ h.1.lt), (hb.block D (Array.getElem?_eq_some_iff.1 h.2).1).trans h.2⟩) w.heap.size w (Nat.le_refl _) HW3.out.size
      (fun i W hj => ⟨hj.1.1.c0, hj.1.2.1⟩) ⟨⟨⟨⟨HU3.out, HO3.out.row, HG3.out, HJZ.out.keep HB43.out, HJU.out.keep HB43.out⟩, _, _, _, _, HTS.out.keep HB3.out, ?start2⟩, HJX.out.keep (HB43.out.block _ HJX.out.lt), (HB43.out.block D (Array.getElem?_eq_some_iff.1 HKD.out).1).trans HKD.out⟩, HW3.out⟩
      (fun i => .cells #[.bool (atP M3 i).2.1, (atP M3 i).2.2.1] 24) (fun _ => rfl) ?a2 ?assign2 ?body2 ?done2 ?stop2
    case hg2 => rfl
    case start2 =>
      show BRes _ _ (c + 0)
      rw [Int.add_zero]
      exact HRS.out.below HB3.out
    case assign2 =>
      intro l i B W K hi hB hK
      obtain ⟨ma, mL, mc, hsl⟩ := HG3.out.sl (atP M3 i) (by rw [atP_of (List.getElem?_eq_getElem hi)]; exact List.getElem_mem hi)
      unfold varV
      rw [hsl]
      have HSL := hide hsl
      have HBE := hide hB
      generalize hA1 : (atP M3 i).1 = vr at *
      generalize hA2 : (atP M3 i).2.1 = nb at *
      have HA1 := hide hA1
      have HA2 := hide hA2
      clear hsl hB hA1 hA2
      gi_wp2
      have hsl := HSL.out
      have hB := HBE.out
      have hA1 := HA1.out
      have hA2 := HA2.out
      rw [hB]
      subst hA1
      subst hA2
      rw [← hsl]
      exact hK
    case body2 =>
      rintro l i B W hi ⟨⟨j1, j2, j3, j4, j7⟩, sn, sa, sL, sc, j5, j6⟩ ⟨jX, jD⟩ hbw hB hBlt
      obtain ⟨⟨vr, nb, mv, cz⟩, hm⟩ : ∃ m, M3[i]? = some m := ⟨_, List.getElem?_eq_getElem hi⟩
      obtain ⟨ma, mL, mc, e⟩ := HG3.out.sl _ (List.mem_of_getElem? hm)
      simp only at e
      subst e
      try dsimp only
      rw [atP_of hm] at hB ⊢
      have hB' : Two W B (.bool nb) (.slice ma mL mc) 24 := hB
      obtain ⟨lb, ba, bL, bc, hlk⟩ := look_form HG.out vr
      have hrg : Rng vr := (j3 _ (List.mem_of_getElem? hm)).1
      have hcb : cz.natAbs < R ^ (k + 1000) := HBN.out (vr, cz) (List.mem_map.2 ⟨_, List.mem_of_getElem? hm, rfl⟩)
      have hlg := look_arg (HG.out.below hbw) vr
      rw [hlk] at hlg
      have HMUL := hide (fun (Y : World) (hY : Below W.heap.size W Y) => bmul_calls (((j3 _ (List.mem_of_getElem? hm)).2.arg hcb (by omega)).below hY) (hlg.below hY))
      have HPB : Hid ((cz * lookZ L vr).natAbs < R ^ (k + 1000 + k)) := bl_mul hcb (look_bnd HBD.out vr)
      have HSB : Hid ((c + ev (lookZ L) (ps (M3.take i))).natAbs < R ^ (k + 1000 + k + 1000 + 1)) := by
        refine pl_add (lt_up HT.out.bnd.2 (by omega)) (lt_up (ev_bnd (k := k + 1000) (look_bnd HBD.out) (fun p hp => HBN.out p (by
          unfold ps at hp ⊢
          rw [List.map_take] at hp
          exact List.mem_of_mem_take hp))) ?_)
        have h9 : (ps (M3.take i)).length ≤ 1000 := by rw [ps_length, List.length_take]; have := HL3.out; omega
        omega
      have HEV : Hid (c + ev (lookZ L) (ps (M3.take (i + 1))) = c + ev (lookZ L) (ps (M3.take i)) + cz * lookZ L vr) := by
        show _ = _
        rw [ev_take hm]
        show c + (_ + cz * lookZ L vr) = _
        omega
      generalize hzl : lookZ L vr = zl at *
      generalize hzs : c + ev (lookZ L) (ps (M3.take i)) = zs at *
      have J1 := hide j1
      have J2 := hide j2
      have J3 := hide j3
      have J4 := hide j4
      have J5 := hide j5
      have J6 := hide j6
      have J7 := hide j7
      have HMP := hide jX
      have HDF := hide jD
      have HBW := hide hbw
      have HBB := hide hB'
      have HBL := hide hBlt
      have HRGV := hide hrg
      have HLK := hide hlk
      have HS : Hid (∀ Y : World, Below W.heap.size W Y → Y.cell? ⟨B, 0, none⟩ = some (.bool nb) ∧ Y.cell? ⟨B, 1, none⟩ = some (.slice ma mL mc) ∧ Y.cell? ⟨w.heap.size + 1 + 1 + 1, 0, none⟩ = some (.map (some (w.heap.size + 1 + 1))) ∧ (Instr.lookup 103 (.map (some (w.heap.size + 1 + 1))) (.int .i64 vr) false).run Tryz.prog Y = .ok (.agg #[.bool lb, .slice ba bL bc]) Y) := fun Y hY => by
        have h9 := (HMP.out.keep (hY.block _ HMP.out.lt)).look HRGV.out
        rw [HLK.out] at h9
        exact ⟨(HBB.out.keep hY).c0, (HBB.out.keep hY).c1, (J7.out.keep hY).c0, h9⟩
      clear hm j1 j2 j3 j4 j5 j6 j7 jX jD hbw hB hB' hBlt hrg hlk hcb hlg hzl hzs
      gi_wp2
      refine round_any 1 l (by kernel_rfl) (no_defer (by simp)) (by rintro ⟨_, _, h⟩; exact h) (wpAny_of_held (S := fun Y : World => Y.cell? ⟨B, 0, none⟩ = some (.bool nb) ∧ Y.cell? ⟨B, 1, none⟩ = some (.slice ma mL mc) ∧ Y.cell? ⟨w.heap.size + 1 + 1 + 1, 0, none⟩ = some (.map (some (w.heap.size + 1 + 1))) ∧ (Instr.lookup 103 (.map (some (w.heap.size + 1 + 1))) (.int .i64 vr) false).run Tryz.prog Y = .ok (.agg #[.bool lb, .slice ba bL bc]) Y) _ _ _ _ ?_)
      have hHeld : (fun Y : World => Y.cell? ⟨B, 0, none⟩ = some (.bool nb) ∧ Y.cell? ⟨B, 1, none⟩ = some (.slice ma mL mc) ∧ Y.cell? ⟨w.heap.size + 1 + 1 + 1, 0, none⟩ = some (.map (some (w.heap.size + 1 + 1))) ∧ (Instr.lookup 103 (.map (some (w.heap.size + 1 + 1))) (.int .i64 vr) false).run Tryz.prog Y = .ok (.agg #[.bool lb, .slice ba bL bc]) Y) W.drew := HS.out _ ((Below.refl _ _).drew)
      refine takeD (i := 1) (v := ?v1) (some 29) rfl (by kernel_rfl) (by kernel_rfl) (by kernel_rfl) (fun _ _ _ h => h) (Or.inl ⟨by rfl, ?hy1⟩) (by assumption) (by rfl) ?rest1
      case hy1 => first | (intro w hSw; (try dsimp only at hSw); obtain ⟨q0, q1, q2, q3⟩ := hSw; go_simp; done) | (intro w hSw; (try dsimp only at hSw); obtain ⟨q0, q1, q2, q3⟩ := hSw; go_simp; with_reducible rfl)
      try simp only [Act.put, List.setIfInBounds_toArray, List.set_cons_zero, List.set_cons_succ]
      refine takeD (i := 2) (v := ?v2) (some 30) rfl (by kernel_rfl) (by kernel_rfl) (by kernel_rfl) (fun _ _ _ h => h) (Or.inl ⟨by rfl, ?hy2⟩) (by assumption) (by rfl) ?rest2
      case hy2 => first | (intro w hSw; (try dsimp only at hSw); obtain ⟨q0, q1, q2, q3⟩ := hSw; go_simp; done) | (intro w hSw; (try dsimp only at hSw); obtain ⟨q0, q1, q2, q3⟩ := hSw; go_simp; with_reducible rfl)
      try simp only [Act.put, List.setIfInBounds_toArray, List.set_cons_zero, List.set_cons_succ]
      refine takeD (i := 3) (v := ?v3) (some 31) rfl (by kernel_rfl) (by kernel_rfl) (by kernel_rfl) (fun _ _ _ h => h) (Or.inl ⟨by rfl, ?hy3⟩) (by assumption) (by rfl) ?rest3
      case hy3 => first | (intro w hSw; (try dsimp only at hSw); obtain ⟨q0, q1, q2, q3⟩ := hSw; go_simp; done) | (intro w hSw; (try dsimp only at hSw); obtain ⟨q0, q1, q2, q3⟩ := hSw; go_simp; with_reducible rfl)
      try simp only [Act.put, List.setIfInBounds_toArray, List.set_cons_zero, List.set_cons_succ]
      refine takeD (i := 4) (v := ?v4) (some 32) rfl (by kernel_rfl) (by kernel_rfl) (by kernel_rfl) (fun _ _ _ h => h) (Or.inl ⟨by rfl, ?hy4⟩) (by assumption) (by rfl) ?rest4
      case hy4 => first | (intro w hSw; (try dsimp only at hSw); obtain ⟨q0, q1, q2, q3⟩ := hSw; go_simp; done) | (intro w hSw; (try dsimp only at hSw); obtain ⟨q0, q1, q2, q3⟩ := hSw; go_simp; with_reducible rfl)
      try simp only [Act.put, List.setIfInBounds_toArray, List.set_cons_zero, List.set_cons_succ]
      refine wpAnyH_ready (rs := [0, 5]) (by kernel_rfl) (by simp) ?_
      refine AllReadyH.cons rfl (fun K hK => ?_) (AllReadyH.cons rfl (fun K hK => ?_) AllReadyH.nil)
      · obtain ⟨s0, s1, _, _, _, _⟩ := (J5.out.keep (by first | exact (Below.refl _ W) | exact ((Below.refl _ W)).drew)).every
        go_simp
        refine hK.out _ _ (HS.out _ (by first | exact (Below.refl _ W) | exact ((Below.refl _ W)).drew)) (fun hHeld => ?_)
        clear hK K
        try simp only [Act.put, List.setIfInBounds_toArray, List.set_cons_zero, List.set_cons_succ]
        clear s0 s1
        refine wpAnyH_ready (rs := [5]) (by kernel_rfl) (by simp) ?_
        refine AllReadyH.cons rfl (fun K hK => ?_) AllReadyH.nil
        go_simp
        refine (HMUL.out _ (by first | exact (Below.refl _ W) | exact ((Below.refl _ W)).drew)).mono ?_
        rintro e w4 ⟨v4, rfl, hr4, hb4⟩
        obtain ⟨pb, pa4, pL, pk, rfl⟩ := hr4.form
        have HB4 : Hid (Below W.heap.size W w4) := bafter (by first | exact (Below.refl _ W) | exact ((Below.refl _ W)).drew) hb4 (Nat.le_refl _)
        have HR4 := hide hr4
        clear hr4 hb4 hHeld
        go_wp2_with fail
        refine hK.out _ _ (HS.out _ HB4.out) (fun hHeld => ?_)
        clear hK K
        try simp only [Act.put, List.setIfInBounds_toArray, List.set_cons_zero, List.set_cons_succ]
        refine wpAnyH_ready (rs := [6]) (by kernel_rfl) (by simp) ?_
        refine AllReadyH.cons rfl (fun K hK => ?_) AllReadyH.nil
        go_simp
        refine (badd_calls ((J6.out.below HB4.out).arg HSB.out (by omega)) (HR4.out.arg HPB.out (by omega))).mono ?_
        rintro e w5 ⟨v5, rfl, hr5, hb5⟩
        obtain ⟨rb, ra, rL, rc, rfl⟩ := hr5.form
        have HB5 : Hid (Below W.heap.size W w5) := bafter HB4.out hb5 (Nat.le_refl _)
        have HR5 := hide hr5
        clear hr5 hb5 hHeld
        go_wp2_with fail
        refine hK.out _ _ (HS.out _ HB5.out) (fun hHeld => ?_)
        clear hK K
        try simp only [Act.put, List.setIfInBounds_toArray, List.set_cons_zero, List.set_cons_succ]
        have HT5 := hide (J5.out.keep HB5.out)
        obtain ⟨p0, p1, p2, p3, _, _⟩ := HT5.out.every
        have hbut := HT5.out.but (.bool rb) (.slice ra rL rc)
        have HS5 : Hid (let Y := (w5.setCell ⟨bS, 0, none⟩ (.bool rb)).setCell ⟨bS, 1, none⟩ (.slice ra rL rc); Y.cell? ⟨B, 0, none⟩ = some (.bool nb) ∧ Y.cell? ⟨B, 1, none⟩ = some (.slice ma mL mc) ∧ Y.cell? ⟨w.heap.size + 1 + 1 + 1, 0, none⟩ = some (.map (some (w.heap.size + 1 + 1))) ∧ (Instr.lookup 103 (.map (some (w.heap.size + 1 + 1))) (.int .i64 vr) false).run Tryz.prog Y = .ok (.agg #[.bool lb, .slice ba bL bc]) Y) := by
          obtain ⟨h1, h2, h3, h4⟩ := HS.out _ HB5.out
          have hne1 : B ≠ bS := by have := HBL.out; have := HBSL.out; omega
          have hne2 : w.heap.size + 1 + 1 + 1 ≠ bS := by have := HBSG.out; omega
          have hne3 : (w.heap.size + 1 + 1) ≠ bS := by have := HBSG.out; omega
          refine ⟨(World.cell?_of_block (a := ⟨B, 0, none⟩) (hbut.same B hne1)).trans h1, (World.cell?_of_block (a := ⟨B, 1, none⟩) (hbut.same B hne1)).trans h2, (World.cell?_of_block (hbut.same _ hne2)).trans h3, ?_⟩
          have hmp := (HMP.out.keep (HB5.out.block _ HMP.out.lt)).keep (hbut.same _ hne3)
          have h9 := hmp.look HRGV.out
          rw [HLK.out] at h9
          exact h9
        clear hbut
        refine wpAnyH_ready (rs := [7]) (by kernel_rfl) (by simp) ?_
        refine AllReadyH.cons rfl (fun K hK => ?_) AllReadyH.nil
        go_simp
        refine hK.out _ _ (HS5.out) (fun hHeld => ?_)
        clear hK K hHeld
        try simp only [Act.put, List.setIfInBounds_toArray, List.set_cons_zero, List.set_cons_succ]
        refine wpAnyH_done (by kernel_rfl) ?_ _
        (try simp only [Exit.then])
        clear p0 p1 p2 p3
        gi_wp2
        have hbut := HT5.out.but (.bool rb) (.slice ra rL rc)
        have hne2 : w.heap.size + 1 + 1 + 1 ≠ bS := by have := HBSG.out; omega
        have hne3 : (w.heap.size + 1 + 1) ≠ bS := by have := HBSG.out; omega
        have hne4 : w.heap.size + 1 ≠ bS := by have := HBSG.out; omega
        refine ⟨((keepsFrom_of HB5.out).trans (((KeepsOthers.setCell _ _ _).trans (KeepsOthers.setCell _ _ _)).from _)), ⟨⟨⟨?_, hbut.row (J2.out.below HB5.out), (J3.out.below HB5.out).k32 hbut.k32, (hbut.same _ hne4).trans (J4.out.keep HB5.out), (hbut.same _ hne2).trans (J7.out.keep HB5.out)⟩, rb, ra, rL, rc, HT5.out.put _ _, ?_⟩, (HMP.out.keep (HB5.out.block _ HMP.out.lt)).keep (hbut.same _ hne3), ?_⟩, below_put (bafter HBW.out HB5.out (Nat.le_refl _)) (by have := HBSG.out; omega) _ _⟩
        · exact (hbut.same B0 (by
            intro e
            have h1 := J1.out.keep HB5.out
            rw [e] at h1
            exact absurd (h1.symm.trans HT5.out) (by simp))).trans (J1.out.keep HB5.out)
        · rw [HEV.out]
          exact HR5.out.put HT5.out (.bool rb) (.slice ra rL rc)
        · exact ((KeepsOthers.setCell w5 ⟨bS, 0, none⟩ (.bool rb)).trans (KeepsOthers.setCell _ ⟨bS, 1, none⟩ (.slice ra rL rc))).same D _ ((HB5.out.block D (Array.getElem?_eq_some_iff.1 HDF.out).1).trans HDF.out) rfl
      · go_simp
        refine (HMUL.out _ (by first | exact (Below.refl _ W) | exact ((Below.refl _ W)).drew)).mono ?_
        rintro e w4 ⟨v4, rfl, hr4, hb4⟩
        obtain ⟨pb, pa4, pL, pk, rfl⟩ := hr4.form
        have HB4 : Hid (Below W.heap.size W w4) := bafter (by first | exact (Below.refl _ W) | exact ((Below.refl _ W)).drew) hb4 (Nat.le_refl _)
        have HR4 := hide hr4
        clear hr4 hb4 hHeld
        go_wp2_with fail
        refine hK.out _ _ (HS.out _ HB4.out) (fun hHeld => ?_)
        clear hK K
        try simp only [Act.put, List.setIfInBounds_toArray, List.set_cons_zero, List.set_cons_succ]
        refine wpAnyH_ready (rs := [0]) (by kernel_rfl) (by simp) ?_
        refine AllReadyH.cons rfl (fun K hK => ?_) AllReadyH.nil
        obtain ⟨s0, s1, _, _, _, _⟩ := (J5.out.keep (by first | exact HB4.out | exact (HB4.out).drew)).every
        go_simp
        refine hK.out _ _ (HS.out _ (by first | exact HB4.out | exact (HB4.out).drew)) (fun hHeld => ?_)
        clear hK K
        try simp only [Act.put, List.setIfInBounds_toArray, List.set_cons_zero, List.set_cons_succ]
        clear s0 s1
        refine wpAnyH_ready (rs := [6]) (by kernel_rfl) (by simp) ?_
        refine AllReadyH.cons rfl (fun K hK => ?_) AllReadyH.nil
        go_simp
        refine (badd_calls ((J6.out.below HB4.out).arg HSB.out (by omega)) (HR4.out.arg HPB.out (by omega))).mono ?_
        rintro e w5 ⟨v5, rfl, hr5, hb5⟩
        obtain ⟨rb, ra, rL, rc, rfl⟩ := hr5.form
        have HB5 : Hid (Below W.heap.size W w5) := bafter HB4.out hb5 (Nat.le_refl _)
        have HR5 := hide hr5
        clear hr5 hb5 hHeld
        go_wp2_with fail
        refine hK.out _ _ (HS.out _ HB5.out) (fun hHeld => ?_)
        clear hK K
        try simp only [Act.put, List.setIfInBounds_toArray, List.set_cons_zero, List.set_cons_succ]
        have HT5 := hide (J5.out.keep HB5.out)
        obtain ⟨p0, p1, p2, p3, _, _⟩ := HT5.out.every
        have hbut := HT5.out.but (.bool rb) (.slice ra rL rc)
        have HS5 : Hid (let Y := (w5.setCell ⟨bS, 0, none⟩ (.bool rb)).setCell ⟨bS, 1, none⟩ (.slice ra rL rc); Y.cell? ⟨B, 0, none⟩ = some (.bool nb) ∧ Y.cell? ⟨B, 1, none⟩ = some (.slice ma mL mc) ∧ Y.cell? ⟨w.heap.size + 1 + 1 + 1, 0, none⟩ = some (.map (some (w.heap.size + 1 + 1))) ∧ (Instr.lookup 103 (.map (some (w.heap.size + 1 + 1))) (.int .i64 vr) false).run Tryz.prog Y = .ok (.agg #[.bool lb, .slice ba bL bc]) Y) := by
          obtain ⟨h1, h2, h3, h4⟩ := HS.out _ HB5.out
          have hne1 : B ≠ bS := by have := HBL.out; have := HBSL.out; omega
          have hne2 : w.heap.size + 1 + 1 + 1 ≠ bS := by have := HBSG.out; omega
          have hne3 : (w.heap.size + 1 + 1) ≠ bS := by have := HBSG.out; omega
          refine ⟨(World.cell?_of_block (a := ⟨B, 0, none⟩) (hbut.same B hne1)).trans h1, (World.cell?_of_block (a := ⟨B, 1, none⟩) (hbut.same B hne1)).trans h2, (World.cell?_of_block (hbut.same _ hne2)).trans h3, ?_⟩
          have hmp := (HMP.out.keep (HB5.out.block _ HMP.out.lt)).keep (hbut.same _ hne3)
          have h9 := hmp.look HRGV.out
          rw [HLK.out] at h9
          exact h9
        clear hbut
        refine wpAnyH_ready (rs := [7]) (by kernel_rfl) (by simp) ?_
        refine AllReadyH.cons rfl (fun K hK => ?_) AllReadyH.nil
        go_simp
        refine hK.out _ _ (HS5.out) (fun hHeld => ?_)
        clear hK K hHeld
        try simp only [Act.put, List.setIfInBounds_toArray, List.set_cons_zero, List.set_cons_succ]
        refine wpAnyH_done (by kernel_rfl) ?_ _
        (try simp only [Exit.then])
        clear p0 p1 p2 p3
        gi_wp2
        have hbut := HT5.out.but (.bool rb) (.slice ra rL rc)
        have hne2 : w.heap.size + 1 + 1 + 1 ≠ bS := by have := HBSG.out; omega
        have hne3 : (w.heap.size + 1 + 1) ≠ bS := by have := HBSG.out; omega
        have hne4 : w.heap.size + 1 ≠ bS := by have := HBSG.out; omega
        refine ⟨((keepsFrom_of HB5.out).trans (((KeepsOthers.setCell _ _ _).trans (KeepsOthers.setCell _ _ _)).from _)), ⟨⟨⟨?_, hbut.row (J2.out.below HB5.out), (J3.out.below HB5.out).k32 hbut.k32, (hbut.same _ hne4).trans (J4.out.keep HB5.out), (hbut.same _ hne2).trans (J7.out.keep HB5.out)⟩, rb, ra, rL, rc, HT5.out.put _ _, ?_⟩, (HMP.out.keep (HB5.out.block _ HMP.out.lt)).keep (hbut.same _ hne3), ?_⟩, below_put (bafter HBW.out HB5.out (Nat.le_refl _)) (by have := HBSG.out; omega) _ _⟩
        · exact (hbut.same B0 (by
            intro e
            have h1 := J1.out.keep HB5.out
            rw [e] at h1
            exact absurd (h1.symm.trans HT5.out) (by simp))).trans (J1.out.keep HB5.out)
        · rw [HEV.out]
          exact HR5.out.put HT5.out (.bool rb) (.slice ra rL rc)
        · exact ((KeepsOthers.setCell w5 ⟨bS, 0, none⟩ (.bool rb)).trans (KeepsOthers.setCell _ ⟨bS, 1, none⟩ (.slice ra rL rc))).same D _ ((HB5.out.block D (Array.getElem?_eq_some_iff.1 HDF.out).1).trans HDF.out) rfl
    case done2 =>
      rintro D2 W6 hD2 ⟨⟨j1, j2, j3, j4, j7⟩, sn, sa, sL, sc, j5, j6⟩ ⟨jX, jD⟩ hbw hK2
      rw [List.take_length, ev_same (lookZ L) HC3.out] at j6
      obtain ⟨s0, s1, _, _, _, _⟩ := j5.every
      obtain ⟨r0, r1, r2, r3, _, _⟩ := j4.every
      have J4 := hide j4
      have J6 := hide j6
      have HDF := hide jD
      have HBW6 := hide hbw
      have HK2 := hide hK2
      have HD2 := hide hD2
      clear j1 j2 j3 j4 j5 j6 j7 jX jD hbw hK2 hD2
      go_wp2
      have q1 := ((KeepsOthers.setCell W6 ⟨w.heap.size + 1, 0, none⟩ (.bool sn)).trans (KeepsOthers.setCell _ ⟨w.heap.size + 1, 1, none⟩ (.slice sa sL sc))).same D2 _ HK2.out rfl
      have q0 := ((KeepsOthers.setCell W6 ⟨w.heap.size + 1, 0, none⟩ (.bool sn)).trans (KeepsOthers.setCell _ ⟨w.heap.size + 1, 1, none⟩ (.slice sa sL sc))).same D _ HDF.out rfl
      have hne : D ≠ D2 := by
        intro e
        have h1 := (Array.getElem?_eq_some_iff.1 HKD.out).1
        have h2 := HD2.out
        have h3 := HB43.out.size
        omega
      have q0' := (World.putObj_heap_other (o := .deferred none) hne).trans q0
      refine ⟨by simp, .inl ⟨_, _, rfl, run_takeDeferred q1, ?_⟩⟩
      refine ⟨by simp, .inl ⟨_, _, rfl, run_takeDeferred q0', ?_⟩⟩
      have hcel1 := cel_put (.deferred none) q1 rfl
      have hcel2 := cel_put (.deferred none) q0' rfl
      refine ⟨_, results_big rfl rfl (hcel2.two (hcel1.two (J4.out.put _ _))), ?_⟩
      exact ⟨_, rfl, ((J6.out.put J4.out _ _).k32 hcel1.k32).k32 hcel2.k32, ((below_put HBW6.out (by omega) _ _).trans (belowK_b (w := w) (Nat.le_refl _) _ D2 _ _ (by have h1 := HD2.out; have h3 := HW3.out.size; omega) q1 rfl rfl)).trans (belowK_b (w := w) (Nat.le_refl _) _ D _ _ (by have h1 := HD.out; have h3 := HW1.out.size; omega) q0' rfl rfl)⟩
    case stop2 => exact fun D c k W hD hk h _ hb hK => h.elim
  case stop => exact fun D c k W hD hk h _ hb hK => h.elim

end Go.Proofs.YtkdhcpfmlelfcaaGreatDoor

namespace Go.Proofs.YtkdhcpfmlelfcaaGreatDoor
set_option linter.unusedVariables false
set_option linter.unusedSimpArgs false
set_option maxRecDepth 100000
open Go Go.RowKit Go.Shelf Go.Lib

theorem infoRBind : (Tryz.prog.info? 102).map (fun i => (i.zero, i.size, i.bytes)) = some (some (.agg #[.int .i64 0, .bool false, .slice none 0 0]), 3, 40) := by kernel_rfl
/-- A row of parts of one's own. -/
def OwnW (n₀ : Nat) (W : World) (v : Value) (M : List Pt) : Prop := OwnZ W n₀ 102 zPart v M.length (pcells M)
theorem OwnW.nil (n₀ : Nat) (W : World) : OwnW n₀ W (.slice none 0 0) [] := ownZ_nil _ _ _ _
theorem OwnW.len {n₀ : Nat} {W : World} {v : Value} {M : List Pt} (h : OwnW n₀ W v M) : ∃ ao cap, v = .slice ao M.length cap ∧ M.length ≤ cap ∧ cap ≤ maxLen := by
  rcases h.1.2 with ⟨hv, hn⟩ | ⟨g, cap, cur, hv, hg, hh, hc1, hc2, hc3⟩
  · exact ⟨none, 0, by rw [hv, hn], by omega, by simp [maxLen]⟩
  · exact ⟨_, _, hv, hc1, hc2⟩
theorem OwnW.row {n₀ : Nat} {W : World} {v : Value} {M : List Pt} (h : OwnW n₀ W v M) : RowP W v M := by
  rcases h.1.2 with ⟨hv, hn⟩ | ⟨g, cap, cur, hv, hg, hh, hc1, hc2, hc3⟩
  · refine ⟨none, 0, by rw [hv, hn], by omega, by simp [maxLen], fun j t hj => ?_⟩
    have : M = [] := List.length_eq_zero_iff.1 hn
    rw [this] at hj
    simp at hj
  · subst hv
    refine ⟨some ⟨g, 0, none⟩, cap, rfl, hc1, hc2, fun j m hj => ⟨g, 0, rfl, ?_⟩⟩
    have hlt : j < M.length := (List.getElem?_eq_some_iff.1 hj).1
    have c := fun i (hi : i < 3) => (h.1.cellAt (j * 3 + i) (by rw [zPart_size]; omega)).trans (pcells_get M j m hj i hi)
    simp only [Nat.zero_add]
    exact ⟨c 0 (by omega), c 1 (by omega), c 2 (by omega)⟩
theorem OwnW.lt {n₀ : Nat} {W : World} {v : Value} {M : List Pt} (h : OwnW n₀ W v M) {j : Nat} (hj : v.ownBlock = some j) : n₀ ≤ j ∧ j < W.heap.size := World.ownsRow.lt h.1 j hj
theorem OwnW.block {n₀ : Nat} {W W' : World} {v : Value} {M : List Pt} (h : OwnW n₀ W v M) (hk : ∀ k, v.ownBlock = some k → W'.heap[k]? = W.heap[k]?) : OwnW n₀ W' v M := by
  refine ⟨⟨h.1.1, ?_⟩, fun g i u hg hi hc => ?_⟩
  · rcases h.1.2 with hn | ⟨g, cap, cur, hv, h1, h2, h3⟩
    · exact .inl hn
    · exact .inr ⟨g, cap, cur, hv, h1, (hk g (by rw [hv]; rfl)).trans h2, h3⟩
  · rw [World.cell?_of_block (a := ⟨g, i, none⟩) (hk g hg)] at hc
    exact h.2 g i u hg hi hc
theorem OwnW.below {n₀ : Nat} {W W' : World} {v : Value} {M : List Pt} (h : OwnW n₀ W v M) (hb : Below W.heap.size W W') : OwnW n₀ W' v M :=
  h.block (fun k hk => hb.block k (h.lt hk).2)

/-- A number's digits reach into no row's room. -/
theorem keptW_kr {n₀ : Nat} {w w' : World} {v : Value} {M : List Pt} (hown : OwnW n₀ w v M) (h : KeptZ w w' zPart v.ownBlock (M.length * zPart.cells.size)) : KR w w' := by
  rintro dv n ⟨ds, ⟨ao, cap, e, h1, h2, h3⟩, hc⟩
  refine ⟨ds, ⟨ao, cap, e, h1, h2, fun j hj => ?_⟩, hc⟩
  obtain ⟨bb, off, e2, hcell⟩ := h3 j hj
  refine ⟨bb, off, e2, h _ _ hcell ?_⟩
  by_cases hrow : v.ownBlock = some bb
  · refine .inr (.inr ?_)
    rcases Nat.lt_or_ge (off + j) (M.length * zPart.cells.size) with hl | hl
    · exact hl
    · exfalso
      have h0 : ds ≠ [] := by rintro rfl; simp at hj
      have hlast := last_tl h0 hc.1.2
      obtain ⟨b2, off2, e3, hcell2⟩ := h3 (ds.length - 1) (by omega)
      rw [e2] at e3
      cases e3
      have hz := hown.2 bb (off + (ds.length - 1)) _ hrow (by omega) hcell2
      simp [zPart, Value.cells] at hz
      omega
  · exact .inr (.inl (fun e => hrow e))
/-- Appending parts to such a row. -/
theorem run_appW (w : World) (n₀ : Nat) (ty : TypeId) (v : Value) (M : List Pt) (hown : OwnW n₀ w v M) (xv : Value) (N : List Pt) (hN : RowP w xv N) (hone : ∀ m ∈ N, m.2.2.1.oneCell' = true) (hl : M.length + N.length ≤ 1048576) (hbase : n₀ ≤ w.heap.size) :
    ∃ v' w', (Builtin.append_ #[61, 61] ty #[v, xv]).run Tryz.prog w = .ok v' w' ∧ OwnW n₀ w' v' (M ++ N) ∧ w.grownBy w' v.ownBlock ∧ (v'.ownBlock = v.ownBlock ∨ v'.ownBlock = some w.heap.size) ∧ KR w w' := by
  obtain ⟨i0, hi, hz0, hz1, hz2⟩ := info_parts infoRBind
  obtain ⟨ao, cap, rfl, h1, h2, h3⟩ := hN
  cases ao with
  | none =>
    have hd0 : N = [] := by
      cases N with
      | nil => rfl
      | cons y r => obtain ⟨b, off, e, _⟩ := h3 0 y rfl; cases e
    subst hd0
    refine ⟨v, w, ?_, by rw [List.append_nil]; exact hown, ⟨rfl, rfl, rfl, Nat.le_refl _, fun _ _ _ => rfl⟩, .inl rfl, KR.refl _⟩
    rcases hown.1.2 with ⟨rfl, h0⟩ | ⟨g, cp, cur, rfl, _, _, hnc, _⟩
    · simp [Builtin.append_, run_underlying Tryz.underlying61, sizeOf, typeInfo, hi, Builtin.lenOf, Builtin.firstCells]
    · simp [Builtin.append_, run_underlying Tryz.underlying61, sizeOf, typeInfo, hi, Builtin.lenOf, Builtin.firstCells, hnc, storeCells]
  | some ad =>
    by_cases hN0 : N = []
    · subst hN0
      obtain ⟨v', w', hr, ho, hg, ha, hk⟩ := run_appZ (P := Tryz.prog) w n₀ 61 ty 102 i0 zPart 40 Tryz.underlying61 hi hz0 hz1 hz2 (by decide) v M.length (pcells M) hown ad 0 cap [] rfl (fun j u h => by simp at h) (fun u h => by cases h) (by unfold maxLen; simp at hl; omega) (by simp at hl; omega) hbase
      exact ⟨v', w', hr, by rw [List.append_nil]; unfold OwnW; simpa using ho, hg, ha, keptW_kr hown hk⟩
    · have had : ad.spot = none := by
        obtain ⟨y, r, rfl⟩ : ∃ y r, N = y :: r := by cases N with | nil => exact absurd rfl hN0 | cons y r => exact ⟨y, r, rfl⟩
        obtain ⟨b, off, e, _⟩ := h3 0 y rfl
        cases e
        rfl
      have hq1 : ∀ (j : Nat) (u : Value), (pcells N)[j]? = some u → w.cell? (ad.add j) = some u := by
        intro j u hj
        have hjl : j < N.length * 3 := by rw [← pcells_length]; exact (List.getElem?_eq_some_iff.1 hj).1
        have hq : j / 3 < N.length := by omega
        obtain ⟨b, off, e, hc⟩ := h3 (j / 3) N[j / 3] (List.getElem?_eq_getElem hq)
        cases e
        have hget := pcells_get N (j / 3) N[j / 3] (List.getElem?_eq_getElem hq) (j % 3) (Nat.mod_lt _ (by decide))
        rw [show j / 3 * 3 + j % 3 = j by omega, hj] at hget
        rw [addr_add]
        have h3' : j % 3 = 0 ∨ j % 3 = 1 ∨ j % 3 = 2 := by omega
        rcases h3' with e | e | e
        · rw [e] at hget
          rw [show off + j = off + j / 3 * 3 by omega, hc.1, hget]; rfl
        · rw [e] at hget
          rw [show off + j = off + j / 3 * 3 + 1 by omega, hc.2.1, hget]; rfl
        · rw [e] at hget
          rw [show off + j = off + j / 3 * 3 + 2 by omega, hc.2.2, hget]; rfl
      have hq2 : ∀ u ∈ pcells N, u.oneCell' = true := by
        intro u hu
        obtain ⟨m, hm, hu2⟩ := List.mem_flatMap.1 hu
        simp only [ptCells, List.mem_cons, List.mem_nil_iff, or_false] at hu2
        rcases hu2 with rfl | rfl | rfl
        · rfl
        · rfl
        · exact hone m hm
      obtain ⟨v', w', hr, ho, hg, ha, hk⟩ := run_appZ (P := Tryz.prog) w n₀ 61 ty 102 i0 zPart 40 Tryz.underlying61 hi hz0 hz1 hz2 (by decide) v M.length (pcells M) hown ad N.length cap (pcells N) (pcells_length N) hq1 hq2 (by unfold maxLen; omega) (by omega) hbase
      exact ⟨v', w', hr, by unfold OwnW; rw [List.length_append, pcells_append]; exact ho, hg, ha, keptW_kr hown hk⟩

theorem row_litW (W : World) (a : Int) (b : Bool) (c : Value) (z : Int) : RowP (W.alloc (.cells #[.int .i64 a, .bool b, c] 102)) (.slice (some ⟨W.heap.size, 0, none⟩) 1 1) [(a, b, c, z)] := by
  refine ⟨some ⟨W.heap.size, 0, none⟩, 1, rfl, Nat.le_refl _, by simp [maxLen], fun j m hj => ?_⟩
  cases j with
  | zero =>
    simp at hj
    subst hj
    exact ⟨_, _, rfl, World.cell?_alloc_mark W _ _ (0, 0) 0, World.cell?_alloc_mark W _ _ (0, 0) 1, World.cell?_alloc_mark W _ _ (0, 0) 2⟩
  | succ j => simp at hj

/-- Few bindings, of small numbers. -/
def BindP (L : List Pt) : Prop := L.length ≤ 13 ∧ ∀ m ∈ L, lenV m.2.2.1 ≤ 4
def BindE (w : World) (L : List Pt) (e : Ending) (w' : World) : Prop := ∃ a l c ok, e = .returned (.tuple #[.slice a l c, .bool ok]) ∧ (ok = true ↔ BindP L) ∧ (ok = true → ∃ X, RowP w' (.slice a l c) X ∧ GoodN w' X ∧ ps X = ps L) ∧ Below w.heap.size w w'

set_option maxHeartbeats 8000000 in
theorem bindings_calls {w : World} {pa : Option Addr} {pl pc : Nat} {L : List Pt} (hR : RowP w (.slice pa pl pc) L) (hS : Sl L) (hI : ∀ m ∈ L, Rng m.1 ∧ (lenV m.2.2.1 ≤ 4 → Lim 8 w m)) :
    Calls Tryz.prog 35 #[.slice pa pl pc] w fun e w' => BindE w L e w' := by
  obtain ⟨_, _, e, _, _, h3⟩ := hR
  simp only [Value.slice.injEq] at e
  obtain ⟨rfl, rfl, rfl⟩ := e
  generalize hLn : L.length = Ln at *
  have HLN := hide hLn
  have H3 := hide h3
  have HSL := hide hS
  have HI := hide hI
  clear hLn h3 hS hI
  go_enter Tryz.func35, Tryz.ntmps35
  go_wp2
  go_loopw [4, 5] (fun ov iv wr => ∃ (i : Nat) (X : List Pt) (oa : Option Addr) (oc : Nat), i ≤ Ln ∧ i ≤ 13 ∧ ov = .slice oa X.length oc ∧ iv = .int .i64 (i : Int) ∧ OwnW w.heap.size wr (.slice oa X.length oc) X ∧ GoodN wr X ∧ ps X = ps (L.take i) ∧ (∀ m ∈ L.take i, lenV m.2.2.1 ≤ 4) ∧ Below w.heap.size w wr) (fun _ iv _ => Ln - (RowKit.intOf iv).toNat)
  case atStart => exact ⟨0, [], none, 0, Nat.zero_le _, by omega, rfl, rfl, OwnW.nil _ _, fun m hm => (by cases hm), by simp, fun m hm => (by simp at hm), Below.refl _ _⟩
  case round =>
    obtain ⟨i, X, oa, oc, hi, hi13, rfl, rfl, how, hgx, hps, hall, hbw⟩ := hrel
    have HOW := hide how
    have HGX := hide hgx
    have HPS := hide hps
    have HALL := hide hall
    have HBW := hide hbw
    clear how hgx hps hall
    by_cases hlt : i < Ln
    · have d1 : (i : Int) < (Ln : Int) := by omega
      have d0 : (0 : Int) ≤ (i : Int) := by omega
      by_cases h13 : i = 13
      · have g1 : (12 : Int) < (i : Int) := by omega
        have g2 : decide ((12 : Int) < (i : Int)) = true := decide_eq_true g1
        have HF : Hid (¬ BindP L) := fun h => by have := h.1; rw [HLN.out] at this; omega
        clear h13 hbw
        generalize X.length = xl at *
        go_wp2
        go_ret2
        exact ⟨none, 0, 0, false, rfl, ⟨fun h => (by cases h), fun h => absurd h HF.out⟩, fun h => (by cases h), HBW.out⟩
      · have g2 : decide ((12 : Int) < (i : Int)) = false := decide_eq_false (by omega)
        obtain ⟨⟨vr, neg, mv, z⟩, hm⟩ : ∃ m, L[i]? = some m := ⟨_, List.getElem?_eq_getElem (by rw [HLN.out]; exact hlt)⟩
        obtain ⟨ma, mL, mc, e⟩ := HSL.out _ (List.mem_of_getElem? hm)
        simp only at e
        subst e
        obtain ⟨b, o, rfl, hc⟩ := H3.out i _ hm
        have HC : Hid (∀ W, Below w.heap.size w W → CellsP W b (o + i * 3) (vr, neg, .slice ma mL mc, z)) := fun W h => hc.below h
        obtain ⟨x0, x1, x2⟩ := hc.below hbw
        dsimp only at x0 x1 x2
        have HM := hide hm
        have HIM := hide (HI.out _ (List.mem_of_getElem? hm))
        by_cases h4 : mL ≤ 4
        · have hsm := gsmall_yes (w := wr) (neg := neg) (a := ma) (c := mc) h4
          obtain ⟨ys, hy, hyl, hyz⟩ := HIM.out.2 h4
          have HNUM := hide (fun (W : World) (h : Below w.heap.size w W) => gnum_calls (neg := neg) (hy.below h) hyl)
          have hyz' : sgn neg (val R ys) = z := hyz.symm
          rw [hyz'] at HNUM
          have HRG : Hid (Rng vr) := HIM.out.1
          have HL4 := hide h4
          have h12 : i ≤ 12 := by omega
          clear h4 hc hm hy hyl hyz hyz' hbw h13
          generalize hxl0 : X.length = xl0 at *
          have HXL0 := hide hxl0
          clear hxl0
          go_upto_region 7 with fail
          refine hsm.mono ?_
          rintro e w4 ⟨rfl, hb4⟩
          have HB4 := hide hb4
          have HS : Hid (∀ X : World, Below wr.heap.size wr X → X.cell? ⟨b, o + i * 3, none⟩ = some (.int .i64 vr) ∧ X.cell? ⟨b, o + i * 3 + 1, none⟩ = some (.bool neg) ∧ X.cell? ⟨b, o + i * 3 + 2, none⟩ = some (.slice ma mL mc)) := fun Y hY => by
            obtain ⟨h2, h3, h4⟩ := HC.out Y (bafter HBW.out hY (Nat.le_refl _))
            exact ⟨h2, h3, h4⟩
          clear hsm hb4 x0 x1 x2
          have hxl0 := HXL0.out
          subst hxl0
          go_upto_region 7 with fail
          refine wp_region_held_drew (S := fun X : World => X.cell? ⟨b, o + i * 3, none⟩ = some (.int .i64 vr) ∧ X.cell? ⟨b, o + i * 3 + 1, none⟩ = some (.bool neg) ∧ X.cell? ⟨b, o + i * 3 + 2, none⟩ = some (.slice ma mL mc)) (by kernel_rfl) ?_ (fun hHeld => ?_)
          · exact HS.out _ (by first | exact HB4.out | exact HB4.out.drew)
          refine takeD (i := 0) (v := ?v1) (some 23) rfl (by kernel_rfl) (by kernel_rfl) (by kernel_rfl) (fun _ _ _ h => h) (Or.inl ⟨by rfl, ?hy1⟩) (by assumption) (by rfl) ?rest1
          case hy1 => first | (intro w hSw; (try dsimp only at hSw); obtain ⟨q0, q1, q2⟩ := hSw; go_simp; done) | (intro w hSw; (try dsimp only at hSw); obtain ⟨q0, q1, q2⟩ := hSw; go_simp; with_reducible rfl)
          try simp only [Act.put, List.setIfInBounds_toArray, List.set_cons_zero, List.set_cons_succ]
          refine takeD (i := 1) (v := ?v2) (some 24) rfl (by kernel_rfl) (by kernel_rfl) (by kernel_rfl) (fun _ _ _ h => h) (Or.inl ⟨by rfl, ?hy2⟩) (by assumption) (by rfl) ?rest2
          case hy2 => first | (intro w hSw; (try dsimp only at hSw); obtain ⟨q0, q1, q2⟩ := hSw; go_simp; done) | (intro w hSw; (try dsimp only at hSw); obtain ⟨q0, q1, q2⟩ := hSw; go_simp; with_reducible rfl)
          try simp only [Act.put, List.setIfInBounds_toArray, List.set_cons_zero, List.set_cons_succ]
          refine takeD (i := 2) (v := ?v3) (some 25) rfl (by kernel_rfl) (by kernel_rfl) (by kernel_rfl) (fun _ _ _ h => h) (Or.inl ⟨by rfl, ?hy3⟩) (by assumption) (by rfl) ?rest3
          case hy3 => first | (intro w hSw; (try dsimp only at hSw); obtain ⟨q0, q1, q2⟩ := hSw; go_simp; done) | (intro w hSw; (try dsimp only at hSw); obtain ⟨q0, q1, q2⟩ := hSw; go_simp; with_reducible rfl)
          try simp only [Act.put, List.setIfInBounds_toArray, List.set_cons_zero, List.set_cons_succ]
          refine takeD (i := 3) (v := ?v4) (some 26) rfl (by kernel_rfl) (by kernel_rfl) (by kernel_rfl) (fun _ _ _ h => h) (Or.inl ⟨by rfl, ?hy4⟩) (by assumption) (by rfl) ?rest4
          case hy4 => first | (intro w hSw; (try dsimp only at hSw); obtain ⟨q0, q1, q2⟩ := hSw; go_simp; done) | (intro w hSw; (try dsimp only at hSw); obtain ⟨q0, q1, q2⟩ := hSw; go_simp; with_reducible rfl)
          try simp only [Act.put, List.setIfInBounds_toArray, List.set_cons_zero, List.set_cons_succ]
          refine takeD (i := 4) (v := ?v5) (some 27) rfl (by kernel_rfl) (by kernel_rfl) (by kernel_rfl) (fun _ _ _ h => h) (Or.inl ⟨by rfl, ?hy5⟩) (by assumption) (by rfl) ?rest5
          case hy5 => first | (intro w hSw; (try dsimp only at hSw); obtain ⟨q0, q1, q2⟩ := hSw; go_simp; done) | (intro w hSw; (try dsimp only at hSw); obtain ⟨q0, q1, q2⟩ := hSw; go_simp; with_reducible rfl)
          try simp only [Act.put, List.setIfInBounds_toArray, List.set_cons_zero, List.set_cons_succ]
          refine takeD (i := 5) (v := ?v6) (some 28) rfl (by kernel_rfl) (by kernel_rfl) (by kernel_rfl) (fun _ _ _ h => h) (Or.inl ⟨by rfl, ?hy6⟩) (by assumption) (by rfl) ?rest6
          case hy6 => first | (intro w hSw; (try dsimp only at hSw); obtain ⟨q0, q1, q2⟩ := hSw; go_simp; done) | (intro w hSw; (try dsimp only at hSw); obtain ⟨q0, q1, q2⟩ := hSw; go_simp; with_reducible rfl)
          try simp only [Act.put, List.setIfInBounds_toArray, List.set_cons_zero, List.set_cons_succ]
          refine takeD (i := 6) (v := ?v7) (some 29) rfl (by kernel_rfl) (by kernel_rfl) (by kernel_rfl) (fun _ _ _ h => h) (Or.inl ⟨by rfl, ?hy7⟩) (by assumption) (by rfl) ?rest7
          case hy7 => first | (intro w hSw; (try dsimp only at hSw); obtain ⟨q0, q1, q2⟩ := hSw; go_simp; done) | (intro w hSw; (try dsimp only at hSw); obtain ⟨q0, q1, q2⟩ := hSw; go_simp; with_reducible rfl)
          try simp only [Act.put, List.setIfInBounds_toArray, List.set_cons_zero, List.set_cons_succ]
          refine takeD (i := 7) (v := ?v8) (some 30) rfl (by kernel_rfl) (by kernel_rfl) (by kernel_rfl) (fun _ _ _ h => h) (Or.inl ⟨by rfl, ?hy8⟩) (by assumption) (by rfl) ?rest8
          case hy8 => first | (intro w hSw; (try dsimp only at hSw); obtain ⟨q0, q1, q2⟩ := hSw; go_simp; done) | (intro w hSw; (try dsimp only at hSw); obtain ⟨q0, q1, q2⟩ := hSw; go_simp; with_reducible rfl)
          try simp only [Act.put, List.setIfInBounds_toArray, List.set_cons_zero, List.set_cons_succ]
          refine takeD (i := 8) (v := ?v9) (some 31) rfl (by kernel_rfl) (by kernel_rfl) (by kernel_rfl) (fun _ _ _ h => h) (Or.inl ⟨by rfl, ?hy9⟩) (by assumption) (by rfl) ?rest9
          case hy9 => first | (intro w hSw; (try dsimp only at hSw); obtain ⟨q0, q1, q2⟩ := hSw; go_simp; done) | (intro w hSw; (try dsimp only at hSw); obtain ⟨q0, q1, q2⟩ := hSw; go_simp; with_reducible rfl)
          try simp only [Act.put, List.setIfInBounds_toArray, List.set_cons_zero, List.set_cons_succ]
          refine takeD (i := 9) (v := ?v10) (some 32) rfl (by kernel_rfl) (by kernel_rfl) (by kernel_rfl) (fun _ _ _ h => h) (Or.inl ⟨by rfl, ?hy10⟩) (by assumption) (by rfl) ?rest10
          case hy10 => first | (intro w hSw; (try dsimp only at hSw); obtain ⟨q0, q1, q2⟩ := hSw; go_simp; done) | (intro w hSw; (try dsimp only at hSw); obtain ⟨q0, q1, q2⟩ := hSw; go_simp; with_reducible rfl)
          try simp only [Act.put, List.setIfInBounds_toArray, List.set_cons_zero, List.set_cons_succ]
          refine takeD (i := 10) (v := ?v11) (some 33) rfl (by kernel_rfl) (by kernel_rfl) (by kernel_rfl) (fun _ _ _ h => h) (Or.inl ⟨by rfl, ?hy11⟩) (by assumption) (by rfl) ?rest11
          case hy11 => first | (intro w hSw; (try dsimp only at hSw); obtain ⟨q0, q1, q2⟩ := hSw; go_simp; done) | (intro w hSw; (try dsimp only at hSw); obtain ⟨q0, q1, q2⟩ := hSw; go_simp; with_reducible rfl)
          try simp only [Act.put, List.setIfInBounds_toArray, List.set_cons_zero, List.set_cons_succ]
          refine wpAnyH_ready (rs := [11]) (by kernel_rfl) (by simp) ?_
          refine AllReadyH.cons rfl (fun K hK => ?_) AllReadyH.nil
          go_simp
          refine (HNUM.out _ (bafter HBW.out (by first | exact HB4.out | exact HB4.out.drew) (Nat.le_refl _))).mono ?_
          rintro e w5 ⟨v5, rfl, hr5, hb5⟩
          obtain ⟨rb, ra, rL, rc, rfl⟩ := hr5.form
          have HB5 : Hid (Below wr.heap.size wr w5) := bafter (by first | exact HB4.out | exact HB4.out.drew) hb5 (Nat.le_refl _)
          have HR5 := hide hr5
          clear hr5 hb5 hHeld
          go_wp2_with fail
          refine hK.out _ _ (HS.out _ HB5.out) (fun hHeld => ?_)
          clear hK K
          try simp only [Act.put, List.setIfInBounds_toArray, List.set_cons_zero, List.set_cons_succ]
          refine takeD (i := 12) (v := ?v12) (some 35) rfl (by kernel_rfl) (by kernel_rfl) (by kernel_rfl) (fun _ _ _ h => h) (Or.inl ⟨by rfl, ?hy12⟩) (by assumption) (by rfl) ?rest12
          case hy12 => first | (intro w hSw; (try dsimp only at hSw); obtain ⟨q0, q1, q2⟩ := hSw; go_simp; done) | (intro w hSw; (try dsimp only at hSw); obtain ⟨q0, q1, q2⟩ := hSw; go_simp; with_reducible rfl)
          try simp only [Act.put, List.setIfInBounds_toArray, List.set_cons_zero, List.set_cons_succ]
          refine wpAnyH_ready (rs := [13]) (by kernel_rfl) (by simp) ?_
          refine AllReadyH.cons rfl (fun K hK => ?_) AllReadyH.nil
          go_simp
          have hbl := bel w5 (.cells #[.int .i64 vr, .bool rb, .slice ra rL rc] 102)
          have HB6 := hide (bafter HB5.out hbl (Nat.le_refl _))
          have HBL6 := hide hbl
          have HRL := hide (row_litW w5 vr rb (.slice ra rL rc) z)
          clear hbl
          generalize hw6 : w5.alloc (.cells #[.int .i64 vr, .bool rb, .slice ra rL rc] 102) = w6 at *
          clear hw6
          refine hK.out _ _ (HS.out _ HB6.out) (fun hHeld => ?_)
          clear hK K hHeld
          try simp only [Act.put, List.setIfInBounds_toArray, List.set_cons_zero, List.set_cons_succ]
          obtain ⟨v7, w7, hrun7, ho7, hg7, ha7, hk7⟩ := run_appW w6 w.heap.size 61 _ X (HOW.out.below HB6.out) _ [((vr, rb, .slice ra rL rc, z) : Pt)] HRL.out (fun m hm => by simp at hm; subst hm; rfl) (by have h1 := congrArg List.length HPS.out; rw [ps_length, ps_length, List.length_take] at h1; simp only [List.length_cons, List.length_nil]; omega) (Nat.le_trans HBW.out.size HB6.out.size)
          obtain ⟨oa7, oc7, rfl, _, _⟩ := ho7.len
          have HB7 : Hid (Below w.heap.size w w7) := (bafter HBW.out HB6.out (Nat.le_refl _)).grown hg7 (Nat.le_trans HBW.out.size HB6.out.size) (fun j hj => (HOW.out.lt hj).1)
          have HS7 : Hid (let X := w7; X.cell? ⟨b, o + i * 3, none⟩ = some (.int .i64 vr) ∧ X.cell? ⟨b, o + i * 3 + 1, none⟩ = some (.bool neg) ∧ X.cell? ⟨b, o + i * 3 + 2, none⟩ = some (.slice ma mL mc)) := by
            obtain ⟨h2, h3, h4⟩ := HC.out w7 HB7.out
            exact ⟨h2, h3, h4⟩
          have HGN : Hid (GoodN w7 (X ++ [((vr, rb, .slice ra rL rc, z) : Pt)])) := by
            intro q hq
            rcases List.mem_append.1 hq with hq | hq
            · exact ((HGX.out.below HB6.out).kr hk7) q hq
            · simp at hq
              subst hq
              exact ⟨HRG.out, (HR5.out.below HBL6.out).kr hk7⟩
          have HOW7 := hide ho7
          generalize hxl : (X ++ [((vr, rb, .slice ra rL rc, z) : Pt)]).length = xl at *
          have HXL := hide hxl
          clear ho7 hg7 ha7 hk7 hxl
          refine wpAnyH_ready (rs := [14]) (by kernel_rfl) (by simp) ?_
          refine AllReadyH.cons rfl (fun K hK => ?_) AllReadyH.nil
          refine Lib.wp_append_run _ _ _ _ _ rfl _ _ rfl rfl _ _ hrun7 ?_
          clear hrun7
          refine hK.out _ _ (HS7.out) (fun hHeld => ?_)
          clear hK K
          try simp only [Act.put, List.setIfInBounds_toArray, List.set_cons_zero, List.set_cons_succ]
          refine takeD (i := 15) (v := ?v13) (some 4) rfl (by kernel_rfl) (by kernel_rfl) (by kernel_rfl) (fun _ _ _ h => h) (Or.inl ⟨by rfl, ?hy13⟩) (by assumption) (by rfl) ?rest13
          case hy13 => first | (intro w hSw; (try dsimp only at hSw); obtain ⟨q0, q1, q2⟩ := hSw; go_simp; done) | (intro w hSw; (try dsimp only at hSw); obtain ⟨q0, q1, q2⟩ := hSw; go_simp; with_reducible rfl)
          try simp only [Act.put, List.setIfInBounds_toArray, List.set_cons_zero, List.set_cons_succ]
          clear hHeld
          refine wpAnyH_done (by kernel_rfl) ?_ _
          go_wp2
          go_roundw
          case rel =>
            have e9 := HXL.out
            subst e9
            refine ⟨i + 1, X ++ [((vr, rb, .slice ra rL rc, z) : Pt)], oa7, oc7, by omega, by omega, rfl, by go_num, HOW7.out, HGN.out, by rw [ps_append, HPS.out, ps_take_step HM.out]; rfl, fun m hm => ?_, HB7.out⟩
            rw [List.take_add_one, HM.out] at hm
            rcases List.mem_append.1 hm with hm | hm
            · exact HALL.out m hm
            · simp at hm
              subst hm
              exact HL4.out
          case measure => simp [RowKit.intOf]; omega
        · have hsm := gsmall_no (w := wr) (neg := neg) (a := ma) (c := mc) h4
          have HF : Hid (¬ BindP L) := fun h => h4 (h.2 _ (List.mem_of_getElem? hm))
          clear h4 hc hm hbw h13
          generalize X.length = xl at *
          go_wp2_with fail
          refine hsm.mono ?_
          rintro e w4 ⟨rfl, hb4⟩
          have HB4 := hide hb4
          clear hsm hb4 x0 x1 x2
          go_wp2
          go_ret2
          exact ⟨none, 0, 0, false, rfl, ⟨fun h => (by cases h), fun h => absurd h HF.out⟩, fun h => (by cases h), bafter HBW.out HB4.out (Nat.le_refl _)⟩
    · obtain rfl : i = Ln := by omega
      have d1 : ¬ (i : Int) < (i : Int) := by omega
      have HLL := hide hi13
      have hrow := HOW.out.row
      have HROW := hide hrow
      clear hbw hrow
      generalize hxl : X.length = xl at *
      go_wp2
      go_ret2
      have hta : L.take i = L := List.take_of_length_le (by rw [HLN.out]; omega)
      have hal := HALL.out
      have hpp := HPS.out
      rw [hta] at hal hpp
      exact ⟨_, _, _, true, rfl, ⟨fun _ => ⟨by rw [HLN.out]; exact HLL.out, hal⟩, fun _ => rfl⟩, fun _ => ⟨X, HROW.out, HGX.out, hpp⟩, HBW.out⟩

end Go.Proofs.YtkdhcpfmlelfcaaGreatDoor
