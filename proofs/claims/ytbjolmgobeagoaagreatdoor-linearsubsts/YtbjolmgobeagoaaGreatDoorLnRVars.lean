/- The reference's Vars: the variables, rising. -/
import Derived.Test.YtbjolmgobeagoaaGreatDoorLnRCoef
namespace Go.Proofs.YtbjolmgobeagoaaGreatDoor
set_option linter.unusedVariables false
set_option linter.unusedSimpArgs false
set_option maxRecDepth 100000
open Go Go.RowKit Go.Shelf Go.Lib

theorem infoI : (Tryz.prog.info? 3).map (fun i => (i.zero, i.size, i.bytes)) = some (some (.int .i64 0), 1, 8) := by kernel_rfl
def icell (L : List Int) : List Value := L.map fun x => .int .i64 x
theorem getD_at {L : List Int} {j : Nat} (h : j < L.length) : L.getD j 0 = L[j] := by simp [List.getD, h]
/-- A row of whole numbers. -/
def IRow (W : World) (v : Value) (L : List Int) : Prop := ∃ ao cap, v = .slice ao L.length cap ∧ L.length ≤ cap ∧ ∀ j, j < L.length → ∃ b o, ao = some ⟨b, o, none⟩ ∧ W.cell? ⟨b, o + j, none⟩ = some (.int .i64 (L.getD j 0))
theorem IRow.below {W W' : World} {v : Value} {L : List Int} (h : IRow W v L) (hb : Below W.heap.size W W') : IRow W' v L := by
  obtain ⟨ao, cap, e, h1, h3⟩ := h
  refine ⟨ao, cap, e, h1, fun j hj => ?_⟩
  obtain ⟨b, o, e2, hc⟩ := h3 j hj
  exact ⟨b, o, e2, (hb.cell (p := ⟨b, o + j, none⟩) (block_lt_of_cell hc)).trans hc⟩
theorem icell_length (L : List Int) : (icell L).length = L.length := by simp [icell]
theorem icell_append (A B : List Int) : icell (A ++ B) = icell A ++ icell B := by simp [icell]
theorem icell_get {L : List Int} {j : Nat} (h : j < L.length) : (icell L)[j]? = some (.int .i64 (L.getD j 0)) := by
  unfold icell
  rw [List.getElem?_map, List.getElem?_eq_getElem h]
  simp [h]
/-- Such a row of one's own. -/
def OwnV (n : Nat) (W : World) (v : Value) (L : List Int) : Prop := W.ownsRow n 3 1 v L.length (icell L)
theorem OwnV.row {n : Nat} {W : World} {v : Value} {L : List Int} (h : OwnV n W v L) : IRow W v L := by
  rcases h.2 with ⟨hv, hn⟩ | ⟨g, cap, cur, hv, hg, hh, hc1, hc2, hc3⟩
  · refine ⟨none, 0, by rw [hv, hn], by omega, fun j hj => by omega⟩
  · subst hv
    refine ⟨some ⟨g, 0, none⟩, cap, rfl, hc1, fun j hj => ⟨g, 0, rfl, ?_⟩⟩
    rw [Nat.zero_add]
    exact (h.cellAt j (by simpa using hj)).trans (icell_get hj)
theorem OwnV.nil (n : Nat) (W : World) : OwnV n W (.slice none 0 0) [] := World.ownsRow_nil _ _ _ _
/-- Appending numbers to such a row. -/
theorem run_appI (w : World) (n : Nat) (ty : TypeId) (v : Value) (L : List Int) (ho : OwnV n w v L) (xv : Value) (A : List Int) (hA : IRow w xv A) (hl : L.length + A.length ≤ 1048576) (hn : n ≤ w.heap.size) :
    ∃ v' w', (Builtin.append_ #[30, 30] ty #[v, xv]).run Tryz.prog w = .ok v' w' ∧ OwnV n w' v' (L ++ A) ∧ Below n w w' := by
  obtain ⟨i0, hi, hz0, hz1, hz2⟩ := info_parts infoI
  obtain ⟨ao, cap, rfl, h1, h3⟩ := hA
  cases ao with
  | none =>
    have hd0 : A = [] := by
      cases A with
      | nil => rfl
      | cons y r => obtain ⟨b, off, e, _⟩ := h3 0 (by simp); cases e
    subst hd0
    refine ⟨v, w, ?_, by rw [List.append_nil]; exact ho, Below.refl _ _⟩
    rcases ho.2 with ⟨rfl, h0⟩ | ⟨g, cp, cur, rfl, _, _, hnc, _⟩
    · simp [Builtin.append_, run_underlying Tryz.underlying30, sizeOf, typeInfo, hi, Builtin.lenOf, Builtin.firstCells]
    · simp [Builtin.append_, run_underlying Tryz.underlying30, sizeOf, typeInfo, hi, Builtin.lenOf, Builtin.firstCells, hnc, storeCells]
  | some ad =>
    have hq : ∀ (j : Nat) (u : Value), (icell A)[j]? = some u → w.cell? (ad.add j) = some u := by
      intro j u hj
      have hjl : j < A.length := by rw [← icell_length]; exact (List.getElem?_eq_some_iff.1 hj).1
      obtain ⟨b, off, e, hc⟩ := h3 j hjl
      cases e
      rw [icell_get hjl] at hj
      cases hj
      rw [addr_add]
      exact hc
    obtain ⟨v', w', hr, ho', hg, _⟩ := run_append_own (P := Tryz.prog) w n 30 ty 3 i0 (.int .i64 0) 1 8 Tryz.underlying30 hi hz0 hz1 hz2 rfl (by decide) v L.length (icell L) ho ad A.length cap (icell A) (by rw [icell_length, Nat.mul_one]) hq (fun u hu => by
      obtain ⟨x, _, rfl⟩ := List.mem_map.1 hu
      rfl) (by unfold maxLen; omega) (by omega) hn
    exact ⟨v', w', hr, by unfold OwnV; rw [List.length_append, icell_append]; exact ho', (Below.refl n w).grown hg hn (fun k hk => (World.ownsRow.lt ho k hk).1)⟩
theorem IRow.front {W : World} {co : Option Addr} {n cc : Nat} {L : List Int} (h : IRow W (.slice co n cc) L) {k : Nat} (hk : k ≤ L.length) : IRow W (.slice co k cc) (L.take k) ∧ ∀ W' : World, (Instr.slice 30 (.slice co n cc) none (some (.int .i64 (k : Int))) none).run Tryz.prog W' = .ok (.slice co k cc) W' := by
  obtain ⟨ao, cap, e, h1, h3⟩ := h
  simp only [Value.slice.injEq] at e
  obtain ⟨rfl, rfl, rfl⟩ := e
  refine ⟨⟨_, _, by rw [List.length_take, Nat.min_eq_left hk], by rw [List.length_take]; omega, fun j hj => ?_⟩, fun W' => ?_⟩
  · rw [List.length_take] at hj
    obtain ⟨b, o, e2, hc⟩ := h3 j (by omega)
    refine ⟨b, o, e2, ?_⟩
    rw [hc]
    simp [List.getD, List.getElem?_take, show j < k by omega]
  · have h4 := run_slice_h (P := Tryz.prog) (w := W') 30 co L.length cc (by kernel_rfl) .i64 (k : Int) (by omega) (by omega)
    rw [h4]
    go_simp
theorem IRow.rest {W : World} {co : Option Addr} {n cc : Nat} {L : List Int} (h : IRow W (.slice co n cc) L) {k : Nat} (hk : k ≤ L.length) : ∃ aG, IRow W (.slice aG (n - k) (cc - k)) (L.drop k) ∧ ∀ W' : World, (Instr.slice 30 (.slice co n cc) (some (.int .i64 (k : Int))) none none).run Tryz.prog W' = .ok (.slice aG (n - k) (cc - k)) W' := by
  obtain ⟨ao, cap, e, h1, h3⟩ := h
  simp only [Value.slice.injEq] at e
  obtain ⟨rfl, rfl, rfl⟩ := e
  refine ⟨if cc = k then co else co.map (·.add k), ⟨_, _, by rw [List.length_drop], by rw [List.length_drop]; omega, fun j hj => ?_⟩, fun W' => ?_⟩
  · rw [List.length_drop] at hj
    obtain ⟨b, o, rfl, hc⟩ := h3 (k + j) (by omega)
    refine ⟨b, o + k, by rw [if_neg (by omega)]; simp [Addr.add], ?_⟩
    rw [show o + k + j = o + (k + j) by omega, hc]
    simp [List.getD, List.getElem?_drop]
  · have h4 := run_slice_l (P := Tryz.prog) (w := W') 30 co L.length cc (by kernel_rfl) .i64 (k : Int) (by omega) (by omega)
    rw [h4]
    go_simp
theorem irow_lit (W : World) (x : Int) : IRow (W.alloc (.cells #[.int .i64 x] 3)) (.slice (some ⟨W.heap.size, 0, none⟩) 1 1) [x] := by
  refine ⟨some ⟨W.heap.size, 0, none⟩, 1, rfl, Nat.le_refl _, fun j hj => ?_⟩
  obtain rfl : j = 0 := by simp at hj; omega
  exact ⟨_, _, rfl, World.cell?_alloc_mark W _ _ (0, 0) 0⟩

/-- The variables of the first parts, rising, each once. -/
structure VarsOf (M : List Pt) (i : Nat) (L : List Int) : Prop where
  rise : L.Pairwise (· < ·)
  mem : ∀ x, x ∈ L ↔ ∃ m ∈ M.take i, m.1 = x
  len : L.length ≤ i
theorem varsOf_zero (M : List Pt) : VarsOf M 0 [] := ⟨List.Pairwise.nil, fun x => by simp, Nat.le_refl _⟩
theorem take_mem {M : List Pt} {i : Nat} {m : Pt} (h : M[i]? = some m) (x : Int) : (∃ q ∈ M.take (i + 1), q.1 = x) ↔ (∃ q ∈ M.take i, q.1 = x) ∨ m.1 = x := by
  rw [List.take_add_one, h]
  constructor
  · rintro ⟨q, hq, e⟩
    rcases List.mem_append.1 hq with hq | hq
    · exact .inl ⟨q, hq, e⟩
    · simp at hq
      subst hq
      exact .inr e
  · rintro (⟨q, hq, e⟩ | e)
    · exact ⟨q, List.mem_append.2 (.inl hq), e⟩
    · exact ⟨m, by simp, e⟩
theorem VarsOf.skip {M : List Pt} {i : Nat} {m : Pt} {L : List Int} (h : VarsOf M i L) (hm : M[i]? = some m) (hx : m.1 ∈ L) : VarsOf M (i + 1) L :=
  ⟨h.rise, fun x => by
    rw [take_mem hm, ← h.mem]
    exact ⟨.inl, fun e => e.elim id (fun e => e ▸ hx)⟩, Nat.le_succ_of_le h.len⟩
theorem VarsOf.put {M : List Pt} {i at_ : Nat} {m : Pt} {L : List Int} (h : VarsOf M i L) (hm : M[i]? = some m) (hat : at_ ≤ L.length) (hlo : ∀ j, j < at_ → L.getD j 0 < m.1) (hhi : at_ < L.length → m.1 < L.getD at_ 0) : VarsOf M (i + 1) (L.take at_ ++ [m.1] ++ L.drop at_) := by
  have hl : ∀ x ∈ L.take at_, x < m.1 := fun x hx => by
    obtain ⟨j, hj, rfl⟩ := List.getElem_of_mem hx
    rw [List.length_take] at hj
    have := hlo j (by omega)
    rw [List.getElem_take]
    rw [getD_at (by omega)] at this
    exact this
  have hr := h.rise
  rw [← List.take_append_drop at_ L] at hr
  have hp := List.pairwise_append.1 hr
  have hg : ∀ x ∈ L.drop at_, m.1 < x := fun x hx => by
    by_cases hlt : at_ < L.length
    · have h1 := hhi hlt
      rw [getD_at hlt] at h1
      have e : L.drop at_ = L[at_] :: L.drop (at_ + 1) := List.drop_eq_getElem_cons hlt
      rw [e] at hx hp
      rcases List.mem_cons.1 hx with rfl | hx
      · exact h1
      · have := (List.pairwise_cons.1 hp.2.1).1 x hx
        omega
    · rw [List.drop_eq_nil_of_le (by omega)] at hx
      cases hx
  refine ⟨?_, fun x => ?_, ?_⟩
  · refine List.pairwise_append.2 ⟨List.pairwise_append.2 ⟨hp.1, by simp, fun a ha b hb => ?_⟩, hp.2.1, fun a ha b hb => ?_⟩
    · simp at hb
      subst hb
      exact hl a ha
    · rcases List.mem_append.1 ha with ha | ha
      · exact hp.2.2 a ha b hb
      · simp at ha
        subst ha
        exact hg b hb
  · rw [take_mem hm, ← h.mem]
    have hx : x ∈ L ↔ x ∈ L.take at_ ∨ x ∈ L.drop at_ := by
      conv => lhs; rw [← List.take_append_drop at_ L]
      exact List.mem_append
    rw [hx]
    simp only [List.mem_append, List.mem_singleton]
    constructor
    · rintro ((h1 | h1) | h1)
      · exact .inl (.inl h1)
      · exact .inr h1.symm
      · exact .inl (.inr h1)
    · rintro ((h1 | h1) | h1)
      · exact .inl (.inl h1)
      · exact .inr h1
      · exact .inl (.inr h1.symm)
  · have := h.len
    simp
    omega
/-- Where a variable is put: what was looked at from the end. -/
def Seek (L : List Int) (x : Int) (kk at_ : Nat) : Prop := kk ≤ L.length ∧ kk ≤ at_ ∧ at_ ≤ L.length ∧ (at_ < L.length → x ≤ L.getD at_ 0) ∧ ∀ j, kk ≤ j → j < at_ → L.getD j 0 < x
def RVarsE (w : World) (M : List Pt) (e : Ending) (w' : World) : Prop := ∃ v L, e = .returned v ∧ IRow w' v L ∧ VarsOf M M.length L ∧ Below w.heap.size w w'

def INS (L : List Int) (x : Int) (at_ : Nat) : List Int := L.take at_ ++ [x] ++ L.drop at_
theorem seek_none {L : List Int} {x : Int} {kk at_ : Nat} (h : Seek L x (kk + 1) at_) (hx : L.getD kk 0 < x) : Seek L x kk at_ :=
  ⟨by have := h.1; omega, by have := h.2.1; omega, h.2.2.1, h.2.2.2.1, fun j h1 h2 => by
    by_cases e : j = kk
    · subst e
      exact hx
    · exact h.2.2.2.2 j (by omega) h2⟩
theorem seek_here {L : List Int} {x : Int} {kk at_ : Nat} (h : Seek L x (kk + 1) at_) (hx : x ≤ L.getD kk 0) : Seek L x kk kk :=
  ⟨by have := h.1; omega, Nat.le_refl _, by have := h.1; omega, fun _ => hx, fun j h1 h2 => by omega⟩

set_option maxHeartbeats 8000000 in
theorem rvars_calls {w : World} {v : Value} {c : Int} {M : List Pt} (h : RTerm w v c M) (hl : M.length ≤ 100) :
    Calls Tryz.prog 56 #[v] w fun e w' => RVarsE w M e w' := by
  obtain ⟨cn, ca, cL, cc, pa, pl, pc, rfl, h1, hr, hg⟩ := h
  obtain ⟨_, _, e, _, _, h3⟩ := hr
  simp only [Value.slice.injEq] at e
  obtain ⟨rfl, rfl, rfl⟩ := e
  generalize hLn : M.length = Ln at *
  have HLN := hide hLn
  have H3 := hide h3
  have HG := hide hg
  have tb := Thr.new w (.bool cn) (.slice ca cL cc) (.slice pa Ln pc) 35
  have hba := bel w (.cells #[.bool cn, .slice ca cL cc, .slice pa Ln pc] 35)
  generalize hwA : w.alloc (.cells #[.bool cn, .slice ca cL cc, .slice pa Ln pc] 35) = wA at *
  have HWA := hide hwA
  have TB := hide tb
  have HBA := hide hba
  clear hwA hba h1 h3 hg hLn tb
  go_enter Tryz.func56, Tryz.ntmps56
  go_upto_region 2 with fail
  rw [HWA.out]
  go_wp2
  go_loopw [3, 4] (fun ov iv wr => ∃ (i : Nat) (L : List Int) (oa : Option Addr) (oc : Nat), i ≤ Ln ∧ iv = .int .i64 (i : Int) ∧ ov = .slice oa L.length oc ∧ IRow wr (.slice oa L.length oc) L ∧ VarsOf M i L ∧ Thr wr w.heap.size (.bool cn) (.slice ca cL cc) (.slice pa Ln pc) 35 ∧ Below w.heap.size w wr) (fun _ iv _ => Ln - (RowKit.intOf iv).toNat)
  case atStart => exact ⟨0, [], _, _, Nat.zero_le _, rfl, rfl, ⟨none, 0, rfl, Nat.le_refl _, fun j hj => (by simp at hj)⟩, varsOf_zero M, TB.out, HBA.out⟩
  case round =>
    obtain ⟨i, L, oa, oc, hi, rfl, rfl, hrow, hvo, htb, hbw⟩ := hrel
    generalize wr = wo at *
    clear wr
    obtain ⟨t0, t1, t2, _, _, _⟩ := htb.every
    have HTB := hide htb
    have HROW := hide hrow
    have HVO := hide hvo
    have HBW := hide hbw
    have hll : L.length ≤ 100 := by have := hvo.len; omega
    clear htb hrow hvo hbw
    by_cases hlt : i < Ln
    · obtain ⟨⟨vr, neg, mv, z⟩, hm⟩ : ∃ m, M[i]? = some m := ⟨_, List.getElem?_eq_getElem (by rw [HLN.out]; exact hlt)⟩
      obtain ⟨b, o, rfl, hc⟩ := H3.out i _ hm
      have c0 := (hc.below HBW.out).1
      dsimp only at c0
      have d1 : (i : Int) < (Ln : Int) := by omega
      have d0 : (0 : Int) ≤ (i : Int) := by omega
      have HM := hide hm
      generalize hLL : L.length = Lk at *
      have HLL := hide hLL
      clear hm hc hLL
      go_wp2
      clear t0 t1 t2 c0
      go_loopw [6, 7] (fun av kv wi => ∃ (kk at_ : Nat) (kv' : Int), av = .int .i64 (at_ : Int) ∧ kv = .int .i64 kv' ∧ kv' = (kk : Int) - 1 ∧ Seek L vr kk at_ ∧ wi = wo) (fun _ kv _ => (RowKit.intOf kv + 1).toNat)
      case atStart =>
        refine ⟨Lk, Lk, _, rfl, rfl, ?_, ⟨by rw [HLL.out]; omega, Nat.le_refl _, by rw [HLL.out]; omega, fun h => by rw [HLL.out] at h; omega, fun j h1 h2 => by omega⟩, rfl⟩
        simp [IntKind.wrap, IntKind.signed, IntKind.bits] <;> omega
      case round =>
        obtain ⟨kk, at_, kv', rfl, rfl, hkv, hsk, hwi⟩ := hrel
        have hwi' := hwi.symm
        subst hwi'
        clear hwi
        have HSK := hide hsk
        have hsk1 : kk ≤ Lk := by have := hsk.1; rw [HLL.out] at this; exact this
        have hsk2 : at_ ≤ Lk := by have := hsk.2.2.1; rw [HLL.out] at this; exact this
        clear hsk
        by_cases hk0 : kk = 0
        · subst hk0
          obtain rfl : kv' = -1 := by omega
          clear hkv
          obtain ⟨_, _, e, _, hcells⟩ := HROW.out
          simp only [Value.slice.injEq] at e
          obtain ⟨rfl, eL, rfl⟩ := e
          clear eL
          by_cases hat : at_ < Lk
          · obtain ⟨ob, oo, rfl, hcx⟩ := hcells at_ (by rw [HLL.out]; exact hat)
            generalize hX : L.getD at_ 0 = X at *
            have HX := hide hX
            have a2 : (at_ : Int) < (Lk : Int) := by omega
            by_cases hq : X = vr
            · subst hq
              have HMEM : Hid (X ∈ L) := by
                show X ∈ L
                rw [← HX.out, getD_at (by rw [HLL.out]; exact hat)]
                exact List.getElem_mem _
              have a0 : (0 : Int) ≤ (at_ : Int) := by omega
              clear hcells hX
              go_wp2
              go_roundw
              case rel =>
                have e9 := HLL.out
                subst e9
                exact ⟨i + 1, L, _, _, by omega, by go_num, rfl, HROW.out, HVO.out.skip HM.out HMEM.out, HTB.out, HBW.out⟩
              case measure => simp [RowKit.intOf]; omega
            · have qe : (X == vr) = false := beq_eq_false_iff_ne.2 hq
              have HNX : Hid (at_ < L.length → vr < L.getD at_ 0) := fun h9 => by
                have h8 := HSK.out.2.2.2.1 h9
                have h7 := HX.out
                show vr < _
                omega
              clear hX hq
              have n1 : ¬ (0 : Int) ≤ -1 := by omega
              have a0 : (0 : Int) ≤ (at_ : Int) := by omega
              obtain ⟨hfr, hcf⟩ := HROW.out.front (k := at_) (by rw [HLL.out]; omega)
              obtain ⟨aG, hrs, hcr⟩ := HROW.out.rest (k := at_) (by rw [HLL.out]; omega)
              obtain ⟨v1, w1, hrun1, ho1, hb1⟩ := run_appI wo wo.heap.size 30 _ [] (OwnV.nil _ _) _ (L.take at_) hfr (by simp only [List.length_nil, List.length_take]; omega) (Nat.le_refl _)
              have hbl := bel w1 (.cells #[.int .i64 vr] 3)
              have hb2 : Below wo.heap.size wo (w1.alloc (.cells #[.int .i64 vr] 3)) := hb1.trans (hbl.mono hb1.size)
              have hlit := irow_lit w1 vr
              have ho2 : OwnV wo.heap.size (w1.alloc (.cells #[.int .i64 vr] 3)) v1 ([] ++ L.take at_) := ho1.alloc _
              obtain ⟨v3, w3, hrun3, ho3, hb3⟩ := run_appI (w1.alloc (.cells #[.int .i64 vr] 3)) wo.heap.size 30 _ _ ho2 _ [vr] hlit (by simp only [List.nil_append, List.length_take, List.length_cons, List.length_nil]; omega) hb2.size
              obtain ⟨v4, w4, hrun4, ho4, hb4⟩ := run_appI w3 wo.heap.size 30 _ _ ho3 _ (L.drop at_) (hrs.below (hb2.trans hb3)) (by have h9 := HLL.out; simp only [List.nil_append, List.length_append, List.length_take, List.length_drop, List.length_cons, List.length_nil]; omega) (hb2.trans hb3).size
              obtain ⟨a1, l1, k1', rfl⟩ : ∃ a l k, v1 = .slice a l k := by
                obtain ⟨ao, cap, e, _⟩ := ho1.row
                exact ⟨_, _, _, e⟩
              obtain ⟨a3, l3, k3', rfl⟩ : ∃ a l k, v3 = .slice a l k := by
                obtain ⟨ao, cap, e, _⟩ := ho3.row
                exact ⟨_, _, _, e⟩
              have HR4 : Hid (IRow w4 v4 (INS L vr at_)) := by
                have h9 := ho4.row
                rw [List.nil_append] at h9
                exact h9
              obtain ⟨a4, k4', hv4⟩ : ∃ a k, v4 = .slice a (INS L vr at_).length k := by
                obtain ⟨ao, cap, e, _⟩ := HR4.out
                exact ⟨_, _, e⟩
              subst hv4
              have HB4 := hide ((hb2.trans hb3).trans hb4)
              clear hfr hrs ho1 hb1 hbl hb2 hlit ho2 ho3 hb3 ho4 hb4
              generalize hil : (INS L vr at_).length = il at *
              have HIL := hide hil
              clear hil
              clear hcells
              go_wp2_with (at_builtin; go_must (first | (refine Lib.wpList_append_run _ rfl _ _ _ _ rfl _ _ rfl rfl _ _ hrun1 ?_; clear hrun1) | (refine Lib.wpList_append_run _ rfl _ _ _ _ rfl _ _ rfl rfl _ _ hrun3 ?_; clear hrun3) | (refine Lib.wpList_append_run _ rfl _ _ _ _ rfl _ _ rfl rfl _ _ hrun4 ?_; clear hrun4)))
              go_roundw
              case rel =>
                have e9 := HIL.out
                subst e9
                refine ⟨i + 1, INS L vr at_, _, _, by omega, by go_num, rfl, HR4.out, HVO.out.put HM.out (by rw [HLL.out]; omega) (fun j hj => HSK.out.2.2.2.2 j (Nat.zero_le _) hj) HNX.out, HTB.out.keep HB4.out, HBW.out.trans (HB4.out.mono HBW.out.size)⟩
              case measure => simp [RowKit.intOf]; omega
          · have a2 : ¬ (at_ : Int) < (Lk : Int) := by omega
            have HNX : Hid (at_ < L.length → vr < L.getD at_ 0) := fun h9 => by
              rw [HLL.out] at h9
              exact absurd h9 hat
            clear hat
            have n1 : ¬ (0 : Int) ≤ -1 := by omega
            have a0 : (0 : Int) ≤ (at_ : Int) := by omega
            obtain ⟨hfr, hcf⟩ := HROW.out.front (k := at_) (by rw [HLL.out]; omega)
            obtain ⟨aG, hrs, hcr⟩ := HROW.out.rest (k := at_) (by rw [HLL.out]; omega)
            obtain ⟨v1, w1, hrun1, ho1, hb1⟩ := run_appI wo wo.heap.size 30 _ [] (OwnV.nil _ _) _ (L.take at_) hfr (by simp only [List.length_nil, List.length_take]; omega) (Nat.le_refl _)
            have hbl := bel w1 (.cells #[.int .i64 vr] 3)
            have hb2 : Below wo.heap.size wo (w1.alloc (.cells #[.int .i64 vr] 3)) := hb1.trans (hbl.mono hb1.size)
            have hlit := irow_lit w1 vr
            have ho2 : OwnV wo.heap.size (w1.alloc (.cells #[.int .i64 vr] 3)) v1 ([] ++ L.take at_) := ho1.alloc _
            obtain ⟨v3, w3, hrun3, ho3, hb3⟩ := run_appI (w1.alloc (.cells #[.int .i64 vr] 3)) wo.heap.size 30 _ _ ho2 _ [vr] hlit (by simp only [List.nil_append, List.length_take, List.length_cons, List.length_nil]; omega) hb2.size
            obtain ⟨v4, w4, hrun4, ho4, hb4⟩ := run_appI w3 wo.heap.size 30 _ _ ho3 _ (L.drop at_) (hrs.below (hb2.trans hb3)) (by have h9 := HLL.out; simp only [List.nil_append, List.length_append, List.length_take, List.length_drop, List.length_cons, List.length_nil]; omega) (hb2.trans hb3).size
            obtain ⟨a1, l1, k1', rfl⟩ : ∃ a l k, v1 = .slice a l k := by
              obtain ⟨ao, cap, e, _⟩ := ho1.row
              exact ⟨_, _, _, e⟩
            obtain ⟨a3, l3, k3', rfl⟩ : ∃ a l k, v3 = .slice a l k := by
              obtain ⟨ao, cap, e, _⟩ := ho3.row
              exact ⟨_, _, _, e⟩
            have HR4 : Hid (IRow w4 v4 (INS L vr at_)) := by
              have h9 := ho4.row
              rw [List.nil_append] at h9
              exact h9
            obtain ⟨a4, k4', hv4⟩ : ∃ a k, v4 = .slice a (INS L vr at_).length k := by
              obtain ⟨ao, cap, e, _⟩ := HR4.out
              exact ⟨_, _, e⟩
            subst hv4
            have HB4 := hide ((hb2.trans hb3).trans hb4)
            clear hfr hrs ho1 hb1 hbl hb2 hlit ho2 ho3 hb3 ho4 hb4
            generalize hil : (INS L vr at_).length = il at *
            have HIL := hide hil
            clear hil
            clear hcells
            go_wp2_with (at_builtin; go_must (first | (refine Lib.wpList_append_run _ rfl _ _ _ _ rfl _ _ rfl rfl _ _ hrun1 ?_; clear hrun1) | (refine Lib.wpList_append_run _ rfl _ _ _ _ rfl _ _ rfl rfl _ _ hrun3 ?_; clear hrun3) | (refine Lib.wpList_append_run _ rfl _ _ _ _ rfl _ _ rfl rfl _ _ hrun4 ?_; clear hrun4)))
            go_roundw
            case rel =>
              have e9 := HIL.out
              subst e9
              refine ⟨i + 1, INS L vr at_, _, _, by omega, by go_num, rfl, HR4.out, HVO.out.put HM.out (by rw [HLL.out]; omega) (fun j hj => HSK.out.2.2.2.2 j (Nat.zero_le _) hj) HNX.out, HTB.out.keep HB4.out, HBW.out.trans (HB4.out.mono HBW.out.size)⟩
            case measure => simp [RowKit.intOf]; omega
        · obtain ⟨k1, rfl⟩ : ∃ k1, kk = k1 + 1 := ⟨kk - 1, by omega⟩
          obtain rfl : kv' = (k1 : Int) := by omega
          clear hkv hk0
          obtain ⟨_, _, e, _, hcells⟩ := HROW.out
          simp only [Value.slice.injEq] at e
          obtain ⟨rfl, eL, rfl⟩ := e
          clear eL
          obtain ⟨ob, oo, rfl, hcx⟩ := hcells k1 (by rw [HLL.out]; omega)
          generalize hX : L.getD k1 0 = X at *
          have HX := hide hX
          have k0 : (0 : Int) ≤ (k1 : Int) := by omega
          have k2 : (k1 : Int) < (Lk : Int) := by omega
          have hw1 : IntKind.i64.wrap ((k1 : Int) - 1) = (k1 : Int) - 1 := by
            simp [IntKind.wrap, IntKind.signed, IntKind.bits]
            omega
          clear hcells hX
          by_cases hge : vr ≤ X
          · have HGE := hide hge
            go_wp2
            go_roundw
            case rel => exact ⟨k1, k1, _, rfl, (by first | rfl | rw [hw1]), rfl, seek_here HSK.out (by rw [HX.out]; exact HGE.out), (by first | rfl | trivial)⟩
            case measure => (simp [RowKit.intOf, hw1] <;> omega)
          · have HGE := hide hge
            go_wp2
            go_roundw
            case rel => exact ⟨k1, at_, _, rfl, (by first | rfl | rw [hw1]), rfl, seek_none HSK.out (by have := HGE.out; rw [HX.out]; omega), (by first | rfl | trivial)⟩
            case measure => (simp [RowKit.intOf, hw1] <;> omega)
    · obtain rfl : i = Ln := by omega
      have d1 : ¬ (i : Int) < (i : Int) := by omega
      generalize hLL : L.length = Lk at *
      have HLL := hide hLL
      clear hLL
      go_wp2
      go_ret
      have h1 := HVO.out
      rw [← HLN.out] at h1
      exact ⟨_, L, rfl, HROW.out, h1, HBW.out⟩

end Go.Proofs.YtbjolmgobeagoaaGreatDoor
