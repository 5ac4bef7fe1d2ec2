/- Frame: a reader takes a part of a body; take. -/
import Derived.Test.YtnflbplhokodjaaDoorFTake
import Derived.Deep.RegionHeld3
import Derived.Deep.CutRange
namespace Go.Proofs.YtnflbplhokodjaaDoor
set_option linter.unusedVariables false
set_option linter.unusedSimpArgs false
set_option maxRecDepth 100000
open Go Go.RowKit Go.Shelf Go.Lib

theorem takeD {P : Program} {md : Region.Mode} {ops : Array Oper} {Q : Exit → Act → World → Prop} {S : World → Prop} {i : Nat} {oi : Oper} {v : Value} {fuel : Nat} {listed : Array Bool} {a : Act} {w : World} (d : Option Tmp) (hi : ops[i]? = some oi)
    (hs : Region.noSelect ops = true) (hf : Region.free md ops listed i = true) (hr : (Region.ready md ops listed).contains i = true)
    (hQ : ∀ c a w, Q (.panic c) (a.put oi.dst v) w → Q (.panic c) a w) (hy : YieldsIf P ops S oi v a) (hS : S w) (hd : oi.dst = d)
    (h : wpAnyH P md ops Q S fuel (listed.setIfInBounds i true) (a.put d v) w) : wpAnyH P md ops Q S (fuel + 1) listed a w :=
  wpAnyH_take hi hs hf hr hQ hy hS (by rw [hd]; exact h)

set_option maxHeartbeats 2000000 in
theorem skip_calls (w : World) (n₀ R l : Nat) (ao : Option Addr) (n c m : Nat) (hm : min (l : Int) (n : Int) = (m : Int)) (hbx : Rdr n₀ w R (.skip l) none) (hn : 0 < n) (hn2 : n ≤ 1000000000) :
    Calls Tryd.prog 23 #[.pointer (some ⟨R, 0, none⟩), .slice ao n c] w fun e w' => e = .returned (.int .i64 (m : Int)) ∧ Rdr n₀ w' R (if m = l then .head hd0 else .skip (l - m)) none ∧ Fr R none w w' := by
  obtain ⟨hbx, _, hl0, hl1⟩ := hbx
  have c0 : w.cell? ⟨R, 0, none⟩ = some (.int .i64 2) := hbx.cell 0
  have c1 : w.cell? ⟨R, 1, none⟩ = some zeroI := hbx.cell 1
  have c2 : w.cell? ⟨R, 2, none⟩ = some nilS := hbx.cell 2
  have c3 : w.cell? ⟨R, 3, none⟩ = some (.bool false) := hbx.cell 3
  have c4 : w.cell? ⟨R, 4, none⟩ = some (.int .i64 0) := hbx.cell 4
  have c5 : w.cell? ⟨R, 5, none⟩ = some (.int .i64 (l : Int)) := hbx.cell 5
  have c6 : w.cell? ⟨R, 6, none⟩ = some nilS := hbx.cell 6
  have f0 := hbx.frozen 0
  have f1 := hbx.frozen 1
  have f2 := hbx.frozen 2
  have f3 := hbx.frozen 3
  have f4 := hbx.frozen 4
  have f5 := hbx.frozen 5
  have f6 := hbx.frozen 6
  have lR := hbx.lt
  have HX := hide hbx
  have HP := hide (part_calls w R l n c m ao hm c5 hl1 hn2)
  have hml : m ≤ l := by omega
  have hm0 : 0 < m := by omega
  obtain ⟨d, hd⟩ : ∃ d : Nat, l = d + m := ⟨l - m, by omega⟩
  have e1 : (l : Int) - (m : Int) = (d : Int) := by omega
  have HD := hide hd
  have HX5 : Hid (BoxC (w.setCell ⟨R, 5, none⟩ (.int .i64 (d : Int))) R 48 #[.int .i64 2, zeroI, nilS, .bool false, .int .i64 0, .int .i64 (d : Int), nilS]) := hbx.set 5 (.int .i64 (d : Int))
  have hdb : d < 10000000000 := by omega
  clear hbx hm hd hml
  by_cases h0 : d = 0
  · have e0 : ((d : Int) == 0) = true := beq_iff_eq.2 (by omega)
    have HM : Hid (m = l) := by have := HD.out; show m = l; omega
    go_enter Tryd.func23, Tryd.ntmps23
    go_wp2_with fail
    refine HP.out.mono ?_
    rintro e w1 ⟨rfl, hw⟩
    rw [hw]
    clear hw HP h0
    go_wp2
    go_ret
    refine ⟨rfl, ⟨nilS, set7_box HX5.out _ _ _ _ _ _ _, World.ownsRow_nil _ _ _ _, rfl, Nat.le_refl _, by decide, fun x hx => (by cases hx), by decide⟩, set7_fr ((Fr.refl R none w).set 5 _) _ _ _ _ _ _ _⟩
  · have e0 : ((d : Int) == 0) = false := beq_eq_false_iff_ne.2 (by omega)
    have HM : Hid (m ≠ l) := by have := HD.out; show m ≠ l; omega
    have HM2 : Hid (l - m = d) := by have := HD.out; show l - m = d; omega
    have hd0' : 0 < d := by omega
    go_enter Tryd.func23, Tryd.ntmps23
    go_wp2_with fail
    refine HP.out.mono ?_
    rintro e w1 ⟨rfl, hw⟩
    rw [hw]
    clear hw HP h0
    go_wp2
    go_ret
    rw [HM2.out]
    exact ⟨rfl, ⟨HX5.out, rfl, hd0', hdb⟩, (Fr.refl R none w).set 5 _⟩

/-- Appending bytes, whatever they are, to one's own, in a region that draws. -/
theorem wp_appA (w : World) {o : Oper} {a : Act} {K : Act → World → Prop} {Q : Exit → Act → World → Prop} (s x : Operand)
    (ho : o.op = .call { callee := .builtin .append, args := #[s, x], argTypes := #[25, 25] })
    (n₀ : Nat) (v : Value) (gs : List Nat) (hs : a.eval s = v) (hown : OwnB n₀ w v gs) (xv : Value) (xs : List Nat) (hx : a.eval x = xv) (hl : Byts w xv xs) (hsum : gs.length + xs.length ≤ 1000000000) (hbase : n₀ ≤ w.heap.size)
    (h : ∀ v' w', OwnB n₀ w' v' (gs ++ xs) → w.grownBy w' v.ownBlock → (v'.ownBlock = v.ownBlock ∨ v'.ownBlock = some w.heap.size) → K (a.put o.dst v') w') : o.wp Tryd.prog a w K Q := by
  have key : ∃ v' w', (Builtin.append_ #[25, 25] o.type #[v, xv]).run Tryd.prog w = .ok v' w' ∧ OwnB n₀ w' v' (gs ++ xs) ∧ w.grownBy w' v.ownBlock ∧ (v'.ownBlock = v.ownBlock ∨ v'.ownBlock = some w.heap.size) := by
    obtain ⟨ao, cap, rfl, h3, h4⟩ := hl
    obtain ⟨i0, hi, hz0, hz1, hz2⟩ := info_parts infoByte
    cases ao with
    | none =>
      have hz : xs = [] := by
        cases xs with
        | nil => rfl
        | cons y l => obtain ⟨b, off, e, _⟩ := h4 0 (by simp); cases e
      subst hz
      exact ⟨v, w, run_append_none w n₀ o.type v gs cap hown, by simpa using hown, ⟨rfl, rfl, rfl, Nat.le_refl _, fun _ _ _ => rfl⟩, .inl rfl⟩
    | some ad =>
      obtain ⟨v', w', hr, h2, h3', _, h5⟩ := run_append_own_at (P := Tryd.prog) w n₀ 25 o.type 5 i0 (.int .u8 0) 1 1 Tryd.underlying25 hi hz0 hz1 hz2 rfl (by decide) v gs.length (u8s gs) hown ad xs.length cap (u8s xs) (by simp [u8s]) (by
        intro j u hj
        have hj2 : j < xs.length := by
          have := (List.getElem?_eq_some_iff.1 hj).1
          rw [u8s_length] at this
          exact this
        obtain ⟨b, off, e, hc⟩ := h4 j hj2
        cases e
        rw [addr_add', hc]
        simp [u8s, hj2] at hj
        simp [nth, hj2, hj]) (by
        intro u hu
        obtain ⟨z, _, rfl⟩ := List.mem_map.1 hu
        rfl) (by unfold maxLen; omega) (by omega) hbase
      refine ⟨v', w', hr, ?_, h3', h5⟩
      unfold OwnB
      rw [List.length_append, u8s_append]
      exact h2
  obtain ⟨v', w', hr, h2, h3, h5⟩ := key
  unfold Oper.wp execOp
  simp only [ho, resolve, invoke, builtin, Sem.run_bind, Sem.run_pure, Result.andThen_ok, List.map_toArray, List.map_cons, List.map_nil, hs, hx, hr]
  exact h v' w' h2 h3 h5

set_option maxHeartbeats 8000000 in
theorem takeBody_calls (w : World) (n₀ R l : Nat) (got : List Nat) (row : Option Nat) (ao : Option Addr) (cap : Nat) (T : List Nat) (m : Nat) (hm : min (l : Int) (T.length : Int) = (m : Int)) (hr : Rdr n₀ w R (.body l got) row) (hn : 0 < T.length) (hn2 : T.length ≤ 100000000) (hB : Byts w (.slice ao T.length cap) T) (hcap : T.length ≤ cap) (hnw : n₀ ≤ w.heap.size) (s' : St) (ms : List Msg)
    (hcase : (m = l ∧ s' = .head hd0 ∧ ms = [(1, got ++ T.take m)]) ∨ (m < l ∧ s' = .body (l - m) (got ++ T.take m) ∧ ms = [])) :
    Calls Tryd.prog 22 #[.pointer (some ⟨R, 0, none⟩), .slice ao T.length cap] w fun e w' => ∃ k bv, e = .returned (.tuple #[.int .i64 (m : Int), .agg #[k, bv]]) ∧ TakeR n₀ w R row s' ms k bv w' := by
  obtain ⟨bv, hbx, how, rfl, hl0, hl1, hgb⟩ := hr
  have hb0 := bel w (.cells #[.int .i64 0, .slice none 0 0] 34)
  have x0 := hbx.below hb0
  have xV := BoxC.new w 34 #[.int .i64 0, .slice none 0 0]
  have hbl := hbx.lt
  have hlt := how.lt
  have hoff := how.off hbx
  have hne : w.heap.size ≠ R := by omega
  have hne' : R ≠ w.heap.size := hne.symm
  have hmT : m ≤ T.length := by omega
  have hml : m ≤ l := by omega
  have q1 := fun W : World => cut_front W ao T.length cap m (by omega)
  generalize hw0 : w.alloc (.cells #[.int .i64 0, .slice none 0 0] 34) = w0 at *
  have c5 : w0.cell? ⟨R, 5, none⟩ = some (.int .i64 (l : Int)) := x0.cell 5
  have c6 : w0.cell? ⟨R, 6, none⟩ = some bv := x0.cell 6
  have HP := hide (part_calls w0 R l T.length cap m ao hm c5 (by omega) (by omega))
  have HBY := hide ((hB.below hb0).front hmT)
  have HOW := hide (how.below hb0)
  have HX0 := hide x0
  have HXV := hide xV
  have HB0 := hide hb0
  have HLT := hide hlt
  have HOFF := hide hoff
  have HCS := hide hcase
  have HW0 := hide hw0
  have HGB := hide hgb
  have HTB := hide hB.small
  have hn0 : n₀ ≤ w0.heap.size := by have := hb0.size; omega
  have hl1' : l ≤ 16777216 := by omega
  have HLG := hide hl1
  have lV : w.heap.size < w0.heap.size := xV.lt
  have lR : R < w0.heap.size := x0.lt
  clear x0 xV hb0 hlt hoff hcase how hbx hB hw0 hgb hl1 hm
  go_enter Tryd.func22, Tryd.ntmps22
  go_wp2_with fail
  rw [HW0.out]
  clear HW0
  refine HP.out.mono ?_
  rintro e w1 ⟨rfl, hw⟩
  rw [hw]
  clear hw HP
  go_upto_region 2 with fail
  refine wp_region_held_drew (S := fun X : World => True) (by kernel_rfl) trivial (fun hHeld => ?_)
  refine takeD (i := 0) (v := ?v1) (some 11) rfl (by kernel_rfl) (by kernel_rfl) (by kernel_rfl) (fun _ _ _ h => h) (Or.inl ⟨by rfl, ?hy1⟩) (by trivial) (by rfl) ?rest1
  case hy1 => first | (intro w hSw; go_simp; done) | (intro w hSw; go_simp; with_reducible rfl) | (intro w hSw; go_simp; rw [q1]; go_simp; done) | (intro w hSw; go_simp; rw [q1]; go_simp; with_reducible rfl)
  try simp only [Act.put, List.setIfInBounds_toArray, List.set_cons_zero, List.set_cons_succ]
  refine takeD (i := 1) (v := ?v2) (some 12) rfl (by kernel_rfl) (by kernel_rfl) (by kernel_rfl) (fun _ _ _ h => h) (Or.inl ⟨by rfl, ?hy2⟩) (by trivial) (by rfl) ?rest2
  case hy2 => first | (intro w hSw; go_simp; done) | (intro w hSw; go_simp; with_reducible rfl) | (intro w hSw; go_simp; rw [q1]; go_simp; done) | (intro w hSw; go_simp; rw [q1]; go_simp; with_reducible rfl)
  try simp only [Act.put, List.setIfInBounds_toArray, List.set_cons_zero, List.set_cons_succ]
  refine takeD (i := 2) (v := ?v3) (some 13) rfl (by kernel_rfl) (by kernel_rfl) (by kernel_rfl) (fun _ _ _ h => h) (Or.inl ⟨by rfl, ?hy3⟩) (by trivial) (by rfl) ?rest3
  case hy3 => first | (intro w hSw; go_simp; done) | (intro w hSw; go_simp; with_reducible rfl) | (intro w hSw; go_simp; rw [q1]; go_simp; done) | (intro w hSw; go_simp; rw [q1]; go_simp; with_reducible rfl)
  try simp only [Act.put, List.setIfInBounds_toArray, List.set_cons_zero, List.set_cons_succ]
  refine takeD (i := 3) (v := ?v4) (some 14) rfl (by kernel_rfl) (by kernel_rfl) (by kernel_rfl) (fun _ _ _ h => h) (Or.inl ⟨by rfl, ?hy4⟩) (by trivial) (by rfl) ?rest4
  case hy4 => first | (intro w hSw; go_simp; done) | (intro w hSw; go_simp; with_reducible rfl) | (intro w hSw; go_simp; rw [q1]; go_simp; done) | (intro w hSw; go_simp; rw [q1]; go_simp; with_reducible rfl)
  try simp only [Act.put, List.setIfInBounds_toArray, List.set_cons_zero, List.set_cons_succ]
  refine takeD (i := 5) (v := ?v5) (some 16) rfl (by kernel_rfl) (by kernel_rfl) (by kernel_rfl) (fun _ _ _ h => h) (Or.inl ⟨by rfl, ?hy5⟩) (by trivial) (by rfl) ?rest5
  case hy5 => first | (intro w hSw; go_simp; done) | (intro w hSw; go_simp; with_reducible rfl) | (intro w hSw; go_simp; rw [q1]; go_simp; done) | (intro w hSw; go_simp; rw [q1]; go_simp; with_reducible rfl)
  try simp only [Act.put, List.setIfInBounds_toArray, List.set_cons_zero, List.set_cons_succ]
  refine takeD (i := 6) (v := ?v6) (some 17) rfl (by kernel_rfl) (by kernel_rfl) (by kernel_rfl) (fun _ _ _ h => h) (Or.inl ⟨by rfl, ?hy6⟩) (by trivial) (by rfl) ?rest6
  case hy6 => first | (intro w hSw; go_simp; done) | (intro w hSw; go_simp; with_reducible rfl) | (intro w hSw; go_simp; rw [q1]; go_simp; done) | (intro w hSw; go_simp; rw [q1]; go_simp; with_reducible rfl)
  try simp only [Act.put, List.setIfInBounds_toArray, List.set_cons_zero, List.set_cons_succ]
  refine takeD (i := 7) (v := ?v7) (some 18) rfl (by kernel_rfl) (by kernel_rfl) (by kernel_rfl) (fun _ _ _ h => h) (Or.inl ⟨by rfl, ?hy7⟩) (by trivial) (by rfl) ?rest7
  case hy7 => first | (intro w hSw; go_simp; done) | (intro w hSw; go_simp; with_reducible rfl) | (intro w hSw; go_simp; rw [q1]; go_simp; done) | (intro w hSw; go_simp; rw [q1]; go_simp; with_reducible rfl)
  try simp only [Act.put, List.setIfInBounds_toArray, List.set_cons_zero, List.set_cons_succ]
  refine wpAnyH_ready (rs := [4]) (by kernel_rfl) (by simp) ?_
  refine AllReadyH.cons rfl (fun K hK => ?_) AllReadyH.nil
  go_simp
  refine hK.out _ _ trivial (fun _ => ?_)
  clear hK K
  try simp only [Act.put, List.setIfInBounds_toArray, List.set_cons_zero, List.set_cons_succ]
  refine wpAnyH_ready (rs := [8]) (by kernel_rfl) (by simp) ?_
  refine AllReadyH.cons rfl (fun K hK => ?_) AllReadyH.nil
  refine wp_appA _ (.tmp 15) (.tmp 18) rfl n₀ bv got rfl HOW.out _ (T.take m) rfl HBY.out (by rw [List.length_take]; have := HLG.out; omega) hn0 ?_
  intro v' w2 hown' hgrow hrow
  have HO2 := hide hown'
  obtain ⟨av, LL, cv, hv'⟩ := hown'.slice
  subst hv'
  have hx2 := BoxC.kept (W := w0.drew) (W' := w2) HX0.out hgrow (fun q => HOFF.out q.symm)
  have hxV2 := BoxC.kept (W := w0.drew) (W' := w2) HXV.out hgrow (fun q => by have := (HLT.out _ q.symm).2; omega)
  have c5' : w2.cell? ⟨R, 5, none⟩ = some (.int .i64 (l : Int)) := hx2.cell 5
  have c6' : w2.cell? ⟨R, 6, none⟩ = some bv := hx2.cell 6
  have f6' := hx2.frozen 6
  have f5' := hx2.frozen 5
  have lR' := hx2.lt
  have HX2 := hide hx2
  have HXV2 := hide hxV2
  have HG2 : Hid (Fr R bv.ownBlock w w2) := Fr.after HB0.out.drew (Fr.grown hgrow)
  have HR2 : Hid (RowTo w bv.ownBlock (Value.slice av LL cv).ownBlock) := by
    rcases hrow with q | q
    · exact .inr (.inl q)
    · exact .inr (.inr ⟨_, q, by have := HB0.out.size; exact this⟩)
  refine hK.out _ _ trivial (fun _ => ?_)
  clear hK K hown' hgrow hrow hx2 hxV2
  try simp only [Act.put, List.setIfInBounds_toArray, List.set_cons_zero, List.set_cons_succ]
  refine takeD (i := 9) (v := ?v8) (some 20) rfl (by kernel_rfl) (by kernel_rfl) (by kernel_rfl) (fun _ _ _ h => h) (Or.inl ⟨by rfl, ?hy8⟩) (by trivial) (by rfl) ?rest8
  case hy8 => first | (intro w hSw; go_simp; done) | (intro w hSw; go_simp; with_reducible rfl)
  try simp only [Act.put, List.setIfInBounds_toArray, List.set_cons_zero, List.set_cons_succ]
  refine takeD (i := 10) (v := ?v9) (some 21) rfl (by kernel_rfl) (by kernel_rfl) (by kernel_rfl) (fun _ _ _ h => h) (Or.inl ⟨by rfl, ?hy9⟩) (by trivial) (by rfl) ?rest9
  case hy9 => first | (intro w hSw; go_simp; done) | (intro w hSw; go_simp; with_reducible rfl)
  try simp only [Act.put, List.setIfInBounds_toArray, List.set_cons_zero, List.set_cons_succ]
  refine wpAnyH_ready (rs := [11]) (by kernel_rfl) (by simp) ?_
  refine AllReadyH.cons rfl (fun K hK => ?_) AllReadyH.nil
  go_simp
  refine hK.out _ _ trivial (fun _ => ?_)
  clear hK K
  try simp only [Act.put, List.setIfInBounds_toArray, List.set_cons_zero, List.set_cons_succ]
  refine wpAnyH_done (by kernel_rfl) ?_ _
  have HO3 := hide (HO2.out.fr ((Fr.refl R none w2).set 6 (.slice av LL cv)) (HO2.out.off HX2.out) (by cases (Value.slice av LL cv).ownBlock <;> simp))
  have HX3 : Hid (BoxC (w2.setCell ⟨R, 6, none⟩ (.slice av LL cv)) R 48 #[.int .i64 1, zeroI, nilS, .bool false, .int .i64 0, .int .i64 (l : Int), .slice av LL cv]) := HX2.out.set 6 (.slice av LL cv)
  have HXV3 := hide (HXV2.out.other hne 6 (.slice av LL cv))
  have HF3 := hide (HG2.out.set 6 (.slice av LL cv))
  have hsz3 : (w2.setCell ⟨R, 6, none⟩ (.slice av LL cv)).heap.size = w2.heap.size := World.size_setCell _ _ _
  generalize hw3 : w2.setCell ⟨R, 6, none⟩ (.slice av LL cv) = w3 at *
  have z0 : w3.cell? ⟨R, 0, none⟩ = some (.int .i64 1) := HX3.out.cell 0
  have z1 : w3.cell? ⟨R, 1, none⟩ = some zeroI := HX3.out.cell 1
  have z2 : w3.cell? ⟨R, 2, none⟩ = some nilS := HX3.out.cell 2
  have z3 : w3.cell? ⟨R, 3, none⟩ = some (.bool false) := HX3.out.cell 3
  have z4 : w3.cell? ⟨R, 4, none⟩ = some (.int .i64 0) := HX3.out.cell 4
  have z5 : w3.cell? ⟨R, 5, none⟩ = some (.int .i64 (l : Int)) := HX3.out.cell 5
  have z6 : w3.cell? ⟨R, 6, none⟩ = some (.slice av LL cv) := HX3.out.cell 6
  have g0 := HX3.out.frozen 0
  have g1 := HX3.out.frozen 1
  have g2 := HX3.out.frozen 2
  have g3 := HX3.out.frozen 3
  have g4 := HX3.out.frozen 4
  have g5 := HX3.out.frozen 5
  have g6 := HX3.out.frozen 6
  have lR3 := HX3.out.lt
  have v0 : w3.cell? ⟨w.heap.size, 0, none⟩ = some (.int .i64 0) := HXV3.out.cell 0
  have v1 : w3.cell? ⟨w.heap.size, 1, none⟩ = some (.slice none 0 0) := HXV3.out.cell 1
  have vf0 := HXV3.out.frozen 0
  have vf1 := HXV3.out.frozen 1
  have lV3 := HXV3.out.lt
  clear c5 c6 c5' c6' f5' f6' lR' hw3 hsz3 HO2 HX2 HXV2 HG2 HX0 HXV HOW HBY lV lR
  obtain ⟨d, hd⟩ : ∃ d : Nat, l = d + m := ⟨l - m, by omega⟩
  have e1 : (l : Int) - (m : Int) = (d : Int) := by omega
  have hdb : d ≤ 16777216 := by omega
  have HX4 : Hid (BoxC (w3.setCell ⟨R, 5, none⟩ (.int .i64 (d : Int))) R 48 #[.int .i64 1, zeroI, nilS, .bool false, .int .i64 0, .int .i64 (d : Int), .slice av LL cv]) := HX3.out.set 5 (.int .i64 (d : Int))
  have HXV4 := hide (HXV3.out.other hne 5 (.int .i64 (d : Int)))
  have HO4 := hide (HO3.out.fr ((Fr.refl R none w3).set 5 (.int .i64 (d : Int))) (HO3.out.off HX3.out) (by cases (Value.slice av LL cv).ownBlock <;> simp))
  have HF4 := hide (HF3.out.set 5 (.int .i64 (d : Int)))
  have HGT : Hid (∀ x ∈ got ++ T.take m, x < 256) := fun x hx => by
    rcases List.mem_append.1 hx with q | q
    · exact HGB.out x q
    · exact HTB.out x (List.mem_of_mem_take q)
  have HD := hide hd
  rcases HCS.out with ⟨ha, rfl, rfl⟩ | ⟨ha, rfl, rfl⟩
  · obtain rfl : d = 0 := by omega
    have HX5 : Hid (BoxC (w3.setCell ⟨R, 5, none⟩ (.int .i64 0)) R 48 #[.int .i64 1, zeroI, nilS, .bool false, .int .i64 0, .int .i64 0, .slice av LL cv]) := HX4.out
    obtain ⟨W7, hW7⟩ : ∃ W7, set7 (w3.setCell ⟨R, 5, none⟩ (.int .i64 0)) R (.int .i64 0) (.int .i64 0) (.slice none 0 0) (.bool false) (.int .i64 0) (.int .i64 0) (.slice none 0 0) = W7 := ⟨_, rfl⟩
    have x7 : BoxC W7 R 48 #[.int .i64 0, .int .i64 0, .slice none 0 0, .bool false, .int .i64 0, .int .i64 0, .slice none 0 0] := by rw [← hW7]; exact set7_box HX5.out _ _ _ _ _ _ _
    have f7 : Fr R bv.ownBlock w W7 := by rw [← hW7]; exact set7_fr HF4.out _ _ _ _ _ _ _
    have fr7 : Fr R none w3 W7 := by rw [← hW7]; exact set7_fr ((Fr.refl R none w3).set 5 _) _ _ _ _ _ _ _
    have o7 : OwnB n₀ W7 (.slice av LL cv) (got ++ T.take m) := HO3.out.fr fr7 (HO3.out.off HX3.out) (by cases (Value.slice av LL cv).ownBlock <;> simp)
    have s7 : W7.heap.size = w3.heap.size := by rw [← hW7, set7_size]; exact World.size_setCell _ _ _
    have v7 : BoxC W7 w.heap.size 34 #[.int .i64 0, .slice none 0 0] := HXV3.out.fr fr7 hne (by simp)
    have hb8 := bel W7 (.cells #[.int .i64 1, .slice av LL cv] 34)
    have xM := new_at s7 34 #[.int .i64 1, .slice av LL cv]
    have x8 := x7.below hb8
    have v8 := v7.below hb8
    have o8 := o7.below hb8
    have f8 := f7.then hb8
    obtain ⟨W8, hW8⟩ : ∃ W8, W7.alloc (.cells #[.int .i64 1, .slice av LL cv] 34) = W8 := ⟨_, rfl⟩
    rw [hW8] at xM x8 v8 o8 f8
    have HW7 := hide hW7
    have HW8 := hide hW8
    have HT : Hid (TakeR n₀ w R bv.ownBlock (.head hd0) [(1, got ++ T.take m)] (.int .i64 1) (.slice av LL cv) W8) := ⟨none, ⟨by decide, rfl, o8, HGT.out⟩, ⟨nilS, x8, World.ownsRow_nil _ _ _ _, rfl, Nat.le_refl _, by decide, fun x hx => (by cases hx), by decide⟩, f8, .inl rfl, HR2.out, fun j _ e => by cases e⟩
    have m0 : W8.cell? ⟨w3.heap.size, 0, none⟩ = some (.int .i64 1) := xM.cell 0
    have m1 : W8.cell? ⟨w3.heap.size, 1, none⟩ = some (.slice av LL cv) := xM.cell 1
    have u0 : W8.cell? ⟨w.heap.size, 0, none⟩ = some (.int .i64 0) := v8.cell 0
    have u1 : W8.cell? ⟨w.heap.size, 1, none⟩ = some (.slice none 0 0) := v8.cell 1
    have uf0 := v8.frozen 0
    have uf1 := v8.frozen 1
    have lV8 := v8.lt
    have HV8 := hide v8
    clear ha hd HCS x7 f7 fr7 o7 s7 v7 hb8 xM x8 v8 o8 f8 hW7 hW8
    go_upto_region 8 with fail
    show Code.wp _ _ _ _ ((set7 (w3.setCell ⟨R, 5, none⟩ (.int .i64 0)) R (.int .i64 0) (.int .i64 0) (.slice none 0 0) (.bool false) (.int .i64 0) (.int .i64 0) (.slice none 0 0)).alloc (.cells #[.int .i64 1, .slice av LL cv] 34))
    rw [HW7.out, HW8.out]
    clear HW7 HW8 z0 z1 z2 z3 z4 z5 z6 g0 g1 g2 g3 g4 g5 g6 v0 v1 vf0 vf1 lV3 lR3
    go_region
    all_goals go_wp2
    all_goals refine bodyPost_ret (results_msg2 rfl rfl rfl (BoxC.set2 (W := W8) HV8.out (.int .i64 1) (.slice av LL cv))) rfl ?_
    all_goals exact ⟨_, _, rfl, (HT.out.put (Nat.le_refl _) HV8.out hne 0 _).put (Nat.le_refl _) (HV8.out.set 0 _) hne 1 _⟩
  · have hd0' : (0 : Int) < (d : Int) := by omega
    have HT : Hid (TakeR n₀ w R bv.ownBlock (.body (l - m) (got ++ T.take m)) [] zeroI nilS (w3.setCell ⟨R, 5, none⟩ (.int .i64 (d : Int)))) := by
      refine ⟨(Value.slice av LL cv).ownBlock, ⟨rfl, rfl⟩, ⟨.slice av LL cv, ?_, HO4.out, rfl, by omega, ?_, HGT.out⟩, HF4.out, HR2.out, .inl rfl, fun j e => by cases e⟩
      · rw [show l - m = d by omega]; exact HX4.out
      · rw [List.length_append, List.length_take]; have := HLG.out; omega
    clear ha hd HCS
    go_wp2
    refine bodyPost_ret (results_msg2 rfl rfl rfl (HXV4.out.set2 (.int .i64 0) (.slice none 0 0))) rfl ?_
    exact ⟨_, _, rfl, (HT.out.put (Nat.le_refl _) HXV4.out hne 0 _).put (Nat.le_refl _) (HXV4.out.set 0 _) hne 1 _⟩

end Go.Proofs.YtnflbplhokodjaaDoor
