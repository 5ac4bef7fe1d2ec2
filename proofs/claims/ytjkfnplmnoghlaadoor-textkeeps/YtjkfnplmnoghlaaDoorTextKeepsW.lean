/- A span that moved has the bytes that it had. -/
import Derived.Test.YtjkfnplmnoghlaaDoorTHelp
import Derived.Test.YtjkfnplmnoghlaaDoorTextAppliesW
namespace Go.Proofs.YtjkfnplmnoghlaaDoor
set_option linter.unusedVariables false
set_option linter.unusedSimpArgs false
set_option maxRecDepth 100000
open Go Go.RowKit Go.Shelf Go.Lib

theorem mvL_snoc (D : List Ed) (d : Ed) (s : Int × Int) : mvL (D ++ [d]) s = (mvL D s).bind (mvStep d) := by
  induction D generalizing s with
  | nil =>
    show (match mvStep d s with | some s' => mvL [] s' | none => none) = mvStep d s
    cases mvStep d s <;> rfl
  | cons x l ih =>
    show (match mvStep x s with | some s' => mvL (l ++ [d]) s' | none => none) = (match mvStep x s with | some s' => mvL l s' | none => none).bind (mvStep d)
    cases mvStep x s with
    | none => rfl
    | some s' => exact ih s'

/-- The bytes of a span. -/
def cutL (T : List Nat) (f t : Nat) : List Nat := (T.drop f).take (t - f)
/-- A span within a text, with these bytes. -/
def SpanOf (T : List Nat) (s : Int × Int) (B : List Nat) : Prop := ∃ f t : Nat, s = ((f : Int), (t : Int)) ∧ f ≤ t ∧ t ≤ T.length ∧ cutL T f t = B

theorem step_span {T NT : List Nat} {x : Ch} {d : Ed} (hT : T.length ≤ 1048576) (hX : x.2.2.2.2.2.length ≤ 1000000) (h : StepR T x 0 NT d) {s s' : Int × Int} {B : List Nat} (hs : SpanOf T s B) (hm : mvStep d s = some s') : SpanOf NT s' B := by
  rcases h with ⟨_, e⟩ | ⟨_, F, G, hE, ⟨_, e⟩ | ⟨h1, _, rfl, rfl⟩⟩
  · exact absurd e (by decide)
  · exact absurd e (by decide)
  obtain ⟨f, t, rfl, hft, htT, rfl⟩ := hs
  obtain ⟨hFG, hGT⟩ := edit_in hE
  generalize x.2.2.2.2.2 = X at *
  have hlen : (T.take F ++ X ++ T.drop G).length = F + X.length + (T.length - G) := by simp; omega
  unfold mvStep at hm
  split at hm
  · rename_i hp
    simp [putsB] at hp
    cases hm
    refine ⟨f, t, rfl, hft, by rw [hlen]; omega, ?_⟩
    have : t - f = 0 := by omega
    simp [cutL, this]
  · split at hm
    · rename_i hle
      dsimp only at hle
      have hgr : growL ((F : Int), (G : Int), (X.length : Int)) = (X.length : Int) - ((G : Int) - (F : Int)) := by
        have e1 : wrap64 ((G : Int) - (F : Int)) = (G : Int) - (F : Int) := by unfold wrap64; omega
        unfold growL
        simp only [e1]
        unfold wrap64
        omega
      rw [hgr] at hm
      have e1 : wrap64 ((f : Int) + ((X.length : Int) - ((G : Int) - (F : Int)))) = ((f + X.length - (G - F) : Nat) : Int) := by unfold wrap64; omega
      have e2 : wrap64 ((t : Int) + ((X.length : Int) - ((G : Int) - (F : Int)))) = ((t + X.length - (G - F) : Nat) : Int) := by unfold wrap64; omega
      rw [e1, e2] at hm
      cases hm
      refine ⟨_, _, rfl, by omega, by rw [hlen]; omega, ?_⟩
      unfold cutL
      have hd : (T.take F ++ X ++ T.drop G).drop (f + X.length - (G - F)) = T.drop f := by
        rw [List.drop_append, List.drop_of_length_le (by simp; omega), List.nil_append, List.drop_drop]
        congr 1
        simp
        omega
      rw [hd]
      congr 1
      omega
    · split at hm
      · rename_i hge
        dsimp only at hge
        cases hm
        refine ⟨f, t, rfl, hft, by rw [hlen]; omega, ?_⟩
        unfold cutL
        rw [List.append_assoc, List.drop_append, List.take_append]
        have hk : (T.take F).length = F := by simp; omega
        rw [hk, show f - F = 0 by omega, List.drop_zero]
        have hz : t - f - ((T.take F).drop f).length = 0 := by simp; omega
        rw [hz, List.take_zero, List.append_nil, List.drop_take, List.take_take, show min (t - f) (F - f) = t - f by omega]
      · cases hm

theorem pre_span {T : List Nat} {L : List Ch} {k : Nat} {NT : List Nat} {D : List Ed} (hT : T.length ≤ 1048576) (hX : ∀ (j : Nat) (x : Ch), L[j]? = some x → x.2.2.2.2.2.length ≤ 1000000) (h : Pre T L k NT D) {s s' : Int × Int} {B : List Nat} (hs : SpanOf T s B) (hm : mvL D s = some s') : SpanOf NT s' B := by
  induction k generalizing NT D s' with
  | zero =>
    obtain ⟨rfl, rfl⟩ := h
    cases hm
    exact hs
  | succ k ih =>
    obtain ⟨T1, D1, x, d, p1, hx, s1, rfl⟩ := h
    rw [mvL_snoc] at hm
    cases hq : mvL D1 s with
    | none => rw [hq] at hm; cases hm
    | some s2 =>
      rw [hq] at hm
      exact step_span (pre_size hT p1) (hX k x hx) s1 (ih p1 hq) hm
theorem apply_span {T : List Nat} {L : List Ch} {NT : List Nat} {D : List Ed} (hT : T.length ≤ 1048576) (hX : ∀ (j : Nat) (x : Ch), L[j]? = some x → x.2.2.2.2.2.length ≤ 1000000) (h : ApplyR T L 0 NT D) {s s' : Int × Int} {B : List Nat} (hs : SpanOf T s B) (hm : mvL D s = some s') : SpanOf NT s' B := by
  rcases h with ⟨_, p⟩ | ⟨hr, _⟩
  · exact pre_span hT hX p hs hm
  · exact absurd rfl hr

set_option maxHeartbeats 4000000 in
theorem bclone_own (w : World) (a : Addr) (cap : Nat) (T : List Nat) (h : Byt w (some a) cap T) (hlen : T.length ≤ 100000000) :
    Calls Tryd.prog 32 #[.slice (some a) T.length cap] w fun e w' => ∃ v, e = .returned v ∧ OwnB w.heap.size w' v T ∧ Below w.heap.size w w' := by
  have H := hide h
  clear h
  have qT : ∀ (w : World) (a : Addr) (n c : Nat), (binOp .eql 36 (.slice (some a) n c) (.slice none 0 0)).run Tryd.prog w = .ok (.bool false) w := fun w a n c => Lib.run_eql_slice_nil w 36 5 (some a) n c 0 0 Tryd.underlying36
  have HB := hide (bel w (.cells #[] 5))
  have HO := hide (own_none w)
  have HY := hide (H.out.below HB.out)
  go_enter Tryd.func32, Tryd.ntmps32
  go_wp2_with (at_builtin; go_must (refine wpList_appB _ rfl (.tmp 5) (.tmp 6) rfl w.heap.size _ [] rfl HO.out _ T rfl HY.out.1 (by (try simp only [List.length_nil]); omega) (by simp) ?_; intro v' w2 hown' hgrow))
  have hb2 : Below w.heap.size w w2 := HB.out.grown hgrow (by simp) (fun j hj => by have := (HO.out.lt j hj).1; omega)
  have HOW : Hid (OwnB w.heap.size w2 v' T) := hown'
  have HB2 := hide hb2
  clear hb2 hown' hgrow
  go_wp2
  go_ret
  exact ⟨_, rfl, HOW.out, HB2.out⟩

set_option maxHeartbeats 4000000 in
theorem bytes_own (w : World) (D : Nat) (ver : Int) (T : List Nat) (E : List Ed) (h : DocIs w D ver T E) (hlen : T.length ≤ 100000000) :
    Calls Tryd.prog 16 #[.pointer (some ⟨D, 0, none⟩)] w fun e w' => ∃ v, e = .returned v ∧ OwnB w.heap.size w' v T ∧ Below w.heap.size w w' := by
  obtain ⟨ao, c, lo, ln, lc, eo, ec, h1, h2, h3, h4, h5, h6, h7, h8⟩ := h
  cases ao with
  | some a =>
    have c1 : w.cell? ⟨D, 1, none⟩ = some (.slice (some a) T.length c) := BoxC.cell h1 1
    have H := hide h2.1
    clear h1 h2 h3 h4 h5 h6 h7 h8
    go_enter Tryd.func16, Tryd.ntmps16
    go_wp2_with fail
    refine (bclone_own w a c T H.out hlen).mono ?_
    rintro e w1 ⟨v, rfl, hy, hb⟩
    have HY := hide hy
    have HB := hide hb
    clear hy hb
    go_wp2
    go_ret
    exact ⟨_, rfl, HY.out, HB.out⟩
  | none =>
    have hc : c = 0 := h2.1.2.2 rfl
    have hT : T = [] := List.length_eq_zero_iff.1 (by have := h2.1.2.1; omega)
    subst hc hT
    have c1 : w.cell? ⟨D, 1, none⟩ = some (.slice none 0 0) := BoxC.cell h1 1
    clear h1 h2 h3 h4 h5 h6 h7 h8
    go_enter Tryd.func16, Tryd.ntmps16
    go_wp2_with fail
    refine (bclone_nil w).mono ?_
    rintro e w1 ⟨rfl, hw⟩
    rw [hw]
    go_wp2
    go_ret
    exact ⟨_, rfl, World.ownsRow_nil _ _ _ _, Below.refl _ _⟩

set_option maxHeartbeats 4000000 in
theorem eclone_own (w : World) (b off cap : Nat) (L : List Ed) (h : EdsIn w (.slice (some ⟨b, off, none⟩) L.length cap) L) (hlen : L.length ≤ 1000000) :
    Calls Tryd.prog 33 #[.slice (some ⟨b, off, none⟩) L.length cap] w fun e w' => ∃ rv, e = .returned rv ∧ w'.ownsRow w.heap.size 69 3 rv L.length (ecells L) ∧ Below w.heap.size w w' := by
  obtain ⟨i0, hi, hz0, hz1, hz2⟩ := info_parts infoEd
  have H := hide h
  clear h
  have qT : ∀ (w : World) (a : Addr) (n c : Nat), (binOp .eql 41 (.slice (some a) n c) (.slice none 0 0)).run Tryd.prog w = .ok (.bool false) w := fun w a n c => Lib.run_eql_slice_nil w 41 69 (some a) n c 0 0 Tryd.underlying41
  have HB := hide (bel w (.cells #[] 69))
  have HO := hide (own_noned w)
  have HY := hide (eds_cells (H.out.below HB.out))
  have H1 := hide (ecells_one L)
  have HL := hide (ecells_length L)
  go_enter Tryd.func33, Tryd.ntmps33
  go_wp2_with (at_builtin; go_must (refine wpList_append_own _ rfl (.tmp 5) (.tmp 6) 41 rfl w.heap.size 69 i0 (.agg #[.int .i64 0, .int .i64 0, .int .i64 0]) 3 24 Tryd.underlying41 hi hz0 hz1 hz2 rfl (by decide) _ 0 (ecells []) rfl HO.out ⟨b, off, none⟩ L.length cap (ecells L) rfl HL.out HY.out H1.out (by unfold maxLen; omega) (by omega) (by simp) ?_; intro v' w2 hown' hgrow hnil))
  have hb2 : Below w.heap.size w w2 := HB.out.grown hgrow (by simp) (fun j hj => by have := (HO.out.lt j hj).1; omega)
  have hy : w2.ownsRow w.heap.size 69 3 v' L.length (ecells L) := by
    have e1 : 0 + L.length = L.length := Nat.zero_add _
    rw [e1] at hown'
    exact hown'
  have HB2 := hide hb2
  have HY2 := hide hy
  clear hb2 hy hown' hgrow hnil
  go_wp2
  go_ret
  exact ⟨_, rfl, HY2.out, HB2.out⟩

set_option maxHeartbeats 4000000 in
theorem edits_own (w : World) (D : Nat) (ver : Int) (T : List Nat) (E : List Ed) (h : DocIs w D ver T E) (hlen : E.length ≤ 1000000) :
    Calls Tryd.prog 17 #[.pointer (some ⟨D, 0, none⟩)] w fun e w' => ∃ v, e = .returned v ∧ w'.ownsRow w.heap.size 69 3 v E.length (ecells E) ∧ Below w.heap.size w w' := by
  obtain ⟨ao, c, lo, ln, lc, eo, ec, h1, h2, h3, h4, h5, h6, h7, h8⟩ := h
  cases eo with
  | some a =>
    obtain ⟨b, o, rfl⟩ := h7 a rfl
    have c1 : w.cell? ⟨D, 3, none⟩ = some (.slice (some ⟨b, o, none⟩) E.length ec) := BoxC.cell h1 3
    have H := hide h6
    clear h1 h2 h3 h4 h5 h6 h7 h8
    go_enter Tryd.func17, Tryd.ntmps17
    go_wp2_with fail
    refine (eclone_own w b o ec E H.out hlen).mono ?_
    rintro e w1 ⟨v, rfl, hy, hb⟩
    have HY := hide hy
    have HB := hide hb
    clear hy hb
    go_wp2
    go_ret
    exact ⟨_, rfl, HY.out, HB.out⟩
  | none =>
    have hE : E = [] := by
      cases E with
      | nil => rfl
      | cons x l =>
        obtain ⟨ao', cap', e, _, hs⟩ := h6
        obtain ⟨b, off, e2, _⟩ := hs 0 x rfl
        cases e
        cases e2
    subst hE
    have c1 : w.cell? ⟨D, 3, none⟩ = some (.slice none 0 ec) := BoxC.cell h1 3
    clear h1 h2 h3 h4 h5 h6 h7 h8
    go_enter Tryd.func17, Tryd.ntmps17
    go_wp2_with fail
    refine (eclone_nil w ec).mono ?_
    rintro e w1 ⟨rfl, hw⟩
    rw [hw]
    go_wp2
    go_ret
    exact ⟨_, rfl, World.ownsRow_nil _ _ _ _, Below.refl _ _⟩

/-- Whichever memory has them, a part of bytes is theirs. -/
theorem cut_bytes (W : World) (co : Option Addr) (n cc f t : Nat) (h : f ≤ t) (h2 : t ≤ cc) : (Instr.slice 36 (.slice co n cc) (some (.int .i64 (f : Int))) (some (.int .i64 (t : Int))) none).run Tryd.prog W = .ok (.slice (if cc = f then co else co.map (·.add f)) (t - f) (cc - f)) W := by
  have h1 := run_slice_lh (P := Tryd.prog) (w := W) 36 co n cc (by kernel_rfl) .i64 .i64 (f : Int) (t : Int) (by omega) (by omega) (by omega)
  rw [h1]
  go_simp
theorem Byt.part {W : World} {co : Option Addr} {cc : Nat} {T : List Nat} (h : Byt W co cc T) {f t : Nat} (hf : f ≤ t) (ht : t ≤ T.length) : Byts W (.slice (if cc = f then co else co.map (·.add f)) (t - f) (cc - f)) (cutL T f t) := by
  obtain ⟨⟨ao, c', e, h1, h2⟩, h3, h4⟩ := h
  cases e
  have hl : (cutL T f t).length = t - f := by simp [cutL]; omega
  refine ⟨_, _, by rw [hl], fun x hx => h1 x (List.mem_of_mem_drop (List.mem_of_mem_take hx)), fun j hj => ?_⟩
  rw [hl] at hj
  obtain ⟨b, off, e, hc⟩ := h2 (f + j) (by omega)
  cases e
  rw [if_neg (by omega)]
  refine ⟨b, off + f, by simp [add_plain], ?_⟩
  rw [show off + f + j = off + (f + j) by omega, hc]
  have e1 : nth (cutL T f t) j = nth T (f + j) := by
    simp [nth, cutL, List.getElem?_take, hj]
  rw [e1]
theorem cut_str (W : World) (T : List Nat) (f t : Nat) (h : f ≤ t) (h2 : t ≤ T.length) : (Instr.slice 9 (.string (strOf T)) (some (.int .i64 (f : Int))) (some (.int .i64 (t : Int))) none).run Tryd.prog W = .ok (.string (strOf (cutL T f t))) W := by
  have h1 := run_slice_string (P := Tryd.prog) W 9 (strOf T) .i64 .i64 (f : Int) (t : Int) Tryd.underlying9 (by omega) (by omega) (by rw [strOf_size]; omega)
  rw [h1]
  have : (strOf T).extract f t = strOf (cutL T f t) := by
    rw [strOf_cut, List.drop_take]
    rfl
  simpa using this

theorem rem_in (cut : Int) (n : Nat) (hn : n ≤ 1000000) : ∃ C : Nat, wrap64 ((IntKind.u64.wrap cut).tmod ((n : Int) + 1)) = (C : Int) ∧ C ≤ n := by
  have h0 : 0 ≤ IntKind.u64.wrap cut := by simp [IntKind.wrap, IntKind.signed, IntKind.bits]; omega
  rw [Int.tmod_eq_emod_of_nonneg h0]
  have h1 := Int.emod_nonneg (IntKind.u64.wrap cut) (show (n : Int) + 1 ≠ 0 by omega)
  have h2 := Int.emod_lt_of_pos (IntKind.u64.wrap cut) (show (0 : Int) < (n : Int) + 1 by omega)
  refine ⟨(IntKind.u64.wrap cut % ((n : Int) + 1)).toNat, ?_, by omega⟩
  unfold wrap64
  omega

theorem mvV_form2 (r : Option (Int × Int)) : ∃ x y ok, mvV r = .tuple #[.agg #[.int .i64 x, .int .i64 y], .bool ok] := by
  cases r with
  | none => exact ⟨0, 0, false, rfl⟩
  | some s => exact ⟨s.1, s.2, true, rfl⟩
/-- A row of one's own, that may be written. -/
def Row (n₀ : Nat) (W : World) (ao : Option Addr) (n : Nat) (t : TypeId) (z : Nat) : Prop := n = 0 ∨ ∃ g cs, ao = some ⟨g, 0, none⟩ ∧ n₀ ≤ g ∧ BoxC W g t cs ∧ n * z ≤ cs.size
theorem row_of {n₀ : Nat} {W : World} {ao : Option Addr} {m c n z : Nat} {t : TypeId} {xs : List Value} (h : W.ownsRow n₀ t z (.slice ao m c) n xs) : Row n₀ W ao n t z := by
  rcases h.2 with ⟨_, h0⟩ | ⟨g, cap, cur, e, hg, hh, hn, hm, hc, ht⟩
  · exact .inl h0
  · cases e
    exact .inr ⟨g, cur, rfl, hg, hh, by rw [hc]; exact Nat.mul_le_mul_right _ hn⟩

set_option maxHeartbeats 16000000 in
theorem textKeeps_walk (w : World) (T : List Nat) (hT : ∀ y ∈ T, y < 256) (co : Option Addr) (cc : Nat) (L : List Ch) (hC : ChsIn w (.slice co L.length cc) L) (from0 : Int) (hf0 : (Lit.int .i64 from0).wf = true) (size0 : Int) (hs0 : (Lit.int .i64 size0).wf = true) (hK : Know w) :
    Calls Tryd.prog 7 #[.agg #[.string (strOf T), .slice co L.length cc, .int .i64 from0, .int .i64 size0]] w fun e w' => e = .returned (.bool true) ∧ Below w.heap.size w w' := by
  obtain ⟨Ln, hLn⟩ : ∃ Ln, L.length = Ln := ⟨_, rfl⟩
  obtain ⟨sT, hsT⟩ : ∃ sT, strOf T = sT := ⟨_, rfl⟩
  have hszT : sT.size = T.length := by rw [← hsT]; exact strOf_size T
  have HK := hide hK
  have HC := hide hC
  have HT := hide hT
  have HLN := hide hLn
  have HST := hide hsT
  rw [hLn] at HC ⊢
  rw [hsT]
  clear hK hC hT hf0 hs0 hLn hsT
  have x0 := BoxC.new w 66 #[.string sT, .slice co Ln cc, .int .i64 from0, .int .i64 size0]
  have hb0 := bel w (.cells #[.string sT, .slice co Ln cc, .int .i64 from0, .int .i64 size0] 66)
  have c0 := x0.cell 0
  have c1 := x0.cell 1
  have c2 := x0.cell 2
  have c3 := x0.cell 3
  simp at c0 c1 c2 c3
  have HB0 := hide hb0
  clear x0 hb0
  go_enter Tryd.func7, Tryd.ntmps7
  go_wp2
  go_quiet (fail)
  generalize hW1 : (w.alloc (.cells #[.string sT, .slice co Ln cc, .int .i64 from0, .int .i64 size0] 66)) = W1 at *
  clear hW1 c0 c1 c2 c3
  go_wp2_with fail
  refine (opened_calls _ (HK.out.below (bdrewN HB0.out nq))).mono ?_
  rintro e w1 ⟨rfl, hb1'⟩
  have hb1 : Below w.heap.size w w1 := bafter (bdrewN HB0.out nq) hb1' (Nat.le_refl _)
  have hli := light_calls w1 T _ L (HC.out.below hb1)
  rw [HST.out] at hli
  have HLI := hide hli
  have HB1 := hide hb1
  clear hli hb1 hb1'
  go_wp2_with fail
  refine HLI.out.mono ?_
  rintro e w1' ⟨b, rfl, hlr, hw1⟩
  rw [hw1]
  clear hw1 HLI
  rcases hlr with rfl | ⟨rfl, t1, t2, t3⟩
  · go_wp2_with fail
    refine (opened_calls w1 (HK.out.below HB1.out)).mono ?_
    rintro e w2 ⟨rfl, hb2⟩
    have HB2 := hide (bafter HB1.out hb2 (by have := HB1.out.size; omega))
    clear hb2
    go_wp2
    go_ret
    exact ⟨rfl, HB2.out⟩
  have T1 := hide t1
  have T2 := hide (show Ln ≤ 20 by rw [← HLN.out]; exact t2)
  have T3 := hide t3
  clear t1 t2 t3
  have hop := open_any w1 1 T (HK.out.below HB1.out) HT.out (by have := T1.out; omega)
  rw [HST.out] at hop
  have HOP := hide hop
  clear hop
  go_wp2_with fail
  refine HOP.out.mono ?_
  clear HOP
  rintro e w2 ⟨r, htk, hb2, hcase2⟩
  have HB2 := hide (bafter HB1.out hb2 (by have := HB1.out.size; omega))
  have HS1 := hide (show w.heap.size ≤ w1.heap.size from HB1.out.size)
  clear htk hb2
  rcases hcase2 with ⟨hr, rfl⟩ | ⟨rfl, D, rfl, hD, hdoc⟩
  · go_wp2
    go_ret
    exact ⟨rfl, HB2.out⟩
  have HDOC := hide hdoc
  have HD := hide (Nat.le_trans HS1.out hD)
  clear hdoc hD
  obtain ⟨F, hF, hFl⟩ := rem_in from0 T.length (by have := T1.out; omega)
  obtain ⟨Z, hZ, hZl⟩ := rem_in size0 (T.length - F) (by have := T1.out; omega)
  have hTF : (T.length : Int) - (F : Int) = ((T.length - F : Nat) : Int) := by omega
  have t1' := T1.out
  have n1 : (T.length : Int) + 1 ≠ 0 := by omega
  have n2 : IntKind.u64.wrap ((T.length : Int) + 1) = (T.length : Int) + 1 := by
    simp [IntKind.wrap, IntKind.signed, IntKind.bits]; omega
  have n3 : IntKind.i64.wrap ((T.length : Int) + 1) = (T.length : Int) + 1 := by rw [wrap_i64]; unfold wrap64; omega
  obtain ⟨Q, hQ⟩ : ∃ Q, T.length - F = Q := ⟨_, rfl⟩
  rw [hQ] at hTF hZ hZl
  have n4 : (Q : Int) + 1 ≠ 0 := by omega
  have n5 : IntKind.u64.wrap ((Q : Int) + 1) = (Q : Int) + 1 := by simp [IntKind.wrap, IntKind.signed, IntKind.bits]; omega
  have n6 : IntKind.i64.wrap ((Q : Int) + 1) = (Q : Int) + 1 := by rw [wrap_i64]; unfold wrap64; omega
  have n7 : IntKind.i64.wrap (Q : Int) = (Q : Int) := by rw [wrap_i64]; unfold wrap64; omega
  obtain ⟨G, hG⟩ : ∃ G, F + Z = G := ⟨_, rfl⟩
  have hFG : (F : Int) + (Z : Int) = (G : Int) := by omega
  have n8 : IntKind.i64.wrap (G : Int) = (G : Int) := by rw [wrap_i64]; unfold wrap64; omega
  have hGl : G ≤ T.length := by omega
  have hFG2 : F ≤ G := by omega
  have HFl := hide hFl
  have HGl := hide hGl
  have HFG2 := hide hFG2
  clear hFl hGl hFG2 hZl hQ hG
  go_upto_region 8 with fail
  rw [hF]
  generalize (IntKind.u64.wrap from0).tmod ((T.length : Int) + 1) = q1 at *
  generalize IntKind.u64.wrap from0 = q2 at *
  clear hF n1 n2 n3
  go_upto_region 9 with fail
  generalize (IntKind.u64.wrap size0).tmod ((Q : Int) + 1) = q3 at *
  generalize IntKind.u64.wrap size0 = q4 at *
  clear hZ hTF n4 n5 n6 n7 n8 hFG
  have happ := apply_doc w2 D 1 2 T [] co cc L HDOC.out (HK.out.below HB2.out) (by have := T1.out; omega) (by rw [HLN.out]; exact HC.out.below HB2.out) (fun j x hj => by have := T3.out j x hj; omega) (by have := T2.out; have := HLN.out; omega)
  rw [HLN.out] at happ
  have HAPP := hide happ
  clear happ
  go_wp2_with fail
  refine HAPP.out.mono ?_
  clear HAPP
  rintro e w4 ⟨r, NT, Dl, rfl, hA, hcase⟩
  have HA := hide hA
  clear hA
  rcases hcase with ⟨hr, hb4⟩ | ⟨rfl, hdoc4, hbut4⟩
  · have HD4 := hide (HDOC.out.below hb4)
    have HB4 := hide (bafter HB2.out hb4 (by have := HB2.out.size; omega))
    clear hb4
    have HBY := hide (bytes_any w4 D 1 T [] HD4.out (by have := T1.out; omega))
    go_wp2_with fail
    refine HBY.out.mono ?_
    clear HBY
    rintro e w8 ⟨ao8, c8, rfl, hy8, hb8⟩
    have hcv := conv_byts hy8.1
    rw [HST.out] at hcv
    have HB8 := hide (bafter HB4.out hb8 (by have := HB4.out.size; omega))
    clear hy8 hb8
    go_wp2
    go_ret
    exact ⟨by simp, HB8.out⟩
  have HD4 := hide hdoc4
  have HB4 := hide (show Below w.heap.size w w4 from hbut4.after HB2.out HD.out HB2.out.size)
  have hsz := apply_size (by have := T1.out; omega) HA.out
  have HSZ := hide hsz
  have hNTs : ∀ y ∈ NT, y < 256 := by
    rcases HA.out with ⟨_, p⟩ | ⟨hr, _⟩
    · exact pre_small HT.out (fun j x hj => by obtain ⟨_, _, _, _, h⟩ := HC.out; exact (h j x hj).1) p
    · exact absurd rfl hr
  have HNTS := hide hNTs
  clear hdoc4 hbut4 hsz hNTs HDOC
  have HBY := hide (bytes_own w4 D 2 NT Dl HD4.out (by have := HSZ.out; omega))
  go_wp2_with fail
  refine HBY.out.mono ?_
  clear HBY
  rintro e w5 ⟨bv, rfl, hown5, hb5⟩
  obtain ⟨bo, bc, rfl, hby5, hbf5⟩ := OwnB.byts HNTS.out hown5
  have HOWN5 := hide hown5
  have HBY5 := hide hby5
  have HS5 := hide hb5
  have HD5 := hide (HD4.out.below hb5)
  clear hown5 hby5 hb5 hbf5
  have HED := hide (edits_any w5 D 2 NT Dl HD5.out (by have := HSZ.out; have := T2.out; have := HLN.out; omega))
  go_wp2_with fail
  refine HED.out.mono ?_
  clear HED
  rintro e w6 ⟨eo6, ec6, rfl, hed6, hb6⟩
  have HS6 := hide (show Below w4.heap.size w4 w6 from bafter HS5.out hb6 (by have := HS5.out.size; omega))
  have HBY6 := hide (HBY5.out.below hb6)
  have HOWN6 : Hid (OwnB w4.heap.size w6 (.slice bo NT.length bc) NT) := ownsRow_keep HOWN5.out hb6
  have HMV := hide (moved_calls w6 (F : Int) (G : Int) _ Dl hed6 (by have := HSZ.out; have := T2.out; have := HLN.out; omega))
  clear hed6 hb6 HBY5 HOWN5 HS5
  go_wp2_with fail
  refine HMV.out.mono ?_
  clear HMV
  rintro e w7 ⟨rfl, hb7⟩
  have HS7 := hide (show Below w4.heap.size w4 w7 from bafter HS6.out hb7 (by have := HS6.out.size; omega))
  have HBY7 := hide (HBY6.out.below hb7)
  have HOWN7 : Hid (OwnB w4.heap.size w7 (.slice bo NT.length bc) NT) := ownsRow_keep HOWN6.out hb7
  clear hb7 HBY6 HOWN6 HS6 HD5
  have hspan : ∀ s', mvL Dl ((F : Int), (G : Int)) = some s' → SpanOf NT s' (cutL T F G) := fun s' hm => apply_span (by have := T1.out; omega) (fun j x hj => by have := T3.out j x hj; omega) HA.out ⟨F, G, rfl, HFG2.out, HGl.out, rfl⟩ hm
  have HSPAN := hide hspan
  clear hspan
  obtain ⟨x, y, ok, hform⟩ := mvV_form2 (mvL Dl ((F : Int), (G : Int)))
  rw [hform]
  have HFORM := hide hform
  clear hform
  obtain ⟨w8, hw8⟩ : ∃ w8, w7.alloc (.cells #[.int .i64 x, .int .i64 y] 59) = w8 := ⟨_, rfl⟩
  have k8 : Below w7.heap.size w7 w8 := by rw [← hw8]; exact bel _ _
  have z8 : BoxC w8 w7.heap.size 59 #[.int .i64 x, .int .i64 y] := by rw [← hw8]; exact BoxC.new _ _ _
  have HS8 := hide (show Below w4.heap.size w4 w8 from bafter HS7.out k8 (by have := HS7.out.size; omega))
  have HBY8 := hide (HBY7.out.below k8)
  have HOWN8 : Hid (OwnB w4.heap.size w8 (.slice bo NT.length bc) NT) := ownsRow_keep HOWN7.out k8
  have Z8 := hide z8
  obtain ⟨sp, hsp⟩ : ∃ sp, w7.heap.size = sp := ⟨_, rfl⟩
  have HW8 := hide hw8
  clear k8 z8 HS7 HBY7 HOWN7 hw8
  go_upto_region 13 with fail
  try rw [HW8.out]
  rw [hsp] at Z8
  try rw [hsp]
  clear HW8 hsp
  go_cut [120] from 83 to 120 (fun s120 wx => s120 = .bool false ∧ ∃ n : Nat, wx = w8.drewN n)
  case first =>
    cases hmv : mvL Dl ((F : Int), (G : Int)) with
    | none =>
      have hf2 := HFORM.out
      rw [hmv] at hf2
      simp [mvV] at hf2
      obtain ⟨⟨rfl, rfl⟩, rfl⟩ := hf2
      clear hmv
      go_quiet (fail)
      go_wp2_with fail
      go_meet
      exact ⟨rfl, _, rfl⟩
    | some s' =>
      obtain ⟨f', t', rfl, hft, htN, hcut⟩ := HSPAN.out s' hmv
      have hf2 := HFORM.out
      rw [hmv] at hf2
      simp [mvV] at hf2
      obtain ⟨⟨rfl, rfl⟩, rfl⟩ := hf2
      have hl1 : t' - f' = G - F := by
        have := congrArg List.length hcut
        simp [cutL] at this
        have := HGl.out
        omega
      have hfg := HFG2.out
      have hgl := HGl.out
      have hcap := HBY8.out.2.1
      have g1 : ¬ (f' : Int) < 0 := by omega
      have g2 : ¬ (t' : Int) > (NT.length : Int) := by omega
      obtain ⟨dd, hdd⟩ : ∃ dd : Int, (t' : Int) - (f' : Int) = dd := ⟨_, rfl⟩
      have hdd2 : (G : Int) - (F : Int) = dd := by omega
      have g3 : IntKind.i64.wrap dd = dd := by have := HSZ.out; rw [wrap_i64]; unfold wrap64; omega
      have z0 : w8.cell? ⟨sp, 0, none⟩ = some (.int .i64 (f' : Int)) := Z8.out.cell 0
      have z1 : w8.cell? ⟨sp, 1, none⟩ = some (.int .i64 (t' : Int)) := Z8.out.cell 1
      have hcv := fun n => conv_byts ((HBY8.out.below (bdrewN (Below.refl _ w8) n)).part (f := f') (t := t') hft htN)
      rw [hcut] at hcv
      have q1 : ∀ W : World, (Instr.slice 36 (.slice bo NT.length bc) (some (.int .i64 (f' : Int))) (some (.int .i64 (t' : Int))) none).run Tryd.prog W = .ok (.slice (if bc = f' then bo else bo.map (·.add f')) (t' - f') (bc - f')) W := fun W => cut_bytes W bo NT.length bc f' t' hft (by omega)
      have q2 : ∀ W : World, (Instr.slice 9 (.string sT) (some (.int .i64 (F : Int))) (some (.int .i64 (G : Int))) none).run Tryd.prog W = .ok (.string (strOf (cutL T F G))) W := fun W => by rw [← HST.out]; exact cut_str W T F G hfg hgl
      generalize (if bc = f' then bo else bo.map (·.add f')) = aB at *
      generalize strOf (cutL T F G) = sC at *
      generalize t' - f' = dn at *
      clear hmv hcut hl1 hfg hgl hcap hft htN
      go_quiet (fail)
      go_wp2_with fail
      go_meet
      exact ⟨by simp, _, rfl⟩
  case rest =>
    obtain ⟨rfl, nd, hwx⟩ := hcut
    have HSx : Hid (Below w4.heap.size w4 wc) := by rw [hwx]; exact bdrewN HS8.out _
    have HOWNx : Hid (OwnB w4.heap.size wc (.slice bo NT.length bc) NT) := by rw [hwx]; exact ownsRow_keep HOWN8.out (bdrewN (Below.refl _ w8) nd)
    have HROW : Hid (Row w4.heap.size wc bo NT.length 5 1) := row_of HOWNx.out
    clear hwx HS8 HOWN8 HBY8 Z8 HSPAN HFORM HOWNx
    have hNl : NT.length ≤ 1048576 := HSZ.out.1
    go_wp2
    go_loopw [13] (fun iv wr => ∃ k : Nat, k ≤ NT.length ∧ iv = .int .i64 (k : Int) ∧ Below w4.heap.size w4 wr ∧ Row w4.heap.size wr bo NT.length 5 1) (fun iv _ => NT.length - (RowKit.intOf iv).toNat)
    case atStart => exact ⟨0, Nat.zero_le _, rfl, HSx.out, HROW.out⟩
    case round =>
      obtain ⟨k, hk, rfl, hbk, hrow⟩ := hrel
      clear HSx HROW
      by_cases hlt : k < NT.length
      · obtain h0 | ⟨g, cs, rfl, hg, hbox, hcs⟩ := hrow
        · omega
        have d1 : (k : Int) < (NT.length : Int) := by omega
        have d0 : (0 : Int) ≤ (k : Int) := by omega
        obtain ⟨c0, e0⟩ : ∃ c0, wr.cell? ⟨g, k, none⟩ = some c0 := ⟨_, by rw [hbox.cell k]; exact Array.getElem?_eq_getElem (by omega)⟩
        have e1 := hbox.frozen k
        have l1 := hbox.lt
        have HBOX := hide hbox
        have HBK := hide hbk
        have HG := hide hg
        have HCS := hide hcs
        clear hbox hbk hg hcs
        go_wp2
        go_roundw
        case rel => exact ⟨k + 1, by omega, by go_num, HBK.out.setCell (p := ⟨g, k, none⟩) HG.out _, .inr ⟨g, _, rfl, HG.out, HBOX.out.set k _, by simpa using HCS.out⟩⟩
        case measure => simp [RowKit.intOf]; omega
      · obtain rfl : k = NT.length := by omega
        have d1 : ¬ (NT.length : Int) < (NT.length : Int) := by omega
        have HBK := hide hbk
        have HDk := hide (HD4.out.below hbk)
        clear hbk hrow
        have HED := hide (edits_own wr D 2 NT Dl HDk.out (by have := HSZ.out; have := T2.out; have := HLN.out; omega))
        go_wp2_with fail
        refine HED.out.mono ?_
        clear HED
        rintro e w14 ⟨ev, rfl, hown14, hb14⟩
        obtain ⟨xo, xc, rfl⟩ := own_slice hown14
        have hDl : Dl.length ≤ 20 := by have := HSZ.out; have := T2.out; have := HLN.out; omega
        have HROWe : Hid (Row w4.heap.size w14 xo Dl.length 69 3) := by
          rcases row_of hown14 with h | ⟨g, cs, h1, h2, h3, h4⟩
          · exact .inl h
          · exact .inr ⟨g, cs, h1, Nat.le_trans HBK.out.size h2, h3, h4⟩
        have HS14 := hide (show Below w4.heap.size w4 w14 from bafter HBK.out hb14 (Nat.le_refl _))
        clear hown14 hb14 HDk HBK
        go_wp2
        go_loopw [15] (fun iv wq => ∃ k : Nat, k ≤ Dl.length ∧ iv = .int .i64 (k : Int) ∧ Below w4.heap.size w4 wq ∧ Row w4.heap.size wq xo Dl.length 69 3) (fun iv _ => Dl.length - (RowKit.intOf iv).toNat)
        case atStart => exact ⟨0, Nat.zero_le _, rfl, HS14.out, HROWe.out⟩
        case round =>
          obtain ⟨k, hk, rfl, hbk, hrow⟩ := hrel
          clear HS14 HROWe
          by_cases hlt : k < Dl.length
          · obtain h0 | ⟨g, cs, rfl, hg, hbox, hcs⟩ := hrow
            · omega
            have d1 : (k : Int) < (Dl.length : Int) := by omega
            have d0 : (0 : Int) ≤ (k : Int) := by omega
            obtain ⟨y0, e0⟩ : ∃ c0, wr.cell? ⟨g, k * 3, none⟩ = some c0 := ⟨_, by rw [hbox.cell (k * 3)]; exact Array.getElem?_eq_getElem (by omega)⟩
            obtain ⟨y1, e1⟩ : ∃ c0, wr.cell? ⟨g, k * 3 + 1, none⟩ = some c0 := ⟨_, by rw [hbox.cell (k * 3 + 1)]; exact Array.getElem?_eq_getElem (by omega)⟩
            obtain ⟨y2, e2⟩ : ∃ c0, wr.cell? ⟨g, k * 3 + 2, none⟩ = some c0 := ⟨_, by rw [hbox.cell (k * 3 + 2)]; exact Array.getElem?_eq_getElem (by omega)⟩
            have f0 := hbox.frozen (k * 3)
            have f1 := hbox.frozen (k * 3 + 1)
            have f2 := hbox.frozen (k * 3 + 2)
            have l1 := hbox.lt
            have HBOX := hide hbox
            have HBK := hide hbk
            have HG := hide hg
            have HCS := hide hcs
            clear hbox hbk hg hcs
            go_wp2
            go_roundw
            case rel => exact ⟨k + 1, by omega, by go_num, ((HBK.out.setCell (p := ⟨g, k * 3, none⟩) HG.out _).setCell (p := ⟨g, k * 3 + 1, none⟩) HG.out _).setCell (p := ⟨g, k * 3 + 2, none⟩) HG.out _, .inr ⟨g, _, rfl, HG.out, ((HBOX.out.set (k * 3) _).set (k * 3 + 1) _).set (k * 3 + 2) _, by simpa using HCS.out⟩⟩
            case measure => simp [RowKit.intOf]; omega
          · obtain rfl : k = Dl.length := by omega
            have d1 : ¬ (Dl.length : Int) < (Dl.length : Int) := by omega
            have HBK := hide hbk
            have HDk := hide (HD4.out.below hbk)
            have HBw := hide (show Below w.heap.size w wr from bafter HB4.out hbk (Nat.le_refl _))
            clear hbk hrow
            have hch := changes_calls wr _ L (HC.out.below HBw.out) (by have := T2.out; have := HLN.out; omega)
            have HCHG := hide hch
            clear hch
            go_wp2_with fail
            refine HCHG.out.mono ?_
            clear HCHG
            rintro e w15 ⟨rv, rfl, hrv, hb15⟩
            have hra := rapply_calls w15 T rv L HT.out (by have := T1.out; omega) hrv (fun j x hj => by have := T3.out j x hj; omega) (by have := T2.out; have := HLN.out; omega)
            rw [HST.out] at hra
            have HRA := hide hra
            have HDx := hide (HDk.out.below hb15)
            have HB15 := hide (show Below w.heap.size w w15 from bafter HBw.out hb15 (Nat.le_refl _))
            clear hra hrv hb15 HDk HBw HBK
            go_wp2_with fail
            refine HRA.out.mono ?_
            clear HRA
            rintro e w16 ⟨r', sv, rv', rfl, ⟨NT', Dl', hA', hgood⟩, hb16⟩
            obtain ⟨rfl, hsame⟩ := apply_one HA.out hA'
            obtain ⟨rfl, rfl⟩ := hsame rfl
            obtain ⟨rfl, hed⟩ := hgood rfl
            have HED16 := hide hed
            have HD16 := hide (HDx.out.below hb16)
            have HB16 := hide (show Below w.heap.size w w16 from bafter HB15.out hb16 (Nat.le_refl _))
            clear hsame hgood hed hb16 hA' HDx HB15
            have HBY := hide (bytes_any w16 D 2 NT Dl HD16.out (by have := HSZ.out; omega))
            generalize hsn : strOf NT = sn at *
            have HSN := hide hsn
            clear hsn
            go_wp2_with fail
            refine HBY.out.mono ?_
            clear HBY
            rintro e w17 ⟨ao17, c17, rfl, hy17, hb17⟩
            have hcv := conv_byts hy17.1
            rw [HSN.out] at hcv
            have HD17 := hide (HD16.out.below hb17)
            have HB17 := hide (show Below w.heap.size w w17 from bafter HB16.out hb17 (Nat.le_refl _))
            have HED17 := hide (HED16.out.below hb17)
            clear hy17 hb17
            have HEDX := hide (edits_any w17 D 2 NT Dl HD17.out (by omega))
            go_wp2_with fail
            refine HEDX.out.mono ?_
            clear HEDX
            rintro e w18 ⟨ao18, c18, rfl, hy18, hb18⟩
            have HB18 := hide (show Below w.heap.size w w18 from bafter HB17.out hb18 (Nat.le_refl _))
            have HSM := hide (same_calls w18 _ _ Dl hy18 (HED17.out.below hb18) (by omega))
            clear hy18 hb18
            go_wp2_with fail
            refine HSM.out.mono ?_
            rintro e w19 ⟨rfl, hb19⟩
            have HB19 := hide (show Below w.heap.size w w19 from bafter HB18.out hb19 (Nat.le_refl _))
            clear hb19
            go_wp2
            go_ret
            exact ⟨by simp, HB19.out⟩

end Go.Proofs.YtjkfnplmnoghlaaDoor
