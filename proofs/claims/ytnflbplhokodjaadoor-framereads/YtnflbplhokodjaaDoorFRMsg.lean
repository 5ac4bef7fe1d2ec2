/- Frame: the reference's Messages. -/
import Derived.Test.YtnflbplhokodjaaDoorFRHead
import Derived.Test.YtnflbplhokodjaaDoorFLaw
namespace Go.Proofs.YtnflbplhokodjaaDoor
set_option linter.unusedVariables false
set_option linter.unusedSimpArgs false
set_option maxRecDepth 100000
open Go Go.RowKit Go.Shelf Go.Lib

theorem infoRMsg : (Tryd.prog.info? 36).map (fun i => (i.zero, i.size, i.bytes)) = some (some (.agg #[.int .i64 0, .slice none 0 0, .int .i64 0]), 3, 40) := by kernel_rfl
/-- A message of the reference: its kind, its body, behind which byte it came. -/
abbrev RE := Nat × Value × Nat
def rcell (x : RE) : List Value := [.int .i64 (x.1 : Int), x.2.1, .int .i64 (x.2.2 : Int)]
def rmcells (L : List RE) : List Value := L.flatMap rcell
theorem rmcells_snoc (L : List RE) (x : RE) : rmcells (L ++ [x]) = rmcells L ++ rcell x := by simp [rmcells]
theorem rmcells_at : ∀ (L : List RE) (j : Nat) (x : RE), L[j]? = some x → (rmcells L)[j * 3]? = some (.int .i64 (x.1 : Int)) ∧ (rmcells L)[j * 3 + 1]? = some x.2.1 ∧ (rmcells L)[j * 3 + 2]? = some (.int .i64 (x.2.2 : Int)) := by
  intro L
  induction L with
  | nil => intro j x h; simp at h
  | cons a l ih =>
    intro j x h
    cases j with
    | zero => simp at h; subst h; exact ⟨rfl, rfl, rfl⟩
    | succ j =>
      have := ih j x (by simpa using h)
      have e : rmcells (a :: l) = [.int .i64 (a.1 : Int), a.2.1, .int .i64 (a.2.2 : Int)] ++ rmcells l := rfl
      rw [e, show (j + 1) * 3 = j * 3 + 3 by omega]
      refine ⟨?_, ?_, ?_⟩
      · rw [List.getElem?_append_right (by simp)]; exact this.1
      · rw [List.getElem?_append_right (by simp)]; exact this.2.1
      · rw [List.getElem?_append_right (by simp)]; exact this.2.2
def OwnR (n₁ : Nat) (w : World) (v : Value) (L : List RE) : Prop := w.ownsRow n₁ 36 3 v L.length (rmcells L)
theorem OwnR.slice {n₁ : Nat} {w : World} {v : Value} {L : List RE} (q : OwnR n₁ w v L) : ∃ ao c, v = .slice ao L.length c := by
  rcases id q.2 with ⟨rfl, h0⟩ | ⟨g, cap, cur, rfl, hg, hh, hn, hm, hc, ht⟩
  · exact ⟨none, 0, by rw [h0]⟩
  · exact ⟨_, _, rfl⟩
theorem OwnR.below {n₁ : Nat} {w w' : World} {v : Value} {L : List RE} (q : OwnR n₁ w v L) (hb : Below w.heap.size w w') : OwnR n₁ w' v L := by
  rcases id q.2 with ⟨rfl, h0⟩ | ⟨g, cap, cur, rfl, hg, hh, hn, hm, hc, ht⟩
  · exact ⟨q.1, .inl ⟨rfl, h0⟩⟩
  · exact ⟨q.1, .inr ⟨g, cap, cur, rfl, hg, by rw [hb.block g (World.ownsRow.lt q g rfl).2, hh], hn, hm, hc, ht⟩⟩
theorem OwnR.cells {n₁ : Nat} {w : World} {v : Value} {L : List RE} (q : OwnR n₁ w v L) {j : Nat} {x : RE} (hj : L[j]? = some x) : ∃ g c, v = .slice (some ⟨g, 0, none⟩) L.length c ∧ w.cell? ⟨g, j * 3, none⟩ = some (.int .i64 (x.1 : Int)) ∧ w.cell? ⟨g, j * 3 + 1, none⟩ = some x.2.1 ∧ w.cell? ⟨g, j * 3 + 2, none⟩ = some (.int .i64 (x.2.2 : Int)) := by
  have hjl : j < L.length := (List.getElem?_eq_some_iff.1 hj).1
  rcases id q.2 with ⟨rfl, h0⟩ | ⟨g, cap, cur, rfl, hg, hh, hn, hm, hc, ht⟩
  · omega
  · have hat := rmcells_at L j x hj
    refine ⟨g, cap, rfl, ?_, ?_, ?_⟩
    · rw [World.ownsRow.cellAt q (j * 3) (by omega)]; exact hat.1
    · rw [World.ownsRow.cellAt q (j * 3 + 1) (by omega)]; exact hat.2.1
    · rw [World.ownsRow.cellAt q (j * 3 + 2) (by omega)]; exact hat.2.2
/-- What they are. -/
def RB (w : World) (L : List RE) (ms : List (Msg × Nat)) : Prop := L.length = ms.length ∧ ∀ (j : Nat) (x : RE) (m : Msg × Nat), L[j]? = some x → ms[j]? = some m → x.1 = m.1.1 ∧ x.2.2 = m.2 ∧ ∃ a n c, x.2.1 = .slice a n c ∧ Byts w (.slice a n c) m.1.2
theorem RB.nil (w : World) : RB w [] [] := ⟨rfl, fun j x m h => by simp at h⟩
theorem RB.snoc {w : World} {L : List RE} {ms : List (Msg × Nat)} (h : RB w L ms) (k : Nat) (a : Option Addr) (n c e : Nat) (T : List Nat) (hb : Byts w (.slice a n c) T) : RB w (L ++ [(k, .slice a n c, e)]) (ms ++ [((k, T), e)]) := by
  refine ⟨by simp [h.1], fun j x m hx hm => ?_⟩
  by_cases hj : j < L.length
  · rw [List.getElem?_append_left hj] at hx
    rw [List.getElem?_append_left (by rw [← h.1]; exact hj)] at hm
    exact h.2 j x m hx hm
  · rw [List.getElem?_append_right (by omega)] at hx
    rw [List.getElem?_append_right (by rw [← h.1]; omega)] at hm
    have h1 := (List.getElem?_eq_some_iff.1 hx).1
    simp at h1
    rw [h1] at hx
    rw [← h.1, h1] at hm
    simp at hx hm
    subst hx
    subst hm
    exact ⟨rfl, rfl, a, n, c, rfl, hb⟩
theorem byts_nil (w : World) : Byts w (.slice none 0 0) [] := ⟨none, 0, rfl, fun x hx => by simp at hx, fun j hj => by simp at hj⟩
theorem feed_at (B : List Nat) (p : Nat) (hp : p ≤ B.length) : match runH hd0 (B.drop p) with
    | .opn _ => feedE (.head hd0) p (B.drop p) = []
    | .broken k => feedE (.head hd0) p (B.drop p) = [((3, []), p + k)] ∧ 1 ≤ k ∧ p + k ≤ B.length
    | .whole k m => (feedE (.head hd0) p (B.drop p) = (if 16777216 < m then [((2, []), p + k)] else []) ++ (if B.length - (p + k) < m then [] else (if m ≤ 16777216 then [((1, (B.drop (p + k)).take m), p + k + m)] else []) ++ feedE (.head hd0) (p + k + m) (B.drop (p + k + m)))) ∧ 1 ≤ k ∧ p + k ≤ B.length := by
  have hr := ref_feed (B.length + 1) B p (by omega)
  rw [refM_succ] at hr
  have hk := run_pos hd0 (B.drop p)
  rw [List.length_drop] at hk
  cases hq : runH hd0 (B.drop p) with
  | opn _ => rw [hq] at hr; exact hr
  | broken k => rw [hq] at hr hk; simp only at hr hk ⊢; exact ⟨hr, by omega, by omega⟩
  | whole k m =>
    rw [hq] at hr hk
    simp only at hr hk ⊢
    rw [ref_feed B.length B (p + k + m) (by omega)]
    exact ⟨hr, by omega, by omega⟩
def MsgsR (w : World) (B : List Nat) (gv : Value) (w' : World) : Prop := ∃ L, OwnR w.heap.size w' gv L ∧ RB w L (feedE (.head hd0) 0 B) ∧ Below w.heap.size w w'
theorem grow_below {n : Nat} {w W W' : World} {o : Obj} {row : Option Nat} (h : Below n w W) (hn : n ≤ W.heap.size) (hg : (W.alloc o).grownBy W' row) (hr : ∀ k, row = some k → n ≤ k) : Below n w W' :=
  (h.trans ((bel W o).mono hn)).grown hg (by have := (bel W o).size; omega) hr

set_option maxHeartbeats 16000000 in
theorem messages_calls (w : World) (ao : Option Addr) (cap : Nat) (B : List Nat) (h : Byts w (.slice ao B.length cap) B) (hcap : B.length ≤ cap) (hlen : B.length ≤ 1000000) :
    Calls Tryd.prog 10 #[.slice ao B.length cap] w fun e w' => ∃ gv, e = .returned gv ∧ MsgsR w B gv w' := by
  obtain ⟨i0, hi, hz0, hz1, hz2⟩ := info_parts infoRMsg
  have HHD : Hid (∀ (W : World), Below w.heap.size w W → ∀ p, p ≤ B.length → Calls Tryd.prog 17 #[.slice ao B.length cap, .int .i64 (p : Int)] W fun e w' => HeadR B p e ∧ Below W.heap.size W w') := fun W hW p hp => rheader_calls W ao cap B p (h.below hW) hcap hlen hp
  have HFA := hide (feed_at B)
  have HBM := hide (fun s t (hs : s ≤ t) (ht : t ≤ B.length) => h.mid hs ht hcap)
  clear h
  generalize hn : B.length = n at *
  clear hn
  go_enter Tryd.func10, Tryd.ntmps10
  go_wp2
  go_loopw [3, 4] (fun ov pv wr => ∃ (p : Nat) (L : List RE) (ms : List (Msg × Nat)), p ≤ n ∧ pv = .int .i64 (p : Int) ∧ OwnR w.heap.size wr ov L ∧ RB w L ms ∧ feedE (.head hd0) 0 B = ms ++ feedE (.head hd0) p (B.drop p) ∧ L.length ≤ p ∧ Below w.heap.size w wr) (fun _ pv _ => n - (RowKit.intOf pv).toNat)
  case atStart => exact ⟨0, [], [], Nat.zero_le _, rfl, World.ownsRow_nil _ _ _ _, RB.nil w, rfl, Nat.le_refl _, Below.refl _ _⟩
  case round =>
    obtain ⟨p, L, ms, hp, rfl, hown, hrb, hms, hLp, hbr⟩ := hrel
    obtain ⟨oa, oc, hov⟩ := hown.slice
    subst hov
    have HOW := hide hown
    have HRB := hide hrb
    have HMS := hide hms
    have HBR := hide hbr
    have HHC := hide (HHD.out wr hbr p hp)
    have hst := HFA.out p hp
    have d1 : (p : Int) ≤ (n : Int) := by omega
    have HST : Hid (match runH hd0 (B.drop p) with
      | .opn _ => feedE (.head hd0) p (B.drop p) = []
      | .broken k => feedE (.head hd0) p (B.drop p) = [((3, []), p + k)] ∧ 1 ≤ k ∧ p + k ≤ n
      | .whole k m => (feedE (.head hd0) p (B.drop p) = (if 16777216 < m then [((2, []), p + k)] else []) ++ (if n - (p + k) < m then [] else (if m ≤ 16777216 then [((1, (B.drop (p + k)).take m), p + k + m)] else []) ++ feedE (.head hd0) (p + k + m) (B.drop (p + k + m)))) ∧ 1 ≤ k ∧ p + k ≤ n) := hst
    clear hown hrb hms hbr hst HHD
    generalize hLn : L.length = Ln at *
    have HLN := hide hLn
    have hLb : Ln ≤ 1000000 := by omega
    clear hLn
    go_wp2_with fail
    refine HHC.out.mono ?_
    rintro e w2 ⟨hre, hb2⟩
    have hst := HST.out
    unfold HeadR at hre
    have HB2 := hide (bafter HBR.out hb2 (Nat.le_refl _))
    have HOW2 := hide (HOW.out.below hb2)
    clear hb2 HHC HST
    cases hr : runH hd0 (B.drop p) with
    | opn h' =>
      rw [hr] at hre hst
      simp only at hre hst
      subst hre
      have HF : Hid (MsgsR w B (.slice oa Ln oc) w2) := ⟨L, by have := HLN.out; subst this; exact HOW2.out, by rw [HMS.out, hst, List.append_nil]; exact HRB.out, HB2.out⟩
      clear hr hst
      go_wp2
      go_ret
      exact ⟨_, rfl, HF.out⟩
    | broken k =>
      rw [hr] at hre hst
      simp only at hre hst
      subst hre
      obtain ⟨hf, hk1, hkn⟩ := hst
      generalize hen : p + k = en at *
      have HF0 : Hid (feedE (.head hd0) 0 B = ms ++ [((3, []), en)]) := by show _ = _; rw [HMS.out, hf]
      have HRB2 := hide (HRB.out.snoc 3 none 0 0 en [] (byts_nil w))
      rw [← HF0.out] at HRB2
      have HOW3 : Hid ((w2.alloc (.cells #[.int .i64 3, .slice none 0 0, .int .i64 (en : Int)] 36)).ownsRow w.heap.size 36 3 (.slice oa Ln oc) Ln (rmcells L)) := by
        have := HOW2.out.below (bel w2 (.cells #[.int .i64 3, .slice none 0 0, .int .i64 (en : Int)] 36))
        unfold OwnR at this
        rw [HLN.out] at this
        exact this
      have HSZ : Hid (w.heap.size ≤ (w2.alloc (.cells #[.int .i64 3, .slice none 0 0, .int .i64 (en : Int)] 36)).heap.size) := Nat.le_trans HB2.out.size (bel w2 _).size
      have HSW : Hid (w.heap.size ≤ w2.heap.size) := HB2.out.size
      have HONE : Hid (∀ u ∈ ([.int .i64 3, .slice none 0 0, .int .i64 (en : Int)] : List Value), u.oneCell' = true) := fun u hu => by
        simp at hu
        rcases hu with rfl | rfl | rfl <;> rfl
      clear hf hk1 hr hen HF0
      go_wp2_with (at_builtin; go_must (refine wpList_append_own _ rfl (.tmp 22) (.tmp 25) 26 rfl w.heap.size 36 i0 (.agg #[.int .i64 0, .slice none 0 0, .int .i64 0]) 3 40 Tryd.underlying26 hi hz0 hz1 hz2 rfl (by decide) _ Ln (rmcells L) rfl HOW3.out ⟨w2.heap.size, 0, none⟩ 1 1 [.int .i64 3, .slice none 0 0, .int .i64 (en : Int)] rfl rfl (by exact World.news_of_block (World.alloc_heap_new _ _)) HONE.out (by unfold maxLen; omega) (by omega) HSZ.out ?_; intro gv' W4 hown' hgrow hnil); have HF : Hid (MsgsR w B gv' W4) := ⟨L ++ [(3, .slice none 0 0, en)], by unfold OwnR; rw [rmcells_snoc, List.length_append, HLN.out]; exact hown', HRB2.out, grow_below HB2.out HSW.out hgrow (fun j hj => (World.ownsRow.lt HOW3.out j hj).1)⟩; clear hown' hgrow hnil)
      go_ret
      exact ⟨_, rfl, HF.out⟩
    | whole k m =>
      rw [hr] at hre hst
      simp only at hre hst
      subst hre
      obtain ⟨hf, hk1, hkn⟩ := hst
      generalize hen : p + k = en at *
      have hpe : p < en := by omega
      by_cases hbig : 16777216 < m
      · have e1 : (16777216 : Int) < (m : Int) := by omega
        have e2 : (n : Int) - (en : Int) < (m : Int) := by omega
        have HF0 : Hid (feedE (.head hd0) 0 B = ms ++ [((2, []), en)]) := by show _ = _; rw [HMS.out, hf, if_pos hbig, if_pos (by omega), List.append_nil]
        have HRB2 := hide (HRB.out.snoc 2 none 0 0 en [] (byts_nil w))
        rw [← HF0.out] at HRB2
        have HOW3 : Hid ((w2.alloc (.cells #[.int .i64 2, .slice none 0 0, .int .i64 (en : Int)] 36)).ownsRow w.heap.size 36 3 (.slice oa Ln oc) Ln (rmcells L)) := by
          have := HOW2.out.below (bel w2 (.cells #[.int .i64 2, .slice none 0 0, .int .i64 (en : Int)] 36))
          unfold OwnR at this
          rw [HLN.out] at this
          exact this
        have HSZ : Hid (w.heap.size ≤ (w2.alloc (.cells #[.int .i64 2, .slice none 0 0, .int .i64 (en : Int)] 36)).heap.size) := Nat.le_trans HB2.out.size (bel w2 _).size
        have HSW : Hid (w.heap.size ≤ w2.heap.size) := HB2.out.size
        have HONE : Hid (∀ u ∈ ([.int .i64 2, .slice none 0 0, .int .i64 (en : Int)] : List Value), u.oneCell' = true) := fun u hu => by
          simp at hu
          rcases hu with rfl | rfl | rfl <;> rfl
        obtain ⟨rs, hrs⟩ : ∃ rs, n - en = rs := ⟨_, rfl⟩
        have e3 : (n : Int) - (en : Int) = (rs : Int) := by omega
        have e4 : (rs : Int) < (m : Int) := by omega
        have hrb' : rs ≤ 1000000 := by omega
        clear hf hk1 hr hen HF0 hbig hrs e2
        go_wp2_with (at_builtin; go_must (refine wpList_append_own _ rfl (.tmp 32) (.tmp 35) 26 rfl w.heap.size 36 i0 (.agg #[.int .i64 0, .slice none 0 0, .int .i64 0]) 3 40 Tryd.underlying26 hi hz0 hz1 hz2 rfl (by decide) _ Ln (rmcells L) rfl HOW3.out ⟨w2.heap.size, 0, none⟩ 1 1 [.int .i64 2, .slice none 0 0, .int .i64 (en : Int)] rfl rfl (by exact World.news_of_block (World.alloc_heap_new _ _)) HONE.out (by unfold maxLen; omega) (by omega) HSZ.out ?_; intro gv' W4 hown' hgrow hnil); have HF : Hid (MsgsR w B gv' W4) := ⟨L ++ [(2, .slice none 0 0, en)], by unfold OwnR; rw [rmcells_snoc, List.length_append, HLN.out]; exact hown', HRB2.out, grow_below HB2.out HSW.out hgrow (fun j hj => (World.ownsRow.lt HOW3.out j hj).1)⟩; clear hown' hgrow hnil)
        go_ret
        exact ⟨_, rfl, HF.out⟩
      · have e1 : ¬ (16777216 : Int) < (m : Int) := by omega
        obtain ⟨rs, hrs⟩ : ∃ rs, n - en = rs := ⟨_, rfl⟩
        have e3 : (n : Int) - (en : Int) = (rs : Int) := by omega
        have hrb' : rs ≤ 1000000 := by omega
        by_cases hsh : rs < m
        · have e4 : (rs : Int) < (m : Int) := by omega
          have HF : Hid (MsgsR w B (.slice oa Ln oc) w2) := ⟨L, by have := HLN.out; subst this; exact HOW2.out, by rw [HMS.out, hf, if_neg hbig, if_pos (by omega), List.append_nil, List.append_nil]; exact HRB.out, HB2.out⟩
          clear hf hk1 hr hen hbig hrs hsh
          go_wp2
          go_ret
          exact ⟨_, rfl, HF.out⟩
        · have e4 : ¬ (rs : Int) < (m : Int) := by omega
          have e5 : (m : Int) ≤ 16777216 := by omega
          obtain ⟨tt, htt⟩ : ∃ tt, en + m = tt := ⟨_, rfl⟩
          have e6 : (en : Int) + (m : Int) = (tt : Int) := by omega
          have htn : tt ≤ n := by omega
          have hmm : tt - en = m := by omega
          rw [htt] at hf
          have q1 := fun W : World => cut_mid W ao n cap en tt (by omega) htn hcap
          have hby := HBM.out en tt (by omega) htn
          rw [hmm] at q1 hby
          have HF0 : Hid (feedE (.head hd0) 0 B = (ms ++ [((1, (B.drop en).take m), tt)]) ++ feedE (.head hd0) tt (B.drop tt)) := by
            show _ = _
            rw [HMS.out, hf, if_neg hbig, if_neg (by omega), if_pos (by omega), List.nil_append, List.append_assoc]
          generalize (if cap = en then ao else ao.map (·.add en)) = aC at *
          obtain ⟨cC, hcC⟩ : ∃ cC, cap - en = cC := ⟨_, rfl⟩
          rw [hcC] at q1 hby
          have HRB2 := hide (HRB.out.snoc 1 aC m cC tt _ hby)
          have HOW3 : Hid ((w2.alloc (.cells #[.int .i64 1, .slice aC m cC, .int .i64 (tt : Int)] 36)).ownsRow w.heap.size 36 3 (.slice oa Ln oc) Ln (rmcells L)) := by
            have := HOW2.out.below (bel w2 (.cells #[.int .i64 1, .slice aC m cC, .int .i64 (tt : Int)] 36))
            unfold OwnR at this
            rw [HLN.out] at this
            exact this
          have HSZ : Hid (w.heap.size ≤ (w2.alloc (.cells #[.int .i64 1, .slice aC m cC, .int .i64 (tt : Int)] 36)).heap.size) := Nat.le_trans HB2.out.size (bel w2 _).size
          have HSW : Hid (w.heap.size ≤ w2.heap.size) := HB2.out.size
          have HONE : Hid (∀ u ∈ ([.int .i64 1, .slice aC m cC, .int .i64 (tt : Int)] : List Value), u.oneCell' = true) := fun u hu => by
            simp at hu
            rcases hu with rfl | rfl | rfl <;> rfl
          have HPT : Hid (p < tt ∧ tt ≤ n ∧ Ln + 1 ≤ tt) := show _ ∧ _ ∧ _ by omega
          have hmb : m ≤ 1000000 := by omega
          clear hf hk1 hr hen hbig hrs hsh htt hmm hby hcC hpe hkn hLp hp
          go_wp2_with (at_builtin; go_must (refine wpList_append_own _ rfl (.tmp 46) (.tmp 57) 26 rfl w.heap.size 36 i0 (.agg #[.int .i64 0, .slice none 0 0, .int .i64 0]) 3 40 Tryd.underlying26 hi hz0 hz1 hz2 rfl (by decide) _ Ln (rmcells L) rfl HOW3.out ⟨w2.heap.size, 0, none⟩ 1 1 [.int .i64 1, .slice aC m cC, .int .i64 (tt : Int)] rfl rfl (by exact World.news_of_block (World.alloc_heap_new _ _)) HONE.out (by unfold maxLen; omega) (by omega) HSZ.out ?_; intro gv' W4 hown' hgrow hnil); have HOW4 : Hid (OwnR w.heap.size W4 gv' (L ++ [(1, .slice aC m cC, tt)])) := (by show OwnR _ _ _ _; unfold OwnR; rw [rmcells_snoc, List.length_append, HLN.out]; exact hown'); have HB4 : Hid (Below w.heap.size w W4) := grow_below HB2.out HSW.out hgrow (fun j hj => (World.ownsRow.lt HOW3.out j hj).1); clear hown' hgrow hnil)
          go_roundw
          case rel => exact ⟨tt, _, _, HPT.out.2.1, rfl, HOW4.out, HRB2.out, HF0.out, by rw [List.length_append, HLN.out]; exact HPT.out.2.2, HB4.out⟩
          case measure => have := HPT.out; simp [RowKit.intOf]; omega

end Go.Proofs.YtnflbplhokodjaaDoor
