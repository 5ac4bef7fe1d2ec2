/- The law's spans: the items of a text in a slice. -/
import Derived.Test.YtehflaenehehhaaLSpans
namespace Go.Proofs.Ytehflaenehehhaa
set_option linter.unusedVariables false
set_option linter.unusedSimpArgs false
set_option maxRecDepth 100000
open Go Go.RowKit Go.Shelf Go.Lib

attribute [local go_sem] Oper.semAt_some

theorem spI_turn {w : World} {s1 Bs : Nat} {ao : Option Addr} {cap : Nat} {T : List Nat} {N : Nat} {v : Value} {k D : Nat} {Pv Pv' : Nat → Prop} {W W' : World} (h : SpI w s1 Bs ao cap T N v k Pv W) (hD : w.heap.size + 2 ≤ D) (hBs : Bs < D) (hpv : ∀ b, Pv b → D ≤ b ∧ b < W.heap.size) (hbb : ∀ b off, 0 < T.length → ao = some ⟨b, off, none⟩ → b < D) (ht : Turn D Pv W W') (hp : ∀ b, Pv' b → Pv b ∨ W.heap.size ≤ b) : SpI w s1 Bs ao cap T N v k Pv' W' := by
  obtain ⟨⟨⟨g0, g1⟩, g2, g3⟩, ⟨g4, g5⟩, g6, g7⟩ := h
  have np : ∀ b, b < D → ¬ Pv b := fun b hb e => by have := (hpv b e).1; omega
  refine ⟨⟨⟨ht.block _ _ g0 (np _ (by omega)) (.inl rfl), g1.1, ?_⟩, ht.block _ _ g2 (np _ (by omega)) (.inl rfl), fun g hg e => ?_⟩, ⟨cell_turn g4 ht (np _ hBs) hBs, byts_turn g5 ht (fun hT a c e b off e2 => by cases e; exact ⟨np _ (hbb b off hT e2), hbb b off hT e2⟩)⟩, below_turn g6 ht (Nat.le_refl _) (by omega) (fun b e => by have := (hpv b e).1; omega), Nat.le_trans g7 ht.size⟩
  · rcases g1.2 with hn | ⟨g, cp, cur, hv, h1, h2, h3⟩
    · exact .inl hn
    · exact .inr ⟨g, cp, cur, hv, h1, ht.block _ _ h2 (g3 g (by rw [hv]; rfl)) (.inl rfl), h3⟩
  · rcases hp g e with q | q
    · exact g3 g hg q
    · rcases g1.2 with ⟨hn, _⟩ | ⟨g', cp, cur, hv, h1, h2, h3⟩
      · rw [hn] at hg; cases hg
      · rw [hv] at hg
        cases hg
        have q' : W.heap.size ≤ g' := q
        have := (Array.getElem?_eq_some_iff.1 h2).1
        omega
theorem spI_own {w : World} {s1 Bs : Nat} {ao : Option Addr} {cap : Nat} {T : List Nat} {N : Nat} {v : Value} {C : Nat} {Pv : Nat → Prop} (hC : w.heap.size ≤ C) : OwnFrom C (fun k W => SpI w s1 Bs ao cap T N v k Pv W) := fun k X Y row h hg hr => by
  obtain ⟨⟨⟨g0, g1⟩, g2, g3⟩, ⟨g4, g5⟩, g6, g7⟩ := h
  have cellk : ∀ {b i : Nat} {u : Value}, X.cell? ⟨b, i, none⟩ = some u → Y.cell? ⟨b, i, none⟩ = some u := fun {b i u} hc => cell_kept hc hg (fun r e => (hr r e).2)
  refine ⟨⟨⟨own_cells hg hr g0 rfl, g1.1, ?_⟩, own_cells hg hr g2 rfl, g3⟩, ⟨cellk g4, ?_⟩, ownFrom_below (β := Unit) (Nat.le_refl _) hC () X Y row g6 hg hr, Nat.le_trans g7 hg.size⟩
  · rcases g1.2 with hn | ⟨g, cp, cur, hv, h1, h2, h3⟩
    · exact .inl hn
    · exact .inr ⟨g, cp, cur, hv, h1, own_cells hg hr h2 rfl, h3⟩
  · obtain ⟨a, c, e, q1, q2⟩ := g5
    refine ⟨a, c, e, q1, fun j hj => ?_⟩
    obtain ⟨b, off, e2, hc⟩ := q2 j hj
    exact ⟨b, off, e2, cellk hc⟩
theorem SpI.below {w : World} {s1 Bs : Nat} {ao : Option Addr} {cap : Nat} {T : List Nat} {N : Nat} {v : Value} {k : Nat} {Pv : Nat → Prop} {W W' : World} (h : SpI w s1 Bs ao cap T N v k Pv W) (hb : Below W.heap.size W W') : SpI w s1 Bs ao cap T N v k Pv W' := by
  obtain ⟨⟨⟨g0, g1⟩, g2, g3⟩, ⟨g4, g5⟩, g6, g7⟩ := h
  exact ⟨⟨⟨boxed_below g0 hb, ownsRow_keep g1 hb⟩, boxed_below g2 hb, g3⟩, ⟨(hb.cell (p := ⟨Bs, 0, none⟩) (block_lt g4)).trans g4, g5.below hb⟩, bafter g6 hb (Nat.le_refl _), Nat.le_trans g7 hb.size⟩

/-- The slots of a round. -/
def spanAct (w : World) (ai : Option Addr) (ci : Nat) (T : List Nat) (N Bs k B : Nat) : Act :=
  { tmps := #[.slice ai T.length ci, undef, .pointer (some ⟨w.heap.size, 0, none⟩), .pointer (some ⟨w.heap.size + 1, 0, none⟩), .pointer (some ⟨B, 0, none⟩), .slice ai T.length ci, .func (.func 27) #[] #[.pointer (some ⟨Bs, 0, none⟩)], .agg #[.int .i64 (((itemAt T N k).1 : Nat) : Int), .int .i64 (((itemAt T N k).2 : Nat) : Int)], undef, undef, undef, undef, undef, undef, undef, undef, undef], defers := [] }
def SpB (w : World) (ai : Option Addr) (ci : Nat) (s1 Bs : Nat) (ao : Option Addr) (cap : Nat) (T : List Nat) (N : Nat) (p : Nat × Act) (Pv : Nat → Prop) (W : World) : Prop :=
  ∃ B v, p.2 = spanAct w ai ci T N Bs p.1 B ∧ Box2 W B 32 (.int .i64 (((itemAt T N p.1).1 : Nat) : Int)) (.int .i64 (((itemAt T N p.1).2 : Nat) : Int)) ∧ SpI w s1 Bs ao cap T N v p.1 Pv W

set_option maxHeartbeats 4000000 in
theorem spans_calls (w : World) (ai : Option Addr) (ci : Nat) (T : List Nat) (N : Nat) (h : Byts w (.slice ai T.length ci) T) (h1 : ∀ k, k < N → posP T k < T.length) (h2 : posP T N = T.length) (hlen : T.length ≤ 2000) :
    Calls Try.prog 15 #[.slice ai T.length ci] w fun e w' => ∃ rv, e = .returned rv ∧ SpansIn w' rv (itemsL T N) ∧ Below w.heap.size w w' := by
  obtain ⟨i0, hi, hz0, hz1, hz2⟩ := info_parts infoSpan
  have hMN : (itemsL T N).length ≤ 2001 := by have := itemsL_le T N; have := posP_ge h1 N (Nat.le_refl _); omega
  refine (callsIn_wide (n := 3)).1 ?_
  refine callsIn_of_wp_marks Try.func15 rfl trivial ?_ rfl
  simp only [Try.ntmps15, List.size_toArray, List.length_cons, List.length_nil, Nat.reduceAdd, Nat.reduceSub, Array.replicate_succ, Array.replicate_zero, List.push_toArray, List.append_toArray, List.nil_append, List.cons_append]
  have hw0 := Boxed.new w 39 (.slice none 0 0)
  have k0 := bel w (.cells #[.slice none 0 0] 39)
  have hw1 := Boxed.new (w.alloc (.cells #[.slice none 0 0] 39)) 39 (.slice none 0 0)
  have k1 := bel (w.alloc (.cells #[.slice none 0 0] 39)) (.cells #[.slice none 0 0] 39)
  have hzz : ((w.alloc (.cells #[.slice none 0 0] 39)).alloc (.cells #[.slice none 0 0] 39)).heap.size = w.heap.size + 2 := by simp
  rw [World.size_alloc] at hw1
  have HW := hide (And.intro (boxed_below hw0 k1) (And.intro hw1 (And.intro (bafter k0 k1 (Nat.le_refl _)) hzz)))
  have H := hide h
  clear hw0 hw1 k0 k1 hzz h
  gi_wp2_with fail
  refine ⟨trivial, ?_⟩
  generalize (w.alloc (.cells #[.slice none 0 0] 39)).alloc (.cells #[.slice none 0 0] 39) = wB at *
  obtain ⟨hw0, hw1, kB, hzB⟩ := HW.out
  clear HW
  refine (callsIn_wide.2 (items_calls wB ai ci T (H.out.below kB) (by omega))).mono ?_
  rintro e w0 ⟨ao, cap, rfl, hkn, hcp, hb0⟩
  rw [hzB] at hkn ⊢
  have v0 := boxed_below hw0 hb0
  have v1 := boxed_below hw1 hb0
  have kw := bafter kB hb0 (Nat.le_refl _)
  have lB : w.heap.size + 2 < w0.heap.size := block_lt hkn.1
  have hbb : ∀ b off, 0 < T.length → ao = some ⟨b, off, none⟩ → b < w0.heap.size := fun b off hT e => by
    obtain ⟨_, _, e2, _, hcs⟩ := hkn.2
    cases e2
    obtain ⟨_, _, e3, hc⟩ := hcs 0 hT
    rw [e] at e3
    cases e3
    exact block_lt hc
  have hstart : SpI w w0.heap.size (w.heap.size + 2) ao cap T N (.slice none 0 0) 0 (fun _ => False) w0 :=
    ⟨⟨⟨v1, World.ownsRow_nil _ _ _ _⟩, v0, fun g hg => by cases hg⟩, hkn, kw, Nat.le_refl _⟩
  clear hw0 hw1 kB hb0 v0 v1 kw H
  gi_wp2
  refine range_knownV (gf := 27) (lb := #[.pointer (some ⟨w.heap.size + 2, 0, none⟩)]) ?hg (enters_of Try.func27 (by kernel_rfl) rfl)
    (items_hands (w.heap.size + 2) ao cap T N h1 h2 (by omega) hcp) (fun _ => rfl)
    (fun k Pv W => ∃ v, SpI w w0.heap.size (w.heap.size + 2) ao cap T N v k Pv W)
    (fun c k Pv W => False)
    (fun Pv => fun k X Y row ⟨v, hv⟩ hg hr => ⟨v, spI_own (by omega) k X Y row hv hg hr⟩)
    (fun c Pv => fun k X Y row hv hg hr => hv)
    (fun k Pv W ⟨v, hv⟩ => hv.2.1)
    ?turn (fun c k Pv W2 W3 h _ _ => h) ⟨_, hstart⟩ (SpB w ai ci w0.heap.size (w.heap.size + 2) ao cap T N) ?own1 ?assign ?body ?done ?stop
  case hg => rfl
  case turn =>
    rintro k Pv Pv' X Y ⟨v, hv⟩ hpv ht hp
    exact ⟨v, spI_turn hv (by omega) (by omega) hpv (fun b off hT e => by have := hbb b off hT e; omega) ht hp⟩
  case own1 => exact fun Pv p X Y row ⟨B, v, ha, hb, hv⟩ hg hr => ⟨B, v, ha, own_cells hg hr hb rfl, spI_own (by omega) p.1 X Y row hv hg hr⟩
  case assign =>
    rintro l k Pv X K hk hpv ⟨v, hv⟩ hK
    have hK2 := hK (spanAct w ai ci T N (w.heap.size + 2) k X.heap.size) (X.alloc (.cells #[.int .i64 (((itemAt T N k).1 : Nat) : Int), .int .i64 (((itemAt T N k).2 : Nat) : Int)] 32)) (bel _ _) ⟨X.heap.size, v, rfl, World.alloc_heap_new _ _, hv.below (bel _ _)⟩
    clear hK hv
    unfold spanAct at hK2
    unfold itemV
    gi_wp2
    exact hK2
  case body =>
    rintro l k Pv a1 X hk hpv ⟨B, v, ha1, hbx, hv⟩
    dsimp only at ha1 hbx hv
    subst ha1
    unfold spanAct
    have htk : ((itemsL T N).take k).length = k := by rw [List.length_take]; omega
    have hits := item_take hk
    have HV := hide hv
    obtain ⟨⟨⟨g0, g1⟩, g2, g3⟩, g4, g6, g7⟩ := hv
    rw [htk] at g1
    have hX : w0.heap.size ≤ X.heap.size ∨ True := .inr trivial
    obtain ⟨so, sc, rfl⟩ := own_slice g1
    have c1 := g0.cell
    have f1 := g0.frozen
    have b0 := hbx.cell0
    have b1 := hbx.cell1
    have kA : Below X.heap.size X (X.alloc (.cells #[.int .i64 (((itemAt T N k).1 : Nat) : Int), .int .i64 (((itemAt T N k).2 : Nat) : Int)] 32)) := bel _ _
    have HO := hide (ownsRow_keep g1 kA)
    have HONE : Hid (∀ u ∈ ([.int .i64 (((itemAt T N k).1 : Nat) : Int), .int .i64 (((itemAt T N k).2 : Nat) : Int)] : List Value), u.oneCell' = true) := fun u hu => by
      simp at hu
      rcases hu with rfl | rfl <;> rfl
    have HHSZ : Hid (w0.heap.size ≤ (X.alloc (.cells #[.int .i64 (((itemAt T N k).1 : Nat) : Int), .int .i64 (((itemAt T N k).2 : Nat) : Int)] 32)).heap.size) := Nat.le_trans g7 kA.size
    have HFIN : Hid (∀ v' X1, X1.ownsRow w0.heap.size 32 2 v' (k + 1) (scells ((itemsL T N).take k) ++ [.int .i64 (((itemAt T N k).1 : Nat) : Int), .int .i64 (((itemAt T N k).2 : Nat) : Int)]) → (X.alloc (.cells #[.int .i64 (((itemAt T N k).1 : Nat) : Int), .int .i64 (((itemAt T N k).2 : Nat) : Int)] 32)).grownBy X1 (Value.slice so k sc).ownBlock →
        (v'.ownBlock = (Value.slice so k sc).ownBlock ∨ v'.ownBlock = some (X.alloc (.cells #[.int .i64 (((itemAt T N k).1 : Nat) : Int), .int .i64 (((itemAt T N k).2 : Nat) : Int)] 32)).heap.size) →
        Boxed X1 (w.heap.size + 1) 39 (.slice so k sc) ∧ (KeepsFrom w0.heap.size X (X1.setCell ⟨w.heap.size + 1, 0, none⟩ v') ∧ KeepsP Pv X (X1.setCell ⟨w.heap.size + 1, 0, none⟩ v')) ∧ SpI w w0.heap.size (w.heap.size + 2) ao cap T N v' (k + 1) Pv (X1.setCell ⟨w.heap.size + 1, 0, none⟩ v')) := by
      intro v' X1 ho hg hat
      have rl : ∀ j, (Value.slice so k sc).ownBlock = some j → w0.heap.size ≤ j := fun j hj => (HO.out.lt j hj).1
      have kept : ∀ (b : Nat) (o : Obj), X.heap[b]? = some o → (Value.slice so k sc).ownBlock ≠ some b → X1.heap[b]? = some o := fun b o hb hne => by
        have hlt := (Array.getElem?_eq_some_iff.1 hb).1
        have e1 : (X.alloc (.cells #[.int .i64 (((itemAt T N k).1 : Nat) : Int), .int .i64 (((itemAt T N k).2 : Nat) : Int)] 32)).heap[b]? = some o := (kA.block b hlt).trans hb
        exact (hg.block b (by have := kA.size; omega) (fun e => hne e.symm)).trans e1
      have low : ∀ (b : Nat) (o : Obj), X.heap[b]? = some o → b < w0.heap.size → X1.heap[b]? = some o := fun b o hb hlt => kept b o hb (fun e => by have := rl b e; omega)
      have d0 := low _ _ g0 (by omega)
      have d2 := low _ _ g2 (by omega)
      have ncell : ∀ (b i : Nat) (u : Value), X.cell? ⟨b, i, none⟩ = some u → b < w0.heap.size → b ≠ w.heap.size + 1 → (X1.setCell ⟨w.heap.size + 1, 0, none⟩ v').cell? ⟨b, i, none⟩ = some u := fun b i u hc hlt hne => by
        have hb := block_lt hc
        have e1 : X1.heap[b]? = X.heap[b]? := by rw [Array.getElem?_eq_getElem hb]; exact low b _ (Array.getElem?_eq_getElem hb) hlt
        exact (World.cell?_of_block (w := X1) (a := ⟨b, i, none⟩) (heap_setCell_other X1 ⟨w.heap.size + 1, 0, none⟩ b v' hne)).trans ((World.cell?_of_block (w := X) (a := ⟨b, i, none⟩) e1).trans hc)
      refine ⟨d0, ⟨?_, ?_⟩, ⟨⟨Boxed.set _ d0, ?_⟩, boxed_other d2 (by omega) _, ?_⟩, ⟨ncell _ _ _ g4.1 (by omega) (by omega), ?_⟩, ?_, ?_⟩
      · exact ((KeepsOthers.alloc _ _).trans ((KeepsOthers.of_grownBy hg (fun j o hj ho' => ownsRow_cells HO.out hj ho')).trans (KeepsOthers.setCell _ _ _))).from _
      · intro b o hb hbo
        exact (heap_setCell_other X1 ⟨w.heap.size + 1, 0, none⟩ b v' (by show b ≠ w.heap.size + 1; have := (hpv b hb).1; omega)).trans (kept b o hbo (fun e => g3 b e hb))
      · rw [hits, List.length_append, htk, scells_snoc]
        exact ownsRow_set ho (by omega) v'
      · intro g hgv hPg
        rcases hat with e | e
        · rw [e] at hgv
          exact g3 g hgv hPg
        · rw [e] at hgv
          cases hgv
          have h3 := (hpv _ hPg).2
          rw [World.size_alloc] at h3
          omega
      · obtain ⟨_, _, e, q1, q2⟩ := g4.2
        cases e
        refine ⟨ao, cap, rfl, q1, fun j hj => ?_⟩
        obtain ⟨b, off, e2, hc⟩ := q2 j hj
        exact ⟨b, off, e2, ncell _ _ _ hc (hbb b off (by omega) e2) (fun e => by subst e; exact box_no_byte g0 hc)⟩
      · exact ((bafter g6 kA (Nat.le_refl _)).grown hg (by have := kA.size; have := g6.size; omega) (fun j hj => by have := rl j hj; omega)).setCell (p := ⟨w.heap.size + 1, 0, none⟩) (by show w.heap.size ≤ w.heap.size + 1; omega) v'
      · have := hg.size
        have := kA.size
        have := (KeepsOthers.setCell X1 ⟨w.heap.size + 1, 0, none⟩ v').size
        omega
    have c6 : (X.alloc (.cells #[.int .i64 (((itemAt T N k).1 : Nat) : Int), .int .i64 (((itemAt T N k).2 : Nat) : Int)] 32)).cell? ⟨w.heap.size + 1, 0, none⟩ = some (.slice so k sc) := (boxed_below g0 kA).cell
    have d3 : ¬ (3000 : Int) < (k : Int) := by omega
    have hk2 : k ≤ 2001 := by omega
    clear g0 g1 g2 g3 g4 g6 g7 kA hX hits htk HV hstart hbb hkn h1 h2 hbx
    gi_wp2_with (gi_at_builtin; go_must (refine wpListIn_append_at _ rfl (.tmp 12) (.tmp 14) 39 rfl w0.heap.size 32 i0 (.agg #[.int .i64 0, .int .i64 0]) 2 16 Try.underlying39 hi hz0 hz1 hz2 rfl (by decide) (.slice so k sc) k (scells ((itemsL T N).take k)) rfl HO.out ⟨X.heap.size, 0, none⟩ 1 1 [.int .i64 (((itemAt T N k).1 : Nat) : Int), .int .i64 (((itemAt T N k).2 : Nat) : Int)] rfl rfl (by exact World.news_of_block (World.alloc_heap_new _ _)) HONE.out (by unfold maxLen; omega) (by omega) HHSZ.out ?_; intro v' X1 hown' hgrow hat; obtain ⟨y1, y2, y3⟩ := HFIN.out v' X1 hown' hgrow hat; have HY2 := hide y2; have HY3 := hide y3; obtain ⟨so', sc', rfl⟩ := own_slice hown'; have cy := y1.cell; have fy := y1.frozen; clear y1 y2 y3 hown' hgrow hat))
    exact ⟨HY2.out, _, HY3.out⟩
  case done =>
    rintro D Pv X hD ⟨v, hv⟩ hK
    obtain ⟨⟨⟨g0, g1⟩, g2, g3⟩, g4, g6, g7⟩ := hv
    rw [List.take_length] at g1
    obtain ⟨so, sc, rfl⟩ := own_slice g1
    have c0 := g0.cell
    have c2 := g2.cell
    have f2 := g2.frozen
    have G := hide (And.intro g1 (And.intro g2 g6))
    clear g0 g1 g2 g3 g4 g6 g7 hstart hbb hkn h1 h2
    gi_wp2
    obtain ⟨g1, g2, g6⟩ := G.out
    have hK' := (KeepsOthers.setCell X ⟨w.heap.size, 0, none⟩ (.slice so (itemsL T N).length sc)).same D _ hK rfl
    refine ⟨by simp, .inl ⟨_, _, rfl, run_takeDeferred hK', ?_⟩⟩
    have d2 := g2.set (.slice so (itemsL T N).length sc)
    have e1 := cell_kept d2.cell (grownBy_putObj' _ D (.deferred none)) (fun r e => by cases e; exact ⟨_, hK', rfl⟩)
    have hB := g6.setCell (p := ⟨w.heap.size, 0, none⟩) (Nat.le_refl _) (.slice so (itemsL T N).length sc)
    have hlast := belowK_b (w := w) (Nat.le_refl _) _ D _ (.deferred none) (by omega) hK' rfl rfl
    refine ⟨.slice so (itemsL T N).length sc, ?_, ⟨_, rfl, spansIn_of (n₀ := w0.heap.size) (e := 32) ?_, hB.trans hlast⟩⟩
    · simp [results, Try.f15, go_sem, e1]
    · exact (own_owns (β := Unit) _ 0 _ _ (fun _ => _) (fun _ => _) (fun _ => _)) () _ _ _ (ownsRow_set g1 (by omega) _) (grownBy_putObj' _ D (.deferred none)) (fun r e => by cases e; exact ⟨Nat.zero_le _, _, hK', rfl⟩)
  case stop =>
    rintro D c k Pv X hD hk hv hK
    exact hv.elim

end Go.Proofs.Ytehflaenehehhaa
