/- Json: of: a tree, copied as the reference has it. -/
import Derived.Test.YtacgocfgcoejpaaDoorJOwnQ
namespace Go.Proofs.YtacgocfgcoejpaaDoor
set_option linter.unusedVariables false
set_option linter.unusedSimpArgs false
set_option maxRecDepth 100000
open Go Go.RowKit Go.Shelf Go.Lib

/-- Where a tree of a call's own may lie. -/
def LiesQ (N : Nat) (w : World) (lv : Value) (b : Nat) : Prop := (b < N ∨ w.heap.size + 3 ≤ b) ∧ lv.ownBlock ≠ some b
/-- A copy on its way. -/
structure OfJQ (N : Nat) (w W : World) (k : Int) (s : ByteArray) (kv iv lv : Value) (L : List JT) (M : List JC) : Prop where
  inb : BoxC W w.heap.size 25 #[.int .i64 k, .string s, kv, iv]
  res : BoxC W (w.heap.size + 1) 51 #[.int .i64 0, .string ⟨#[]⟩, .slice none 0 0, .slice none 0 0]
  box : BoxC W (w.heap.size + 2) 51 #[.int .i64 k, .string s, kv, lv]
  vs : OwnQ (w.heap.size + 3) W lv M
  low : Below w.heap.size w W
  ps : ∀ (q : Nat) (x : JC) (T : JT), M[q]? = some x → L[q]? = some T → TIn W (LiesQ N w lv) x T ∧ IsSl x.2.2.1 ∧ IsSl x.2.2.2
theorem OfJQ.below {N : Nat} {w W W' : World} {k : Int} {s : ByteArray} {kv iv lv : Value} {L : List JT} {M : List JC} (h : OfJQ N w W k s kv iv lv L M) (hb : Below W.heap.size W W') : OfJQ N w W' k s kv iv lv L M :=
  ⟨h.inb.below hb, h.res.below hb, h.box.below hb, h.vs.keep (fun j e => hb.block j (h.vs.lt j e).2), h.low.trans (hb.mono h.low.size), fun q x T hx hT => ⟨(h.ps q x T hx hT).1.bel hb, (h.ps q x T hx hT).2⟩⟩
theorem OfJQ.put {N : Nat} {w W W' : World} {k : Int} {s : ByteArray} {kv iv lv lv' : Value} {L : List JT} {M : List JC} {y : JC} {T : JT} (h : OfJQ N w W k s kv iv lv L M) (hN : N ≤ w.heap.size) (hg : W.grownBy W' lv.ownBlock) (ho : OwnQ (w.heap.size + 3) W' lv' (M ++ [y])) (hrow : lv'.ownBlock = lv.ownBlock ∨ lv'.ownBlock = some W.heap.size)
    (hT : L[M.length]? = some T) (hy : TIn W (LiesQ N w lv) y T) (hy2 : IsSl y.2.2.1) (hy3 : IsSl y.2.2.2) : OfJQ N w (W'.setCell ⟨w.heap.size + 2, 3, none⟩ lv') k s kv iv lv' L (M ++ [y]) := by
  have n0 : some w.heap.size ≠ lv.ownBlock := fun e => by have := (h.vs.lt _ e.symm).1; omega
  have n1 : some (w.heap.size + 1) ≠ lv.ownBlock := fun e => by have := (h.vs.lt _ e.symm).1; omega
  have n2 : some (w.heap.size + 2) ≠ lv.ownBlock := fun e => by have := (h.vs.lt _ e.symm).1; omega
  have hkeep : ∀ b, LiesQ N w lv b → b < W.heap.size → LiesQ N w lv' b ∧ (W'.setCell ⟨w.heap.size + 2, 3, none⟩ lv').heap[b]? = W.heap[b]? := by
    intro b hs hlt
    obtain ⟨h1, h2⟩ := hs
    refine ⟨⟨h1, ?_⟩, ?_⟩
    · rcases hrow with e | e
      · rw [e]
        exact h2
      · rw [e]
        intro q
        simp only [Option.some.injEq] at q
        omega
    · rw [Below.heap_setCell W' ⟨w.heap.size + 2, 3, none⟩ lv' b (by simp only [ne_eq]; omega)]
      exact hg.block b hlt (fun q => h2 q.symm)
  refine ⟨(h.inb.kept hg n0).other (by omega) 3 lv', (h.res.kept hg n1).other (by omega) 3 lv', (h.box.kept hg n2).set 3 lv', ho.set (ho.off (by omega)), (h.low.grown hg h.low.size (fun j e => by have := (h.vs.lt j e).1; omega)).setCell (p := ⟨w.heap.size + 2, 3, none⟩) (by show w.heap.size ≤ w.heap.size + 2; omega) lv', ?_⟩
  intro q x T' hx hT'
  rcases Nat.lt_or_ge q M.length with hq | hq
  · rw [List.getElem?_append_left hq] at hx
    exact ⟨(h.ps q x T' hx hT').1.keep hkeep, (h.ps q x T' hx hT').2⟩
  · rw [List.getElem?_append_right hq] at hx
    obtain rfl : q = M.length := by
      have := (List.getElem?_eq_some_iff.1 hx).1
      simp at this
      omega
    simp at hx
    subst hx
    rw [hT] at hT'
    cases hT'
    exact ⟨hy.keep hkeep, hy2, hy3⟩

theorem OfJQ.lies {N : Nat} {w W : World} {k : Int} {s : ByteArray} {kv iv lv : Value} {L : List JT} {M : List JC} (h : OfJQ N w W k s kv iv lv L M) (hN : N ≤ w.heap.size) (b : Nat) (hb : b < N ∨ W.heap.size ≤ b) : LiesQ N w lv b := by
  have hV := h.box.lt
  refine ⟨?_, fun e => ?_⟩
  · rcases hb with h | h
    · exact .inl h
    · exact .inr (by omega)
  · have := h.vs.lt b e
    rcases hb with h | h <;> omega
theorem OfJQ.mid {N : Nat} {w W W' : World} {k : Int} {s : ByteArray} {kv iv lv : Value} {L : List JT} {M : List JC} (h : OfJQ N w W k s kv iv lv L M) (hg : W.grownBy W' lv.ownBlock) : BoxC W' w.heap.size 25 #[.int .i64 k, .string s, kv, iv] ∧ Below w.heap.size w W' ∧ BoxC W' (w.heap.size + 2) 51 #[.int .i64 k, .string s, kv, lv] :=
  ⟨h.inb.kept hg (fun e => by have := (h.vs.lt _ e.symm).1; omega), h.low.grown hg h.low.size (fun j e => by have := (h.vs.lt j e).1; omega), h.box.kept hg (fun e => by have := (h.vs.lt _ e.symm).1; omega)⟩
theorem OfJQ.tree {N : Nat} {w W : World} {k : Int} {s : ByteArray} {kv iv lv : Value} {K : List ByteArray} {L : List JT} {M : List JC} (h : OfJQ N w W k s kv iv lv L M) (hM : M.length = L.length) (hN : N ≤ w.heap.size) (hK : StrsS w (fun b => b < N) kv K) (x' y' z' u' : Value) :
    TIn ((((W.setCell ⟨w.heap.size + 1, 0, none⟩ x').setCell ⟨w.heap.size + 1, 1, none⟩ y').setCell ⟨w.heap.size + 1, 2, none⟩ z').setCell ⟨w.heap.size + 1, 3, none⟩ u') (fun b => b < N ∨ w.heap.size ≤ b) (k, s, kv, lv) (.mk k s K L) := by
  obtain ⟨ya, yc, hlv, _⟩ := h.vs.len
  have hown := h.vs
  have hps := h.ps
  rw [hM] at hlv
  subst hlv
  have hk : ∀ b, b ≠ w.heap.size + 1 → ((((W.setCell ⟨w.heap.size + 1, 0, none⟩ x').setCell ⟨w.heap.size + 1, 1, none⟩ y').setCell ⟨w.heap.size + 1, 2, none⟩ z').setCell ⟨w.heap.size + 1, 3, none⟩ u').heap[b]? = W.heap[b]? := fun b hb => by
    rw [Below.heap_setCell _ ⟨w.heap.size + 1, 3, none⟩ u' b hb, Below.heap_setCell _ ⟨w.heap.size + 1, 2, none⟩ z' b hb, Below.heap_setCell _ ⟨w.heap.size + 1, 1, none⟩ y' b hb, Below.heap_setCell _ ⟨w.heap.size + 1, 0, none⟩ x' b hb]
  generalize ((((W.setCell ⟨w.heap.size + 1, 0, none⟩ x').setCell ⟨w.heap.size + 1, 1, none⟩ y').setCell ⟨w.heap.size + 1, 2, none⟩ z').setCell ⟨w.heap.size + 1, 3, none⟩ u') = W' at *
  have hex : ∀ i (h : i < L.length), M[i]? = some (M[i]'(by omega)) := fun i h => List.getElem?_eq_getElem (by omega)
  refine .mk k s kv ya yc K L (fun i => (M[i]?).getD (0, ⟨#[]⟩, kv, kv)) (hK.keep fun b hs hlt => ⟨.inl hs, (hk b (by omega)).trans (h.low.block b hlt)⟩) (fun i hi => ?_) (fun i hi => ?_) (fun i hi => ?_)
  · obtain ⟨g, hg, hcl⟩ := hown.cell (hex i hi)
    subst hg
    have hlow := (hown.lt g rfl).1
    refine ⟨g, 0, rfl, .inr (by omega), fun r hr => ?_⟩
    rw [hex i hi, Nat.zero_add]
    exact (World.cell?_of_block (a := ⟨g, i * 4 + r, none⟩) (hk g (by omega))).trans (hcl r hr)
  · rw [hex i hi]
    exact (hps i _ _ (hex i hi) (List.getElem?_eq_getElem hi)).2
  · rw [hex i hi]
    refine (hps i _ _ (hex i hi) (List.getElem?_eq_getElem hi)).1.keep fun b hs hlt => ⟨?_, hk b ?_⟩
    · rcases hs.1 with h | h
      · exact .inl h
      · exact .inr (by omega)
    · rcases hs.1 with h | h
      · omega
      · omega

/-- What it answers. -/
def OfRQ (N : Nat) (w : World) (T : JT) (e : Ending) (w' : World) : Prop := ∃ x : JC, e = .returned (vagg x) ∧ Below w.heap.size w w' ∧ TIn w' (fun b => b < N ∨ w.heap.size ≤ b) x T ∧ IsSl x.2.2.1 ∧ IsSl x.2.2.2

set_option maxHeartbeats 16000000 in
theorem of_any {W : World} {S : Nat → Prop} {x : JC} {T : JT} (h : TIn W S x T) (hl : LtT T) : ∀ (w : World), Below W.heap.size W w → Calls Tryd.prog 18 #[vagg x] w (OfRQ W.heap.size w T) := by
  induction h with
  | mk k s kv la lc K L xs hK hc hsl ht ih =>
    intro w hW
    obtain ⟨_, _, _, _, hKl, hLl, hsz, hll⟩ := hl
    unfold vagg
    simp only
    have hNw := hW.size
    have hKk := hK.keep (W' := w) (S' := fun b => b < W.heap.size) (fun b _ hlt => ⟨hlt, hW.block b hlt⟩)
    obtain ⟨ka, kc, rfl, hKc⟩ := hK
    obtain ⟨kn, hkn⟩ : ∃ kn, K.length = kn := ⟨_, rfl⟩
    obtain ⟨ln, hln⟩ : ∃ ln, L.length = ln := ⟨_, rfl⟩
    rw [hkn] at hKk
    rw [hln] at hLl hc hsl
    rw [hkn, hln]
    have HI : Hid (OfJQ W.heap.size w (((w.alloc (.cells #[.int .i64 k, .string s, .slice ka kn kc, .slice la ln lc] 25)).alloc (.cells #[.int .i64 0, .string ⟨#[]⟩, .slice none 0 0, .slice none 0 0] 51)).alloc (.cells #[.int .i64 k, .string s, .slice ka kn kc, .slice none 0 0] 51)) k s (.slice ka kn kc) (.slice la ln lc) (.slice none 0 0) L []) := by
      have h1 := BoxC.new w 25 #[.int .i64 k, .string s, .slice ka kn kc, .slice la ln lc]
      have h2 := BoxC.new (w.alloc (.cells #[.int .i64 k, .string s, .slice ka kn kc, .slice la ln lc] 25)) 51 #[.int .i64 0, .string ⟨#[]⟩, .slice none 0 0, .slice none 0 0]
      have h3 := BoxC.new ((w.alloc (.cells #[.int .i64 k, .string s, .slice ka kn kc, .slice la ln lc] 25)).alloc (.cells #[.int .i64 0, .string ⟨#[]⟩, .slice none 0 0, .slice none 0 0] 51)) 51 #[.int .i64 k, .string s, .slice ka kn kc, .slice none 0 0]
      simp only [World.size_alloc] at h2 h3
      exact ⟨(h1.alloc _).alloc _, h2.alloc _, h3, ownQ_nil _ _, ((bel w _).alloc (by simp) _).alloc (by simp only [World.size_alloc]; omega) _, fun q x T hx => by simp at hx⟩
    have HPS : Hid (∀ w2, Below w.heap.size w w2 → ∀ i, i < ln → ∃ b off, la = some ⟨b, off, none⟩ ∧ ∀ r, r < 4 → w2.cell? ⟨b, off + (i * 4 + r), none⟩ = (vcell (xs i))[r]?) := fun w2 h2 i hi => by
      obtain ⟨b, off, e, _, hx⟩ := hc i hi
      have hW2 := hW.trans (h2.mono hW.size)
      refine ⟨b, off, e, fun r hr => ?_⟩
      have h0 := hx 0 (by omega)
      simp only [vcell, List.getElem?_cons_zero] at h0
      exact (hW2.cell (p := ⟨b, off + (i * 4 + r), none⟩) (block_lt h0)).trans (hx r hr)
    have HIH : Hid (∀ i (hi : i < L.length) w2, Below w.heap.size w w2 → Calls Tryd.prog 18 #[vagg (xs i)] w2 (OfRQ W.heap.size w2 L[i])) := fun i hi w2 h2 => ih i hi (hll i hi) w2 (hW.trans (h2.mono hW.size))
    have HSL := hide hsl
    have HKK := hide hKk
    have HNW := hide hNw
    have HKN := hide hkn
    have HLN := hide hln
    have HLL := hide hLl
    clear hKc hc hsl ht ih hll hsz hKl hKk hNw hkn hln hLl hW
    go_enter Tryd.func18, Tryd.ntmps18
    go_wp2
    go_loopw [4] (fun iv wr => ∃ (i : Nat) (lv : Value) (M : List JC), i ≤ ln ∧ iv = .int .i64 (i : Int) ∧ M.length = i ∧ OfJQ W.heap.size w wr k s (.slice ka kn kc) (.slice la ln lc) lv L M) (fun iv _ => ln - (RowKit.intOf iv).toNat)
    case atStart => exact ⟨0, _, [], Nat.zero_le _, rfl, rfl, HI.out⟩
    case round =>
      obtain ⟨i, lv, M, hi, rfl, hM, hm⟩ := hrel
      have v3 : wr.cell? ⟨w.heap.size, 3, none⟩ = some (.slice la ln lc) := hm.inb.cell 3
      obtain ⟨ya, yc, hlv, _⟩ := hm.vs.len
      have HMI := hide hM
      have HNI := hide hi
      have HM0 := hide hm
      clear HI hm hM
      subst hlv
      obtain ⟨yl, hyl⟩ : ∃ yl, M.length = yl := ⟨_, rfl⟩
      rw [hyl] at HM0
      have HYL := hide hyl
      clear hyl
      by_cases hlt : i < ln
      · obtain ⟨b, off, rfl, _⟩ := HPS.out w (Below.refl _ _) i hlt
        obtain ⟨hs2, hs3⟩ := HSL.out i hlt
        obtain ⟨Ti, hTi⟩ : ∃ Ti, L[i]? = some Ti := ⟨L[i]'(by have := HLN.out; omega), List.getElem?_eq_getElem _⟩
        have hcall : ∀ w2, Below w.heap.size w w2 → Calls Tryd.prog 18 #[vagg (xs i)] w2 (OfRQ W.heap.size w2 Ti) := fun w2 h2 => by
          obtain ⟨h, rfl⟩ := List.getElem?_eq_some_iff.1 hTi
          exact HIH.out i h w2 h2
        have hparts : ∀ w2, Below w.heap.size w w2 → ∀ r, r < 4 → w2.cell? ⟨b, off + (i * 4 + r), none⟩ = (vcell (xs i))[r]? := fun w2 h2 => by
          obtain ⟨b', off', e, h⟩ := HPS.out w2 h2 i hlt
          cases e
          exact h
        generalize xs i = y at *
        obtain ⟨yk, ys, yK, yL⟩ := y
        simp only [vagg, vcell] at hcall hparts hs2 hs3
        obtain ⟨ka', kl', kc', rfl⟩ := hs2
        obtain ⟨la', ll', lc', rfl⟩ := hs3
        have HSX : Hid (∀ X0 : World, BoxC X0 w.heap.size 25 #[.int .i64 k, .string s, .slice ka kn kc, .slice (some ⟨b, off, none⟩) ln lc] → Below w.heap.size w X0 → (X0.cell? ⟨w.heap.size, 3, none⟩ = some (.slice (some ⟨b, off, none⟩) ln lc) ∧ X0.cell? ⟨b, off + i * 4, none⟩ = some (.int .i64 yk) ∧ X0.cell? ⟨b, off + i * 4 + 1, none⟩ = some (.string ys) ∧ X0.cell? ⟨b, off + i * 4 + 2, none⟩ = some (.slice ka' kl' kc') ∧ X0.cell? ⟨b, off + i * 4 + 3, none⟩ = some (.slice la' ll' lc'))) := fun X0 h1 h2 => by
          have x0 := hparts X0 h2 0 (by omega)
          have x1 := hparts X0 h2 1 (by omega)
          have x2 := hparts X0 h2 2 (by omega)
          have x3 := hparts X0 h2 3 (by omega)
          simp only [List.getElem?_cons_zero, List.getElem?_cons_succ, ← Nat.add_assoc, Nat.add_zero] at x0 x1 x2 x3
          exact ⟨h1.cell 3, x0, x1, x2, x3⟩
        have HCALL := hide hcall
        have HTI := hide hTi
        obtain ⟨i1, hi1⟩ : ∃ i1, i + 1 = i1 := ⟨_, rfl⟩
        have e1 : (i : Int) + 1 = (i1 : Int) := by omega
        have g1 : (i1 : Int) ≤ 1000000000 := by have := HLL.out; omega
        have d1 : (i : Int) < (ln : Int) := by omega
        have d0 : (0 : Int) ≤ (i : Int) := by omega
        have HI1 := hide hi1
        have HIL := hide hlt
        clear hcall hTi hi1 hlt hi hparts
        go_upto_region 5 with fail
        refine wp_region_held_drew (S := fun X0 : World => X0.cell? ⟨w.heap.size, 3, none⟩ = some (.slice (some ⟨b, off, none⟩) ln lc) ∧ X0.cell? ⟨b, off + i * 4, none⟩ = some (.int .i64 yk) ∧ X0.cell? ⟨b, off + i * 4 + 1, none⟩ = some (.string ys) ∧ X0.cell? ⟨b, off + i * 4 + 2, none⟩ = some (.slice ka' kl' kc') ∧ X0.cell? ⟨b, off + i * 4 + 3, none⟩ = some (.slice la' ll' lc')) (by kernel_rfl) (HSX.out _ HM0.out.inb HM0.out.low.drew) (fun hHeld => ?_)
        have hdr : Below wr.heap.size wr wr.drew := (Below.refl _ _).drew
        have HMD := hide (HM0.out.below hdr)
        clear hdr v3
        generalize wr.drew = w8 at *
        refine takeD (i := 0) (v := ?v1) (some 19) rfl (by kernel_rfl) (by kernel_rfl) (by kernel_rfl) (fun _ _ _ h => h) (Or.inl ⟨by rfl, ?hy1⟩) (HSX.out _ HMD.out.inb HMD.out.low) (by rfl) ?rest1
        case hy1 => first | (intro w hSw; (try dsimp only at hSw); obtain ⟨s0, s1, s2, s3, s4⟩ := hSw; go_simp; done) | (intro w hSw; (try dsimp only at hSw); obtain ⟨s0, s1, s2, s3, s4⟩ := hSw; go_simp; with_reducible rfl)
        try simp only [Act.put, List.setIfInBounds_toArray, List.set_cons_zero, List.set_cons_succ, vagg]
        refine takeD (i := 2) (v := ?v2) (some 21) rfl (by kernel_rfl) (by kernel_rfl) (by kernel_rfl) (fun _ _ _ h => h) (Or.inl ⟨by rfl, ?hy2⟩) (HSX.out _ HMD.out.inb HMD.out.low) (by rfl) ?rest2
        case hy2 => first | (intro w hSw; (try dsimp only at hSw); obtain ⟨s0, s1, s2, s3, s4⟩ := hSw; go_simp; done) | (intro w hSw; (try dsimp only at hSw); obtain ⟨s0, s1, s2, s3, s4⟩ := hSw; go_simp; with_reducible rfl)
        try simp only [Act.put, List.setIfInBounds_toArray, List.set_cons_zero, List.set_cons_succ, vagg]
        refine takeD (i := 3) (v := ?v3) (some 22) rfl (by kernel_rfl) (by kernel_rfl) (by kernel_rfl) (fun _ _ _ h => h) (Or.inl ⟨by rfl, ?hy3⟩) (HSX.out _ HMD.out.inb HMD.out.low) (by rfl) ?rest3
        case hy3 => first | (intro w hSw; (try dsimp only at hSw); obtain ⟨s0, s1, s2, s3, s4⟩ := hSw; go_simp; done) | (intro w hSw; (try dsimp only at hSw); obtain ⟨s0, s1, s2, s3, s4⟩ := hSw; go_simp; with_reducible rfl)
        try simp only [Act.put, List.setIfInBounds_toArray, List.set_cons_zero, List.set_cons_succ, vagg]
        refine takeD (i := 4) (v := ?v4) (some 23) rfl (by kernel_rfl) (by kernel_rfl) (by kernel_rfl) (fun _ _ _ h => h) (Or.inl ⟨by rfl, ?hy4⟩) (HSX.out _ HMD.out.inb HMD.out.low) (by rfl) ?rest4
        case hy4 => first | (intro w hSw; (try dsimp only at hSw); obtain ⟨s0, s1, s2, s3, s4⟩ := hSw; go_simp; done) | (intro w hSw; (try dsimp only at hSw); obtain ⟨s0, s1, s2, s3, s4⟩ := hSw; go_simp; with_reducible rfl)
        try simp only [Act.put, List.setIfInBounds_toArray, List.set_cons_zero, List.set_cons_succ, vagg]
        refine takeD (i := 5) (v := ?v5) (some 24) rfl (by kernel_rfl) (by kernel_rfl) (by kernel_rfl) (fun _ _ _ h => h) (Or.inl ⟨by rfl, ?hy5⟩) (HSX.out _ HMD.out.inb HMD.out.low) (by rfl) ?rest5
        case hy5 => first | (intro w hSw; (try dsimp only at hSw); obtain ⟨s0, s1, s2, s3, s4⟩ := hSw; go_simp; done) | (intro w hSw; (try dsimp only at hSw); obtain ⟨s0, s1, s2, s3, s4⟩ := hSw; go_simp; with_reducible rfl)
        try simp only [Act.put, List.setIfInBounds_toArray, List.set_cons_zero, List.set_cons_succ, vagg]
        refine takeD (i := 6) (v := ?v6) (some 25) rfl (by kernel_rfl) (by kernel_rfl) (by kernel_rfl) (fun _ _ _ h => h) (Or.inl ⟨by rfl, ?hy6⟩) (HSX.out _ HMD.out.inb HMD.out.low) (by rfl) ?rest6
        case hy6 => first | (intro w hSw; (try dsimp only at hSw); obtain ⟨s0, s1, s2, s3, s4⟩ := hSw; go_simp; done) | (intro w hSw; (try dsimp only at hSw); obtain ⟨s0, s1, s2, s3, s4⟩ := hSw; go_simp; with_reducible rfl)
        try simp only [Act.put, List.setIfInBounds_toArray, List.set_cons_zero, List.set_cons_succ, vagg]
        refine wpAnyH_ready (rs := [1, 7]) (by kernel_rfl) (by simp) ?_
        refine AllReadyH.cons rfl (fun K hK => ?_) (AllReadyH.cons rfl (fun K hK => ?_) AllReadyH.nil)
        · have clw : w8.cell? ⟨w.heap.size + 2, 3, none⟩ = some (.slice ya yl yc) := HMD.out.box.cell 3
          go_simp
          refine hK.out _ _ (HSX.out _ HMD.out.inb HMD.out.low) (fun _ => ?_)
          clear hK K clw
          try simp only [Act.put, List.setIfInBounds_toArray, List.set_cons_zero, List.set_cons_succ, vagg]
          refine wpAnyH_ready (rs := [7]) (by kernel_rfl) (by simp) ?_
          refine AllReadyH.cons rfl (fun K hK => ?_) AllReadyH.nil
          go_simp
          refine (HCALL.out w8 HMD.out.low).mono ?_
          rintro e w4 ⟨x', rfl, hB4, hT4, hs4, hs5⟩
          obtain ⟨xk, xs', xK, xL⟩ := x'
          simp only at hs4 hs5
          obtain ⟨pa, pn, pc, rfl⟩ := hs4
          obtain ⟨qa, qn, qc, rfl⟩ := hs5
          have HM4 := hide (HMD.out.below hB4)
          have HT4 := hide (hT4.keep (W' := w4) (fun b h _ => And.intro (HMD.out.lies HNW.out b h) rfl))
          refine hK.out _ _ (HSX.out _ HM4.out.inb HM4.out.low) (fun _ => ?_)
          clear hK K hB4 hT4
          try simp only [Act.put, List.setIfInBounds_toArray, List.set_cons_zero, List.set_cons_succ, vagg]
          refine wpAnyH_ready (rs := [8]) (by kernel_rfl) (by simp) ?_
          refine AllReadyH.cons rfl (fun K hK => ?_) AllReadyH.nil
          go_simp
          have hbl := bel w4 (.cells #[.int .i64 xk, .string xs', .slice pa pn pc, .slice qa qn qc] 51)
          have hbx := BoxC.new w4 51 #[.int .i64 xk, .string xs', .slice pa pn pc, .slice qa qn qc]
          have HM5 := hide (HM4.out.below hbl)
          have HT5 := hide (HT4.out.bel hbl)
          refine hK.out _ _ (HSX.out _ HM5.out.inb HM5.out.low) (fun _ => ?_)
          clear hK K hbl
          try simp only [Act.put, List.setIfInBounds_toArray, List.set_cons_zero, List.set_cons_succ, vagg]
          generalize hBn : w4.heap.size = BN at *
          generalize hw5 : w4.alloc (.cells #[.int .i64 xk, .string xs', .slice pa pn pc, .slice qa qn qc] 51) = w5 at *
          have HBX := hide hbx
          clear hbx hw5
          refine wpAnyH_ready (rs := [9]) (by kernel_rfl) (by simp) ?_
          refine AllReadyH.cons rfl (fun K hK => ?_) AllReadyH.nil
          refine wp_appQ _ (.tmp 20) (.tmp 27) rfl (w.heap.size + 3) (.slice ya yl yc) M rfl HM5.out.vs BN _ (xk, xs', .slice pa pn pc, .slice qa qn qc) rfl HBX.out ⟨rfl, rfl⟩ (by have := HMI.out; have := HLL.out; have := HIL.out; omega) (by have := HM5.out.box.lt; omega) ?_
          intro lv' w6 hown hgrow hrow
          obtain ⟨va, vn, vc, rfl⟩ := hown.slice
          have hm6 := HM5.out.put HNW.out hgrow hown hrow (by rw [HMI.out]; exact HTI.out) HT5.out ⟨_, _, _, rfl⟩ ⟨_, _, _, rfl⟩
          obtain ⟨hi6, hl6, hx6⟩ := HM5.out.mid hgrow
          have lV6 := hx6.lt
          have cV6 : w6.cell? ⟨w.heap.size + 2, 3, none⟩ = some (.slice ya yl yc) := hx6.cell 3
          have fV6 : w6.frozen? ⟨w.heap.size + 2, 3, none⟩ = false := hx6.frozen 3
          have HM6 := hide hm6
          have HI6 := hide hi6
          have HL6 := hide hl6
          refine hK.out _ _ (HSX.out _ HI6.out HL6.out) (fun _ => ?_)
          clear hK K hown hgrow hrow hm6 hi6 hl6 hx6
          try simp only [Act.put, List.setIfInBounds_toArray, List.set_cons_zero, List.set_cons_succ, vagg]
          refine takeD (i := 10) (v := ?v7) (some 29) rfl (by kernel_rfl) (by kernel_rfl) (by kernel_rfl) (fun _ _ _ h => h) (Or.inl ⟨by rfl, ?hy7⟩) (HSX.out _ HI6.out HL6.out) (by rfl) ?rest7
          case hy7 => first | (intro w hSw; (try dsimp only at hSw); obtain ⟨s0, s1, s2, s3, s4⟩ := hSw; go_simp; done) | (intro w hSw; (try dsimp only at hSw); obtain ⟨s0, s1, s2, s3, s4⟩ := hSw; go_simp; with_reducible rfl)
          try simp only [Act.put, List.setIfInBounds_toArray, List.set_cons_zero, List.set_cons_succ, vagg]
          refine wpAnyH_ready (rs := [11]) (by kernel_rfl) (by simp) ?_
          refine AllReadyH.cons rfl (fun K hK => ?_) AllReadyH.nil
          go_simp
          refine hK.out _ _ (HSX.out _ HM6.out.inb HM6.out.low) (fun _ => ?_)
          clear hK K
          try simp only [Act.put, List.setIfInBounds_toArray, List.set_cons_zero, List.set_cons_succ, vagg]
          refine wpAnyH_done (by kernel_rfl) ?_ _
          go_wp2
          go_roundw
          case rel =>
            refine ⟨i1, .slice va vn vc, _, by have := HIL.out; have := HI1.out; omega, by first | rfl | go_num, ?_, HM6.out⟩
            rw [List.length_append, HMI.out, ← HI1.out]
            rfl
          case measure => have := HIL.out; have := HI1.out; simp [RowKit.intOf]; omega
        · go_simp
          refine (HCALL.out w8 HMD.out.low).mono ?_
          rintro e w4 ⟨x', rfl, hB4, hT4, hs4, hs5⟩
          obtain ⟨xk, xs', xK, xL⟩ := x'
          simp only at hs4 hs5
          obtain ⟨pa, pn, pc, rfl⟩ := hs4
          obtain ⟨qa, qn, qc, rfl⟩ := hs5
          have HM4 := hide (HMD.out.below hB4)
          have HT4 := hide (hT4.keep (W' := w4) (fun b h _ => And.intro (HMD.out.lies HNW.out b h) rfl))
          refine hK.out _ _ (HSX.out _ HM4.out.inb HM4.out.low) (fun _ => ?_)
          clear hK K hB4 hT4
          try simp only [Act.put, List.setIfInBounds_toArray, List.set_cons_zero, List.set_cons_succ, vagg]
          refine wpAnyH_ready (rs := [1, 8]) (by kernel_rfl) (by simp) ?_
          refine AllReadyH.cons rfl (fun K hK => ?_) (AllReadyH.cons rfl (fun K hK => ?_) AllReadyH.nil)
          · have clw : w4.cell? ⟨w.heap.size + 2, 3, none⟩ = some (.slice ya yl yc) := HM4.out.box.cell 3
            go_simp
            refine hK.out _ _ (HSX.out _ HM4.out.inb HM4.out.low) (fun _ => ?_)
            clear hK K clw
            try simp only [Act.put, List.setIfInBounds_toArray, List.set_cons_zero, List.set_cons_succ, vagg]
            refine wpAnyH_ready (rs := [8]) (by kernel_rfl) (by simp) ?_
            refine AllReadyH.cons rfl (fun K hK => ?_) AllReadyH.nil
            go_simp
            have hbl := bel w4 (.cells #[.int .i64 xk, .string xs', .slice pa pn pc, .slice qa qn qc] 51)
            have hbx := BoxC.new w4 51 #[.int .i64 xk, .string xs', .slice pa pn pc, .slice qa qn qc]
            have HM5 := hide (HM4.out.below hbl)
            have HT5 := hide (HT4.out.bel hbl)
            refine hK.out _ _ (HSX.out _ HM5.out.inb HM5.out.low) (fun _ => ?_)
            clear hK K hbl
            try simp only [Act.put, List.setIfInBounds_toArray, List.set_cons_zero, List.set_cons_succ, vagg]
            generalize hBn : w4.heap.size = BN at *
            generalize hw5 : w4.alloc (.cells #[.int .i64 xk, .string xs', .slice pa pn pc, .slice qa qn qc] 51) = w5 at *
            have HBX := hide hbx
            clear hbx hw5
            refine wpAnyH_ready (rs := [9]) (by kernel_rfl) (by simp) ?_
            refine AllReadyH.cons rfl (fun K hK => ?_) AllReadyH.nil
            refine wp_appQ _ (.tmp 20) (.tmp 27) rfl (w.heap.size + 3) (.slice ya yl yc) M rfl HM5.out.vs BN _ (xk, xs', .slice pa pn pc, .slice qa qn qc) rfl HBX.out ⟨rfl, rfl⟩ (by have := HMI.out; have := HLL.out; have := HIL.out; omega) (by have := HM5.out.box.lt; omega) ?_
            intro lv' w6 hown hgrow hrow
            obtain ⟨va, vn, vc, rfl⟩ := hown.slice
            have hm6 := HM5.out.put HNW.out hgrow hown hrow (by rw [HMI.out]; exact HTI.out) HT5.out ⟨_, _, _, rfl⟩ ⟨_, _, _, rfl⟩
            obtain ⟨hi6, hl6, hx6⟩ := HM5.out.mid hgrow
            have lV6 := hx6.lt
            have cV6 : w6.cell? ⟨w.heap.size + 2, 3, none⟩ = some (.slice ya yl yc) := hx6.cell 3
            have fV6 : w6.frozen? ⟨w.heap.size + 2, 3, none⟩ = false := hx6.frozen 3
            have HM6 := hide hm6
            have HI6 := hide hi6
            have HL6 := hide hl6
            refine hK.out _ _ (HSX.out _ HI6.out HL6.out) (fun _ => ?_)
            clear hK K hown hgrow hrow hm6 hi6 hl6 hx6
            try simp only [Act.put, List.setIfInBounds_toArray, List.set_cons_zero, List.set_cons_succ, vagg]
            refine takeD (i := 10) (v := ?v8) (some 29) rfl (by kernel_rfl) (by kernel_rfl) (by kernel_rfl) (fun _ _ _ h => h) (Or.inl ⟨by rfl, ?hy8⟩) (HSX.out _ HI6.out HL6.out) (by rfl) ?rest8
            case hy8 => first | (intro w hSw; (try dsimp only at hSw); obtain ⟨s0, s1, s2, s3, s4⟩ := hSw; go_simp; done) | (intro w hSw; (try dsimp only at hSw); obtain ⟨s0, s1, s2, s3, s4⟩ := hSw; go_simp; with_reducible rfl)
            try simp only [Act.put, List.setIfInBounds_toArray, List.set_cons_zero, List.set_cons_succ, vagg]
            refine wpAnyH_ready (rs := [11]) (by kernel_rfl) (by simp) ?_
            refine AllReadyH.cons rfl (fun K hK => ?_) AllReadyH.nil
            go_simp
            refine hK.out _ _ (HSX.out _ HM6.out.inb HM6.out.low) (fun _ => ?_)
            clear hK K
            try simp only [Act.put, List.setIfInBounds_toArray, List.set_cons_zero, List.set_cons_succ, vagg]
            refine wpAnyH_done (by kernel_rfl) ?_ _
            go_wp2
            go_roundw
            case rel =>
              refine ⟨i1, .slice va vn vc, _, by have := HIL.out; have := HI1.out; omega, by first | rfl | go_num, ?_, HM6.out⟩
              rw [List.length_append, HMI.out, ← HI1.out]
              rfl
            case measure => have := HIL.out; have := HI1.out; simp [RowKit.intOf]; omega
          · go_simp
            have hbl := bel w4 (.cells #[.int .i64 xk, .string xs', .slice pa pn pc, .slice qa qn qc] 51)
            have hbx := BoxC.new w4 51 #[.int .i64 xk, .string xs', .slice pa pn pc, .slice qa qn qc]
            have HM5 := hide (HM4.out.below hbl)
            have HT5 := hide (HT4.out.bel hbl)
            refine hK.out _ _ (HSX.out _ HM5.out.inb HM5.out.low) (fun _ => ?_)
            clear hK K hbl
            try simp only [Act.put, List.setIfInBounds_toArray, List.set_cons_zero, List.set_cons_succ, vagg]
            generalize hBn : w4.heap.size = BN at *
            generalize hw5 : w4.alloc (.cells #[.int .i64 xk, .string xs', .slice pa pn pc, .slice qa qn qc] 51) = w5 at *
            have HBX := hide hbx
            clear hbx hw5
            refine wpAnyH_ready (rs := [1]) (by kernel_rfl) (by simp) ?_
            refine AllReadyH.cons rfl (fun K hK => ?_) AllReadyH.nil
            have clw : w5.cell? ⟨w.heap.size + 2, 3, none⟩ = some (.slice ya yl yc) := HM5.out.box.cell 3
            go_simp
            refine hK.out _ _ (HSX.out _ HM5.out.inb HM5.out.low) (fun _ => ?_)
            clear hK K clw
            try simp only [Act.put, List.setIfInBounds_toArray, List.set_cons_zero, List.set_cons_succ, vagg]
            refine wpAnyH_ready (rs := [9]) (by kernel_rfl) (by simp) ?_
            refine AllReadyH.cons rfl (fun K hK => ?_) AllReadyH.nil
            refine wp_appQ _ (.tmp 20) (.tmp 27) rfl (w.heap.size + 3) (.slice ya yl yc) M rfl HM5.out.vs BN _ (xk, xs', .slice pa pn pc, .slice qa qn qc) rfl HBX.out ⟨rfl, rfl⟩ (by have := HMI.out; have := HLL.out; have := HIL.out; omega) (by have := HM5.out.box.lt; omega) ?_
            intro lv' w6 hown hgrow hrow
            obtain ⟨va, vn, vc, rfl⟩ := hown.slice
            have hm6 := HM5.out.put HNW.out hgrow hown hrow (by rw [HMI.out]; exact HTI.out) HT5.out ⟨_, _, _, rfl⟩ ⟨_, _, _, rfl⟩
            obtain ⟨hi6, hl6, hx6⟩ := HM5.out.mid hgrow
            have lV6 := hx6.lt
            have cV6 : w6.cell? ⟨w.heap.size + 2, 3, none⟩ = some (.slice ya yl yc) := hx6.cell 3
            have fV6 : w6.frozen? ⟨w.heap.size + 2, 3, none⟩ = false := hx6.frozen 3
            have HM6 := hide hm6
            have HI6 := hide hi6
            have HL6 := hide hl6
            refine hK.out _ _ (HSX.out _ HI6.out HL6.out) (fun _ => ?_)
            clear hK K hown hgrow hrow hm6 hi6 hl6 hx6
            try simp only [Act.put, List.setIfInBounds_toArray, List.set_cons_zero, List.set_cons_succ, vagg]
            refine takeD (i := 10) (v := ?v9) (some 29) rfl (by kernel_rfl) (by kernel_rfl) (by kernel_rfl) (fun _ _ _ h => h) (Or.inl ⟨by rfl, ?hy9⟩) (HSX.out _ HI6.out HL6.out) (by rfl) ?rest9
            case hy9 => first | (intro w hSw; (try dsimp only at hSw); obtain ⟨s0, s1, s2, s3, s4⟩ := hSw; go_simp; done) | (intro w hSw; (try dsimp only at hSw); obtain ⟨s0, s1, s2, s3, s4⟩ := hSw; go_simp; with_reducible rfl)
            try simp only [Act.put, List.setIfInBounds_toArray, List.set_cons_zero, List.set_cons_succ, vagg]
            refine wpAnyH_ready (rs := [11]) (by kernel_rfl) (by simp) ?_
            refine AllReadyH.cons rfl (fun K hK => ?_) AllReadyH.nil
            go_simp
            refine hK.out _ _ (HSX.out _ HM6.out.inb HM6.out.low) (fun _ => ?_)
            clear hK K
            try simp only [Act.put, List.setIfInBounds_toArray, List.set_cons_zero, List.set_cons_succ, vagg]
            refine wpAnyH_done (by kernel_rfl) ?_ _
            go_wp2
            go_roundw
            case rel =>
              refine ⟨i1, .slice va vn vc, _, by have := HIL.out; have := HI1.out; omega, by first | rfl | go_num, ?_, HM6.out⟩
              rw [List.length_append, HMI.out, ← HI1.out]
              rfl
            case measure => have := HIL.out; have := HI1.out; simp [RowKit.intOf]; omega
      · obtain rfl : i = ln := by omega
        have d1 : ¬ (i : Int) < (i : Int) := by omega
        have z0 := HM0.out.box.cell 0
        have z1 := HM0.out.box.cell 1
        have z2 := HM0.out.box.cell 2
        have z3 := HM0.out.box.cell 3
        have x0 := HM0.out.res.cell 0
        have x1 := HM0.out.res.cell 1
        have x2 := HM0.out.res.cell 2
        have x3 := HM0.out.res.cell 3
        simp only [List.getElem?_toArray, List.getElem?_cons_zero, List.getElem?_cons_succ] at z0 z1 z2 z3 x0 x1 x2 x3
        have y0 := HM0.out.res.frozen 0
        have y1 := HM0.out.res.frozen 1
        have y2 := HM0.out.res.frozen 2
        have y3 := HM0.out.res.frozen 3
        have lX := HM0.out.res.lt
        have lV := HM0.out.box.lt
        clear hlt hi
        go_wp2
        refine bodyPost_ret (results_rv rfl rfl (resJ_v HM0.out.res (.int .i64 k) (.string s) (.slice ka kn kc) (.slice ya yl yc))) rfl ?_
        exact ⟨(k, s, .slice ka kn kc, .slice ya yl yc), rfl, below4 HM0.out.low (Nat.le_succ _) _ _ _ _, HM0.out.tree (by rw [HMI.out, HLN.out]) HNW.out HKK.out _ _ _ _, ⟨_, _, _, rfl⟩, ⟨_, _, _, rfl⟩⟩

end Go.Proofs.YtacgocfgcoejpaaDoor
