/- Json: clone: a tree, copied. -/
import Derived.Test.YtcedcbonphgecaaDoorJClo0
namespace Go.Proofs.YtcedcbonphgecaaDoor
set_option linter.unusedVariables false
set_option linter.unusedSimpArgs false
set_option maxRecDepth 100000
open Go Go.RowKit Go.Shelf Go.Lib

/-- A copy under way: so many parts are copied already. -/
structure CloJ (w W : World) (k : Int) (s : ByteArray) (kv : Value) (la : Option Addr) (lc g n i : Nat) (ys xs : Nat → JC) (K : List ByteArray) (L : List JT) : Prop where
  box : BoxC W w.heap.size 27 #[.int .i64 k, .string s, kv, .slice la n lc]
  res : BoxC W (w.heap.size + 1) 27 #[.int .i64 0, .string ⟨#[]⟩, .slice none 0 0, .slice none 0 0]
  low : Below w.heap.size w W
  keys : StrsS W (fun b => w.heap.size + 2 ≤ b ∧ b ≠ g) kv K
  row : 0 < n → la = some ⟨g, 0, none⟩ ∧ w.heap.size + 2 ≤ g ∧ RowV W g n ys
  old : ∀ j, i ≤ j → j < n → ys j = xs j
  new : ∀ (j : Nat) (T : JT), j < i → L[j]? = some T → TIn W (fun b => w.heap.size + 2 ≤ b ∧ b ≠ g) (ys j) (clJ T)
theorem CloJ.below {w W W' : World} {k : Int} {s : ByteArray} {kv : Value} {la : Option Addr} {lc g n i : Nat} {ys xs : Nat → JC} {K : List ByteArray} {L : List JT} (h : CloJ w W k s kv la lc g n i ys xs K L) (hb : Below W.heap.size W W') : CloJ w W' k s kv la lc g n i ys xs K L :=
  ⟨h.box.below hb, h.res.below hb, h.low.trans (hb.mono h.low.size), h.keys.keep (fun b hs hlt => ⟨hs, hb.block b hlt⟩), fun hn => ⟨(h.row hn).1, (h.row hn).2.1, (h.row hn).2.2.below hb⟩, h.old, fun j T hj hT => (h.new j T hj hT).bel hb⟩
theorem CloJ.put {w W W' : World} {k : Int} {s : ByteArray} {kv : Value} {la : Option Addr} {lc g n i : Nat} {ys xs : Nat → JC} {K : List ByteArray} {L : List JT} {y : JC} {T : JT} (h : CloJ w W k s kv la lc g n i ys xs K L) (hi : i < n) (hb : Below W.heap.size W W') (hT : L[i]? = some T) (hy : TIn W' (fun b => W.heap.size ≤ b) y (clJ T)) :
    CloJ w ((((W'.setCell ⟨g, i * 4, none⟩ (.int .i64 y.1)).setCell ⟨g, i * 4 + 1, none⟩ (.string y.2.1)).setCell ⟨g, i * 4 + 2, none⟩ y.2.2.1).setCell ⟨g, i * 4 + 3, none⟩ y.2.2.2) k s kv la lc g n (i + 1) (fun j => if j = i then y else ys j) xs K L := by
  have hlow := h.low.size
  obtain ⟨_, hg, hrow⟩ := h.row (by omega)
  have hgW := hrow.lt
  have hbox := h.box.lt
  have h' := h.below hb
  have hk : ∀ b, b ≠ g → ((((W'.setCell ⟨g, i * 4, none⟩ (.int .i64 y.1)).setCell ⟨g, i * 4 + 1, none⟩ (.string y.2.1)).setCell ⟨g, i * 4 + 2, none⟩ y.2.2.1).setCell ⟨g, i * 4 + 3, none⟩ y.2.2.2).heap[b]? = W'.heap[b]? := fun b hb => by
    rw [Below.heap_setCell _ ⟨g, i * 4 + 3, none⟩ _ b hb, Below.heap_setCell _ ⟨g, i * 4 + 2, none⟩ _ b hb, Below.heap_setCell _ ⟨g, i * 4 + 1, none⟩ _ b hb, Below.heap_setCell _ ⟨g, i * 4, none⟩ _ b hb]
  refine ⟨(((h'.box.other (by omega) _ _).other (by omega) _ _).other (by omega) _ _).other (by omega) _ _, (((h'.res.other (by omega) _ _).other (by omega) _ _).other (by omega) _ _).other (by omega) _ _,
    (((h'.low.setCell (p := ⟨g, i * 4, none⟩) (by show w.heap.size ≤ g; omega) _).setCell (p := ⟨g, i * 4 + 1, none⟩) (by show w.heap.size ≤ g; omega) _).setCell (p := ⟨g, i * 4 + 2, none⟩) (by show w.heap.size ≤ g; omega) _).setCell (p := ⟨g, i * 4 + 3, none⟩) (by show w.heap.size ≤ g; omega) _,
    h'.keys.keep (fun b hs _ => ⟨hs, hk b hs.2⟩), fun hn => ⟨(h'.row hn).1, hg, (h'.row hn).2.2.put hi y⟩, fun j h1 h2 => ?_, fun j T' hj hT' => ?_⟩
  · show (if j = i then y else ys j) = xs j
    rw [if_neg (by omega)]
    exact h.old j (by omega) h2
  · show TIn _ _ (if j = i then y else ys j) _
    by_cases e : j = i
    · subst e
      rw [if_pos rfl]
      rw [hT] at hT'
      cases hT'
      refine hy.keep fun b hs _ => ?_
      have hb2 : W.heap.size ≤ b := hs
      exact ⟨⟨by omega, by omega⟩, hk b (by omega)⟩
    · rw [if_neg e]
      exact (h'.new j T' (by omega) hT').keep fun b hs _ => ⟨hs, hk b hs.2⟩
theorem CloJ.tree {w W : World} {k : Int} {s : ByteArray} {kv : Value} {la : Option Addr} {lc g n : Nat} {ys xs : Nat → JC} {K : List ByteArray} {L : List JT} (h : CloJ w W k s kv la lc g n n ys xs K L) (hn : L.length = n) (x' y' z' u' : Value) :
    TIn ((((W.setCell ⟨w.heap.size + 1, 0, none⟩ x').setCell ⟨w.heap.size + 1, 1, none⟩ y').setCell ⟨w.heap.size + 1, 2, none⟩ z').setCell ⟨w.heap.size + 1, 3, none⟩ u') (fun b => w.heap.size ≤ b) (k, s, kv, .slice la n lc) (.mk k s K (clJs L)) := by
  have hk : ∀ b, b ≠ w.heap.size + 1 → ((((W.setCell ⟨w.heap.size + 1, 0, none⟩ x').setCell ⟨w.heap.size + 1, 1, none⟩ y').setCell ⟨w.heap.size + 1, 2, none⟩ z').setCell ⟨w.heap.size + 1, 3, none⟩ u').heap[b]? = W.heap[b]? := fun b hb => by
    rw [Below.heap_setCell _ ⟨w.heap.size + 1, 3, none⟩ u' b hb, Below.heap_setCell _ ⟨w.heap.size + 1, 2, none⟩ z' b hb, Below.heap_setCell _ ⟨w.heap.size + 1, 1, none⟩ y' b hb, Below.heap_setCell _ ⟨w.heap.size + 1, 0, none⟩ x' b hb]
  generalize ((((W.setCell ⟨w.heap.size + 1, 0, none⟩ x').setCell ⟨w.heap.size + 1, 1, none⟩ y').setCell ⟨w.heap.size + 1, 2, none⟩ z').setCell ⟨w.heap.size + 1, 3, none⟩ u') = W' at *
  have hcl : (clJs L).length = n := by rw [clJs_length, hn]
  have hget : ∀ i (h : i < (clJs L).length), (clJs L)[i] = clJ (L[i]'(by rw [clJs_length] at h; exact h)) := fun i h => by
    have e := clJs_get L i
    rw [List.getElem?_eq_getElem h, List.getElem?_eq_getElem (by rw [clJs_length] at h; exact h), Option.map_some, Option.some.injEq] at e
    exact e
  have hnew : ∀ i (h : i < (clJs L).length), TIn W (fun b => w.heap.size + 2 ≤ b ∧ b ≠ g) (ys i) ((clJs L)[i]) := fun i hi => by
    rw [hget i hi]
    exact h.new i _ (by omega) (List.getElem?_eq_getElem (by rw [clJs_length] at hi; exact hi))
  rw [← hcl]
  refine .mk k s kv la lc K (clJs L) ys (h.keys.keep fun b hs _ => ⟨by show w.heap.size ≤ b; have := hs.1; omega, hk b (by have := hs.1; omega)⟩) (fun i hi => ?_) (fun i hi => (hnew i hi).sl) (fun i hi => (hnew i hi).keep fun b hs _ => ⟨by show w.heap.size ≤ b; have := hs.1; omega, hk b (by have := hs.1; omega)⟩)
  obtain ⟨e, hg, hrow⟩ := h.row (by omega)
  refine ⟨g, 0, e, by show w.heap.size ≤ g; omega, fun r hr => ?_⟩
  rw [Nat.zero_add]
  exact (World.cell?_of_block (a := ⟨g, i * 4 + r, none⟩) (hk g (by omega))).trans (hrow.cell (by omega) hr)

/-- What clone answers. -/
def CloneR (w : World) (T : JT) (e : Ending) (w' : World) : Prop := ∃ y : JC, e = .returned (vagg y) ∧ Below w.heap.size w w' ∧ TIn w' (fun b => w.heap.size ≤ b) y T

set_option maxHeartbeats 16000000 in
theorem clone_any {W : World} {S : Nat → Prop} {x : JC} {T : JT} (h : TIn W S x T) (hl : LtT T) : ∀ (w : World), Below W.heap.size W w → Calls Tryd.prog 47 #[vagg x] w (CloneR w (clJ T)) := by
  induction h with
  | mk k s kv la lc K L xs hK hc hsl ht ih =>
    intro w hW
    obtain ⟨_, _, _, _, hKl, hLl, hsz, hll⟩ := hl
    obtain ⟨ka, kc, rfl, hKc⟩ := hK
    have hKS : StrsS W S (.slice ka K.length kc) K := ⟨ka, kc, rfl, hKc⟩
    obtain ⟨a1, c1, a2, c2, hpe, hPK, hPL⟩ := plain_parts (W := W) (S := S) k s (K := K) (L := L) (ka := ka) (la := la) (kc := kc) (lc := lc) hKS
    have HCP := hide (fun W' => plain_any W' k s ka la K.length kc L.length lc)
    unfold PlainR at HCP
    rw [hpe] at HCP
    have hkl : (kP k K).length ≤ 1000 := by unfold kP; split; omega; simp
    have hnl : (lP k L).length ≤ 1000 := by unfold lP; split; omega; simp
    have HCS := hide (fun W' (hb : Below W.heap.size W W') => cloneS_any W' (hPK.keep (W' := W') (S' := S) (fun b hs hlt => ⟨hs, hb.block b hlt⟩)) hkl)
    have HCV := hide (fun W' (hb : Below W.heap.size W W') => cloneV_any W' a2 (lP k L).length c2 xs (fun i hi => by
      obtain ⟨h1, h2, h3⟩ := hPL i hi
      obtain ⟨b, off, e, _, hx⟩ := hc i h1
      refine ⟨b, off, h3.trans e, fun r hr => ?_⟩
      have h0 := hx 0 (by omega)
      simp only [vcell, List.getElem?_cons_zero] at h0
      exact (hb.cell (p := ⟨b, off + (i * 4 + r), none⟩) (block_lt h0)).trans (hx r hr)) (fun i hi => hsl i (hPL i hi).1) hnl)
    have HIH := hide (fun i (hi : i < (lP k L).length) W' (hb : Below W.heap.size W W') (T : JT) (hT : (lP k L)[i]? = some T) => (by
      obtain ⟨h1, h2, h3⟩ := hPL i hi
      rw [h2, List.getElem?_eq_getElem h1] at hT
      cases hT
      exact ih i h1 (hll i h1) W' hb : Calls Tryd.prog 47 #[vagg (xs i)] W' (CloneR W' (clJ T))))
    have HSL := hide (fun i (hi : i < (lP k L).length) => hsl i (hPL i hi).1)
    have HCE := hide (clJ_eq k s K L)
    rw [HCE.out]
    have HNL := hide hnl
    generalize hs1 : sP k s = s1 at *
    generalize hk1 : kP k K = K1 at *
    generalize hl1 : lP k L = L1 at *
    obtain ⟨kn, hkn⟩ : ∃ kn, K1.length = kn := ⟨_, rfl⟩
    obtain ⟨n, hn⟩ : ∃ n, L1.length = n := ⟨_, rfl⟩
    rw [hn] at HCV HNL HIH HSL HCP
    rw [hkn] at HCP HCS
    have HKN := hide hkn
    have HN := hide hn
    have HW := hide hW
    clear hs1 hk1 hl1 hKS hPK hPL hpe hKc hc hsl ht ih hll hsz hKl hLl hkl hnl hkn hn HCE hW
    generalize K.length = k0 at *
    generalize L.length = l0 at *
    unfold vagg at HCP ⊢
    simp only at HCP ⊢
    have hb : Below w.heap.size w ((w.alloc (.cells #[.int .i64 k, .string s, .slice ka k0 kc, .slice la l0 lc] 27)).alloc (.cells #[.int .i64 0, .string ⟨#[]⟩, .slice none 0 0, .slice none 0 0] 27)) := (bel w _).alloc (by simp) _
    have hp := (BoxC.new w 27 #[.int .i64 k, .string s, .slice ka k0 kc, .slice la l0 lc]).alloc (.cells #[.int .i64 0, .string ⟨#[]⟩, .slice none 0 0, .slice none 0 0] 27)
    have hq := BoxC.new (w.alloc (.cells #[.int .i64 k, .string s, .slice ka k0 kc, .slice la l0 lc] 27)) 27 #[.int .i64 0, .string ⟨#[]⟩, .slice none 0 0, .slice none 0 0]
    rw [World.size_alloc] at hq
    generalize hw0 : (w.alloc (.cells #[.int .i64 k, .string s, .slice ka k0 kc, .slice la l0 lc] 27)).alloc (.cells #[.int .i64 0, .string ⟨#[]⟩, .slice none 0 0, .slice none 0 0] 27) = w0 at *
    have p0 : w0.cell? ⟨w.heap.size, 0, none⟩ = some (.int .i64 k) := hp.cell 0
    have p1 : w0.cell? ⟨w.heap.size, 1, none⟩ = some (.string s) := hp.cell 1
    have p2 : w0.cell? ⟨w.heap.size, 2, none⟩ = some (.slice ka k0 kc) := hp.cell 2
    have p3 : w0.cell? ⟨w.heap.size, 3, none⟩ = some (.slice la l0 lc) := hp.cell 3
    have lp := hp.lt
    have HW0 := hide hw0
    have HP := hide hp
    have HQ := hide hq
    have HB := hide hb
    clear hw0 hp hq hb
    go_enter Tryd.func47, Tryd.ntmps47
    go_upto_region 1 with fail
    rw [HW0.out]
    clear HW0
    go_wp2_with fail
    refine (HCP.out _).mono ?_
    rintro e w1 ⟨rfl, hB1⟩
    have HP1 := hide (resJ_v (HP.out.below hB1) (.int .i64 k) (.string s1) (.slice a1 kn c1) (.slice a2 n c2))
    have HQ1 := hide (box_off4 (HQ.out.below hB1) (show w.heap.size + 1 ≠ w.heap.size by omega) (.int .i64 k) (.string s1) (.slice a1 kn c1) (.slice a2 n c2))
    have HB1 := hide (below4 (HB.out.trans (hB1.mono HB.out.size)) (Nat.le_refl _) (.int .i64 k) (.string s1) (.slice a1 kn c1) (.slice a2 n c2))
    have hp1 := HP.out.below hB1
    have f0 := hp1.frozen 0
    have f1 := hp1.frozen 1
    have f2 := hp1.frozen 2
    have f3 := hp1.frozen 3
    have c0 : w1.cell? ⟨w.heap.size, 0, none⟩ = some (.int .i64 k) := hp1.cell 0
    have c1' : w1.cell? ⟨w.heap.size, 1, none⟩ = some (.string s) := hp1.cell 1
    have c2' : w1.cell? ⟨w.heap.size, 2, none⟩ = some (.slice ka k0 kc) := hp1.cell 2
    have c3 : w1.cell? ⟨w.heap.size, 3, none⟩ = some (.slice la l0 lc) := hp1.cell 3
    have lp1 := hp1.lt
    clear hB1 hp1 p0 p1 p2 p3 lp HCP
    go_upto_region 2 with fail
    generalize (((w1.setCell ⟨w.heap.size, 0, none⟩ (.int .i64 k)).setCell ⟨w.heap.size, 1, none⟩ (.string s1)).setCell ⟨w.heap.size, 2, none⟩ (.slice a1 kn c1)).setCell ⟨w.heap.size, 3, none⟩ (.slice a2 n c2) = w2 at *
    clear c0 c1' c2' c3 f0 f1 f2 f3 lp1
    have q2 : w2.cell? ⟨w.heap.size, 2, none⟩ = some (.slice a1 kn c1) := HP1.out.cell 2
    have HCS2 := hide (HCS.out w2 (HW.out.trans (HB1.out.mono HW.out.size)))
    clear HCS
    go_wp2_with fail
    refine HCS2.out.mono ?_
    rintro e w3 ⟨b1, d1, rfl, hB3, hK3⟩
    rw [HKN.out] at hK3 ⊢
    have HP2 : Hid (BoxC (w3.setCell ⟨w.heap.size, 2, none⟩ (.slice b1 kn d1)) w.heap.size 27 #[.int .i64 k, .string s1, .slice b1 kn d1, .slice a2 n c2]) := (HP1.out.below hB3).set 2 _
    have HQ2 := hide ((HQ1.out.below hB3).other (show w.heap.size + 1 ≠ w.heap.size by omega) 2 (.slice b1 kn d1))
    have HB2 := hide ((HB1.out.trans (hB3.mono HB1.out.size)).setCell (p := ⟨w.heap.size, 2, none⟩) (Nat.le_refl _) (.slice b1 kn d1))
    have hq1l := HQ1.out.lt
    have HK2 : Hid (StrsS (w3.setCell ⟨w.heap.size, 2, none⟩ (.slice b1 kn d1)) (fun b => w.heap.size + 2 ≤ b) (.slice b1 kn d1) K1) := hK3.keep fun b hs _ => by
      have hs' : w2.heap.size ≤ b := hs
      exact ⟨by show w.heap.size + 2 ≤ b; omega, Below.heap_setCell _ ⟨w.heap.size, 2, none⟩ _ b (by show b ≠ w.heap.size; omega)⟩
    have hp3 := HP1.out.below hB3
    have g2 := hp3.frozen 2
    have c2' : w3.cell? ⟨w.heap.size, 2, none⟩ = some (.slice a1 kn c1) := hp3.cell 2
    have l2 := hp3.lt
    clear hB3 hK3 hp3 q2 hq1l HCS2
    go_upto_region 3 with fail
    generalize w3.setCell ⟨w.heap.size, 2, none⟩ (.slice b1 kn d1) = w4 at *
    clear c2' g2 l2
    have q3 : w4.cell? ⟨w.heap.size, 3, none⟩ = some (.slice a2 n c2) := HP2.out.cell 3
    have HCV4 := hide (HCV.out w4 (HW.out.trans (HB2.out.mono HW.out.size)))
    clear HCV
    go_wp2_with fail
    refine HCV4.out.mono ?_
    rintro e w5 ⟨ra, cc, rfl, hB5, hrow⟩
    have hp5 := HP2.out.below hB5
    have g3 := hp5.frozen 3
    have c3 : w5.cell? ⟨w.heap.size, 3, none⟩ = some (.slice a2 n c2) := hp5.cell 3
    have l3 := hp5.lt
    obtain ⟨g, hg⟩ : ∃ g, CloJ w (w5.setCell ⟨w.heap.size, 3, none⟩ (.slice ra n cc)) k s1 (.slice b1 kn d1) ra cc g n 0 xs xs K1 L1 := by
      have hq4 := HQ2.out.lt
      obtain ⟨g, hge, hro⟩ : ∃ g, w4.heap.size ≤ g ∧ (0 < n → ra = some ⟨g, 0, none⟩ ∧ RowV w5 g n xs) := by
        rcases Nat.eq_zero_or_pos n with h0 | h0
        · exact ⟨w4.heap.size, Nat.le_refl _, fun h => by omega⟩
        · obtain ⟨g, h1, h2, h3⟩ := hrow h0
          exact ⟨g, h1, fun _ => ⟨h2, h3⟩⟩
      refine ⟨g, hp5.set 3 _, (HQ2.out.below hB5).other (by omega) 3 _, (HB2.out.trans (hB5.mono HB2.out.size)).setCell (p := ⟨w.heap.size, 3, none⟩) (Nat.le_refl _) _, HK2.out.keep fun b hs hlt => ⟨⟨hs, by omega⟩, ?_⟩, fun h => ⟨(hro h).1, by omega, (hro h).2.other (by omega)⟩, fun _ _ _ => rfl, fun j T hj _ => by omega⟩
      have hs' : w.heap.size + 2 ≤ b := hs
      rw [Below.heap_setCell _ ⟨w.heap.size, 3, none⟩ _ b (by show b ≠ w.heap.size; omega)]
      exact hB5.block b hlt
    have HG := hide hg
    clear hB5 hp5 q3 hrow hg HP2 HQ2 HB2 HK2 HP1 HQ1 HB1 HCV4
    go_upto_region 4 with fail
    generalize w5.setCell ⟨w.heap.size, 3, none⟩ (.slice ra n cc) = w6 at *
    clear c3 g3 l3
    have r3 : w6.cell? ⟨w.heap.size, 3, none⟩ = some (.slice ra n cc) := HG.out.box.cell 3
    go_wp2
    go_loopw [18] (fun iv wr => ∃ (i : Nat) (ys : Nat → JC), i ≤ n ∧ iv = .int .i64 (i : Int) ∧ CloJ w wr k s1 (.slice b1 kn d1) ra cc g n i ys xs K1 L1) (fun iv _ => n - (RowKit.intOf iv).toNat)
    case atStart => exact ⟨0, xs, Nat.zero_le _, rfl, HG.out⟩
    case round =>
      obtain ⟨i, ys, hi, rfl, hm⟩ := hrel
      clear HG r3
      by_cases hlt : i < n
      · have d2 : (i : Int) < (n : Int) := by omega
        have d0 : (0 : Int) ≤ (i : Int) := by omega
        obtain ⟨rfl, hge, hro⟩ := hm.row (by omega)
        have hyi := hm.old i (Nat.le_refl _) hlt
        obtain ⟨hs2, hs3⟩ := HSL.out i hlt
        obtain ⟨Ti, hTi⟩ : ∃ Ti, L1[i]? = some Ti := ⟨L1[i]'(by have := HN.out; omega), List.getElem?_eq_getElem _⟩
        have HCALL := hide (fun w2 (h2 : Below w.heap.size w w2) => HIH.out i hlt w2 (HW.out.trans (h2.mono HW.out.size)) Ti hTi)
        have hcl := fun r (hr : r < 4) => hro.cell hlt hr
        rw [hyi] at hcl
        have hsl2 := hm.low.size
        generalize xs i = y at *
        obtain ⟨yk, ys', yK, yL⟩ := y
        simp only [vcell] at hcl hs2 hs3
        obtain ⟨ka', kl', kc', rfl⟩ := hs2
        obtain ⟨la', ll', lc', rfl⟩ := hs3
        unfold vagg at HCALL
        simp only at HCALL
        have x0 := hcl 0 (by omega)
        have x1 := hcl 1 (by omega)
        have x2 := hcl 2 (by omega)
        have x3 := hcl 3 (by omega)
        simp only [List.getElem?_cons_zero, List.getElem?_cons_succ, Nat.add_zero] at x0 x1 x2 x3
        obtain ⟨i1, hi1⟩ : ∃ i1, i + 1 = i1 := ⟨_, rfl⟩
        have e1 : (i : Int) + 1 = (i1 : Int) := by omega
        have g1 : (i1 : Int) ≤ 1000000000 := by have := HNL.out; omega
        have hnb := bel wr (.cells #[.int .i64 yk, .string ys', .slice ka' kl' kc', .slice la' ll' lc'] 27)
        have hnx := BoxC.new wr 27 #[.int .i64 yk, .string ys', .slice ka' kl' kc', .slice la' ll' lc']
        have HI1 := hide hi1
        have HIL := hide hlt
        have HTI := hide hTi
        have HM := hide (hm.below hnb)
        have HGE := hide hge
        have hgp := hro.lt
        have HGP := hide hgp
        generalize hPB : wr.heap.size = PB at *
        clear hm hlt hi hi1 hTi hyi hcl hro hge hnb hgp
        go_upto_region 7 with fail
        generalize hwp : wr.alloc (.cells #[.int .i64 yk, .string ys', .slice ka' kl' kc', .slice la' ll' lc'] 27) = w7 at *
        have HNX := hide hnx
        clear hnx hwp x0 x1 x2 x3
        have HSX : Hid (∀ X0 : World, Below w7.heap.size w7 X0 → (X0.cell? ⟨w.heap.size, 3, none⟩ = some (.slice (some ⟨g, 0, none⟩) n cc) ∧ X0.cell? ⟨PB, 0, none⟩ = some (.int .i64 yk) ∧ X0.cell? ⟨PB, 1, none⟩ = some (.string ys') ∧ X0.cell? ⟨PB, 2, none⟩ = some (.slice ka' kl' kc') ∧ X0.cell? ⟨PB, 3, none⟩ = some (.slice la' ll' lc'))) := fun X0 h => ⟨(HM.out.box.below h).cell 3, (HNX.out.below h).cell 0, (HNX.out.below h).cell 1, (HNX.out.below h).cell 2, (HNX.out.below h).cell 3⟩
        refine wp_region_held_drew (S := fun X0 : World => X0.cell? ⟨w.heap.size, 3, none⟩ = some (.slice (some ⟨g, 0, none⟩) n cc) ∧ X0.cell? ⟨PB, 0, none⟩ = some (.int .i64 yk) ∧ X0.cell? ⟨PB, 1, none⟩ = some (.string ys') ∧ X0.cell? ⟨PB, 2, none⟩ = some (.slice ka' kl' kc') ∧ X0.cell? ⟨PB, 3, none⟩ = some (.slice la' ll' lc')) (by kernel_rfl) (HSX.out _ (Below.refl _ _).drew) (fun hHeld => ?_)
        have HD : Hid (Below w7.heap.size w7 w7.drew) := (Below.refl _ _).drew
        generalize w7.drew = w8 at *
        refine takeD (i := 0) (v := ?v1) (some 23) rfl (by kernel_rfl) (by kernel_rfl) (by kernel_rfl) (fun _ _ _ h => h) (Or.inl ⟨by rfl, ?hy1⟩) (HSX.out _ HD.out) (by rfl) ?rest1
        case hy1 => first | (intro w hSw; (try dsimp only at hSw); obtain ⟨s0, s1, s2, s3, s4⟩ := hSw; go_simp; done) | (intro w hSw; (try dsimp only at hSw); obtain ⟨s0, s1, s2, s3, s4⟩ := hSw; go_simp; with_reducible rfl)
        try simp only [Act.put, List.setIfInBounds_toArray, List.set_cons_zero, List.set_cons_succ, vagg]
        refine takeD (i := 1) (v := ?v2) (some 24) rfl (by kernel_rfl) (by kernel_rfl) (by kernel_rfl) (fun _ _ _ h => h) (Or.inl ⟨by rfl, ?hy2⟩) (HSX.out _ HD.out) (by rfl) ?rest2
        case hy2 => first | (intro w hSw; (try dsimp only at hSw); obtain ⟨s0, s1, s2, s3, s4⟩ := hSw; go_simp; done) | (intro w hSw; (try dsimp only at hSw); obtain ⟨s0, s1, s2, s3, s4⟩ := hSw; go_simp; with_reducible rfl)
        try simp only [Act.put, List.setIfInBounds_toArray, List.set_cons_zero, List.set_cons_succ, vagg]
        refine takeD (i := 2) (v := ?v3) (some 25) rfl (by kernel_rfl) (by kernel_rfl) (by kernel_rfl) (fun _ _ _ h => h) (Or.inl ⟨by rfl, ?hy3⟩) (HSX.out _ HD.out) (by rfl) ?rest3
        case hy3 => first | (intro w hSw; (try dsimp only at hSw); obtain ⟨s0, s1, s2, s3, s4⟩ := hSw; go_simp; done) | (intro w hSw; (try dsimp only at hSw); obtain ⟨s0, s1, s2, s3, s4⟩ := hSw; go_simp; with_reducible rfl)
        try simp only [Act.put, List.setIfInBounds_toArray, List.set_cons_zero, List.set_cons_succ, vagg]
        refine takeD (i := 3) (v := ?v4) (some 26) rfl (by kernel_rfl) (by kernel_rfl) (by kernel_rfl) (fun _ _ _ h => h) (Or.inl ⟨by rfl, ?hy4⟩) (HSX.out _ HD.out) (by rfl) ?rest4
        case hy4 => first | (intro w hSw; (try dsimp only at hSw); obtain ⟨s0, s1, s2, s3, s4⟩ := hSw; go_simp; done) | (intro w hSw; (try dsimp only at hSw); obtain ⟨s0, s1, s2, s3, s4⟩ := hSw; go_simp; with_reducible rfl)
        try simp only [Act.put, List.setIfInBounds_toArray, List.set_cons_zero, List.set_cons_succ, vagg]
        refine wpAnyH_ready (rs := [4]) (by kernel_rfl) (by simp) ?_
        refine AllReadyH.cons rfl (fun K hK => ?_) AllReadyH.nil
        go_simp
        refine (HCALL.out w8 (HM.out.low.trans (HD.out.mono HM.out.low.size))).mono ?_
        rintro e w9 ⟨y', rfl, hB9, hT9⟩
        obtain ⟨yk9, ys9, yK9, yL9⟩ := y'
        have HD9 := hide (HD.out.trans (hB9.mono HD.out.size))
        have hput := (HM.out.below HD.out).put HIL.out hB9 HTI.out hT9
        have hm9 := HM.out.below HD9.out
        have hro9 := (hm9.row (by have := HIL.out; omega)).2.2
        have z0 := hro9.cell HIL.out (r := 0) (by omega)
        have z1 := hro9.cell HIL.out (r := 1) (by omega)
        have z2 := hro9.cell HIL.out (r := 2) (by omega)
        have z3 := hro9.cell HIL.out (r := 3) (by omega)
        simp only [vcell, List.getElem?_cons_zero, List.getElem?_cons_succ, Nat.add_zero] at z0 z1 z2 z3
        have j0 := hro9.frozen (i * 4)
        have j1 := hro9.frozen (i * 4 + 1)
        have j2 := hro9.frozen (i * 4 + 2)
        have j3 := hro9.frozen (i * 4 + 3)
        obtain ⟨hs4, hs5⟩ := hT9.sl
        simp only at hs4 hs5
        obtain ⟨pa, pn, pc, rfl⟩ := hs4
        obtain ⟨qa, qn, qc, rfl⟩ := hs5
        have HPUT := hide hput
        refine hK.out _ _ (HSX.out _ HD9.out) (fun _ => ?_)
        clear hK K hB9 hT9 hput hm9
        try simp only [Act.put, List.setIfInBounds_toArray, List.set_cons_zero, List.set_cons_succ, vagg]
        refine takeD (i := 5) (v := ?v5) (some 28) rfl (by kernel_rfl) (by kernel_rfl) (by kernel_rfl) (fun _ _ _ h => h) (Or.inl ⟨by rfl, ?hy5⟩) (HSX.out _ HD9.out) (by rfl) ?rest5
        case hy5 => first | (intro w hSw; (try dsimp only at hSw); obtain ⟨s0, s1, s2, s3, s4⟩ := hSw; go_simp; done) | (intro w hSw; (try dsimp only at hSw); obtain ⟨s0, s1, s2, s3, s4⟩ := hSw; go_simp; with_reducible rfl)
        try simp only [Act.put, List.setIfInBounds_toArray, List.set_cons_zero, List.set_cons_succ, vagg]
        refine wpAnyH_ready (rs := [6]) (by kernel_rfl) (by simp) ?_
        refine AllReadyH.cons rfl (fun K hK => ?_) AllReadyH.nil
        go_simp
        have HB6 : Hid (BoxC ((((w9.setCell ⟨g, i * 4, none⟩ (.int .i64 yk9)).setCell ⟨g, i * 4 + 1, none⟩ (.string ys9)).setCell ⟨g, i * 4 + 2, none⟩ (.slice pa pn pc)).setCell ⟨g, i * 4 + 3, none⟩ (.slice qa qn qc)) PB 27 #[.int .i64 yk, .string ys', .slice ka' kl' kc', .slice la' ll' lc']) := by
          have hne : PB ≠ g := by have := HGP.out; omega
          exact ((((HNX.out.below HD9.out).other hne _ _).other hne _ _).other hne _ _).other hne _ _
        refine hK.out _ _ ⟨HPUT.out.box.cell 3, HB6.out.cell 0, HB6.out.cell 1, HB6.out.cell 2, HB6.out.cell 3⟩ (fun _ => ?_)
        clear hK K
        try simp only [Act.put, List.setIfInBounds_toArray, List.set_cons_zero, List.set_cons_succ, vagg]
        refine wpAnyH_done (by kernel_rfl) ?_ _
        go_wp2
        go_roundw
        case rel => exact ⟨i1, _, by have := HIL.out; have := HI1.out; omega, by first | rfl | go_num, by rw [← HI1.out]; exact HPUT.out⟩
        case measure => have := HIL.out; have := HI1.out; simp [RowKit.intOf]; omega
      · obtain rfl : i = n := by omega
        have d2 : ¬ (i : Int) < (i : Int) := by omega
        have z0 := hm.box.cell 0
        have z1 := hm.box.cell 1
        have z2 := hm.box.cell 2
        have z3 := hm.box.cell 3
        have x0 := hm.res.cell 0
        have x1 := hm.res.cell 1
        have x2 := hm.res.cell 2
        have x3 := hm.res.cell 3
        simp only [List.getElem?_toArray, List.getElem?_cons_zero, List.getElem?_cons_succ] at z0 z1 z2 z3 x0 x1 x2 x3
        have y0 := hm.res.frozen 0
        have y1 := hm.res.frozen 1
        have y2 := hm.res.frozen 2
        have y3 := hm.res.frozen 3
        have lX := hm.res.lt
        have lV := hm.box.lt
        have HM := hide hm
        clear hlt hi hm
        go_wp2
        refine bodyPost_ret (results_jv rfl rfl (resJ_v HM.out.res (.int .i64 k) (.string s1) (.slice b1 kn d1) (.slice ra i cc))) rfl ?_
        exact ⟨(k, s1, .slice b1 kn d1, .slice ra i cc), rfl, below4 HM.out.low (Nat.le_succ _) _ _ _ _, HM.out.tree HN.out _ _ _ _⟩

end Go.Proofs.YtcedcbonphgecaaDoor
