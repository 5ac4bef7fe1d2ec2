/- The law LinearNorms, walked; with it: LnIsC, LnCont, LnRCont. -/
import Derived.Test.YtbjolmgobeagoaaGreatDoorLnP3
namespace Go.Proofs.YtbjolmgobeagoaaGreatDoor
set_option linter.unusedVariables false
set_option linter.unusedSimpArgs false
set_option maxRecDepth 100000
open Go Go.RowKit Go.Shelf Go.Lib
attribute [local go_sem] Oper.semAt_some

/-- A loop over an iterator whose variables aren't laid into memory. -/
theorem range_knownD {P : Program} {g : Operand} {ps : Array Tmp} {assign body : Code} {Q : Exit → Act → World → Prop} {a : Act} {w : World}
    {gf : Nat} {lb : Array Value} (hg : a.eval g = .func (.func gf) #[] lb) (eg : ∀ args w, (callFunc gf args).run P w = .ok (.enter gf args) w)
    {N : Nat} {args : Nat → Array Value} {Know : Nat → World → Prop} (hseq : HandsB P gf lb N args Know) (hps : ∀ k, (args k).size = ps.size)
    (J : Nat → World → Prop) (Jx : Code → Nat → World → Prop) (hJ : ∀ k W W', J k W → Cel W W' → J k W') (hJx : ∀ c k W W', Jx c k W → Cel W W' → Jx c k W') (n₀ : Nat) (w₀ : World) (hn : n₀ ≤ w₀.heap.size) (hn2 : n₀ ≤ w.heap.size)
    (hKn : ∀ k W, J k W → Know k W) (h0 : J 0 w ∧ Below n₀ w₀ w) (a₁ : Nat → Act)
    (hassign : ∀ (l k : Nat) (W : World) (K : Act → World → Prop), k < N → K (a₁ k) W →
      assign.wpIn (Fence.wide.inRound l) 1 P (Exit.then K (fun _ _ _ => False)) { tmps := (ps.zip (args k)).foldl (fun t (p, v) => t.setIfInBounds p v) a.tmps, defers := [] } W)
    (hbody : ∀ (l k : Nat) (W : World), k < N → J k W ∧ Below n₀ w₀ W → body.wpIn (Fence.wide.inRound l) 1 P (roundPost w.heap.size (fun k W => J k W ∧ Below n₀ w₀ W) (fun c k W => Jx c k W ∧ Below n₀ w₀ W) k W) (a₁ k) W)
    (hdone : ∀ (D : Nat) (W : World), w.heap.size ≤ D → J N W ∧ Below n₀ w₀ W → W.heap[D]? = some (.deferred (some [])) → Q .normal { a with defers := { target := .collected D, args := #[] } :: a.defers } W)
    (hstop : ∀ (D : Nat) (c : Code) (k : Nat) (W : World), w.heap.size ≤ D → k < N → Jx c k W ∧ Below n₀ w₀ W → W.heap[D]? = some (.deferred (some [])) → c.wpIn Fence.wide 3 P Q { a with defers := { target := .collected D, args := #[] } :: a.defers } W) :
    (Code.rangeFunc g ps assign body).wpIn Fence.wide 3 P Q a w :=
  range_knownB hg eg hseq hps (fun k W => J k W ∧ Below n₀ w₀ W) (fun c k W => Jx c k W ∧ Below n₀ w₀ W) (ownFrom_frame hJ hn hn2) (fun c => ownFrom_frame (hJx c) hn hn2) (fun k W h => hKn k W h.1)
    (fun k W W' h hb => ⟨hJ k W W' h.1 (Cel.of hb), h.2.trans (hb.mono (Nat.le_trans hn h.2.size))⟩) h0 a₁ hassign hbody hdone hstop

def LIsE (w : World) (M : List Pt) (e : Ending) (w' : World) : Prop := ∃ l : Ps, e = .returned (.bool (decide (l.length = 0))) ∧ NF l ∧ (∀ u, cf u l = cf u (ps M)) ∧ Below w.heap.size w w'

set_option maxHeartbeats 4000000 in
theorem isconst_calls {k : Nat} {w : World} {v : Value} {c : Int} {M : List Pt} (h : TermA k w v c M) (hk : k ≤ 400000) :
    Calls Tryz.prog 18 #[v] w fun e w' => LIsE w M e w' := by
  obtain ⟨cn, ca, cL, cc, pa, pl, pc, rfl⟩ := h.form
  have tb := (Thr.new w (.bool cn) (.slice ca cL cc) (.slice pa pl pc) 27).alloc (.cells #[.bool false] 4)
  have hba : Below w.heap.size w ((w.alloc (.cells #[.bool cn, .slice ca cL cc, .slice pa pl pc] 27)).alloc (.cells #[.bool false] 4)) := (bel _ _).trans ((bel _ _).mono (by simp))
  have tu : Uno ((w.alloc (.cells #[.bool cn, .slice ca cL cc, .slice pa pl pc] 27)).alloc (.cells #[.bool false] 4)) (w.heap.size + 1) (.bool false) 4 := by
    have h1 := World.alloc_heap_new (w.alloc (.cells #[.bool cn, .slice ca cL cc, .slice pa pl pc] 27)) (.cells #[.bool false] 4)
    rw [World.size_alloc] at h1
    exact h1
  generalize hwA : (w.alloc (.cells #[.bool cn, .slice ca cL cc, .slice pa pl pc] 27)).alloc (.cells #[.bool false] 4) = wA at *
  have hvars := vars_calls (h.below hba) (by omega)
  have HT := hide h
  have HWA := hide hwA
  have HBA := hide hba
  have TU := hide tu
  obtain ⟨c0, c1, c2, _, _, _⟩ := tb.every
  clear hwA tb hba tu h
  refine calls_of_marks Tryz.func18 rfl ?_
  simp only [Tryz.ntmps18, List.size_toArray, List.length_cons, List.length_nil, Nat.reduceAdd, Nat.reduceSub, Array.replicate_succ, Array.replicate_zero, List.push_toArray, List.append_toArray, List.nil_append, List.cons_append]
  go_upto_region 1 with fail
  rw [HWA.out]
  go_wp2_with fail
  refine hvars.mono ?_
  clear hvars c0 c1 c2
  rintro e w3 ⟨B0, M3, a3, l3, k3, rfl, hu3, hB0, ho3, hg3, hn3, hc3, hb3⟩
  have HU3 := hide hu3
  have HO3 := hide ho3
  have HG3 := hide hg3
  have HN3 := hide hn3
  have HC3 := hide hc3
  have HB3 := hide hb3
  clear hu3 hB0 ho3 hg3 hn3 hc3 hb3
  go_wp2_with fail
  refine (wpIn_wide (n := 3)).1 ?_
  have HL3 : Hid (M3.length ≤ 1000) := by
    have h1 := len_of HN3.out HC3.out
    have h2 := HT.out.len
    show _ ≤ _
    omega
  refine range_knownD (gf := 80) (lb := #[.pointer (some ⟨B0, 0, none⟩)]) ?hg (enters_of Tryz.func80 (by kernel_rfl) rfl)
    (vars_hands B0 (.slice a3 l3 k3) M3 HG3.out.sl (by have := HL3.out; omega)) (fun _ => rfl)
    (fun i W => i = 0 ∧ VarsKnow B0 (.slice a3 l3 k3) M3 W ∧ Uno W (w.heap.size + 1) (.bool false) 4)
    (fun c i W => c = .ret ∧ Uno W (w.heap.size + 1) (.bool false) 4) (fun i W W' hj hc => ⟨hj.1, hj.2.1.cel hc, hc.uno hj.2.2⟩) (fun c i W W' hj hc => ⟨hj.1, hc.uno hj.2⟩) w.heap.size w (Nat.le_refl _) (Nat.le_trans HBA.out.size HB3.out.size)
    (fun i W hj => hj.2.1) ⟨⟨rfl, ⟨HU3.out.c0, HO3.out.row⟩, TU.out.keep HB3.out⟩, bafter HBA.out HB3.out (Nat.le_refl _)⟩ ?a1 ?assign ?body ?done ?stop
  case hg => rfl
  case assign =>
    intro l i W K hi hK
    unfold varV
    gi_wp2
    exact hK
  case body =>
    rintro l i W hi ⟨⟨rfl, hkn, hu⟩, hbw⟩
    have u0 := hu.c0
    have u1 := hu.f0 0
    have HUU := hide hu
    have HBW := hide hbw
    clear hkn hu hbw
    gi_wp2
    exact ⟨(KeepsOthers.setCell _ _ _).from _, ⟨rfl, HUU.out.put _⟩, HBW.out.setCell (p := ⟨w.heap.size + 1, 0, none⟩) (by show _ ≤ w.heap.size + 1; omega) _⟩
  case done =>
    rintro D W hD ⟨⟨h0, hkn, hu⟩, hbw⟩ hK
    have u0 := hu.c0
    have u1 := hu.f0 0
    have HUU := hide hu
    have HBW := hide hbw
    have HK := hide hK
    have H0 := hide h0
    have HD := hide hD
    clear hkn hu hbw hK h0 hD
    go_wp2
    have hK' := (KeepsOthers.setCell W ⟨w.heap.size + 1, 0, none⟩ (.bool true)).same D _ HK.out rfl
    refine ⟨by simp, .inl ⟨_, _, rfl, run_takeDeferred hK', ?_⟩⟩
    have hc5 := ((cel_put (.deferred none) hK' rfl).uno (HUU.out.put (.bool true))).c0
    refine ⟨.bool true, ?_, ps M3, ?_, HN3.out, HC3.out, (HBW.out.setCell (p := ⟨w.heap.size + 1, 0, none⟩) (by show _ ≤ w.heap.size + 1; omega) _).trans (belowK_b (w := w) (Nat.le_refl _) _ D _ _ (by have h1 := HD.out; have h2 := HBA.out.size; have h3 := HB3.out.size; omega) hK' rfl rfl)⟩
    · simp [results, Tryz.f18, go_sem, hc5]
    · rw [ps_length, H0.out]
      rfl
  case stop =>
    rintro D c i W hD hi ⟨⟨rfl, hu⟩, hbw⟩ hK
    have HUU := hide hu
    have HBW := hide hbw
    have HK := hide hK
    have HI := hide hi
    have HD := hide hD
    clear hu hbw hK hi hD
    gi_wp2
    refine ⟨by simp, .inl ⟨_, _, rfl, run_takeDeferred HK.out, ?_⟩⟩
    have hc5 := ((cel_put (.deferred none) HK.out rfl).uno HUU.out).c0
    refine ⟨.bool false, ?_, ps M3, ?_, HN3.out, HC3.out, HBW.out.trans (belowK_b (w := w) (Nat.le_refl _) _ D _ _ (by have h1 := HD.out; have h2 := HBA.out.size; have h3 := HB3.out.size; omega) HK.out rfl rfl)⟩
    · simp [results, Tryz.f18, go_sem, hc5]
    · rw [ps_length, decide_eq_false (by have := HI.out; omega)]

end Go.Proofs.YtbjolmgobeagoaaGreatDoor

namespace Go.Proofs.YtbjolmgobeagoaaGreatDoor
set_option linter.unusedVariables false
set_option linter.unusedSimpArgs false
set_option maxRecDepth 100000
open Go Go.RowKit Go.Shelf Go.Lib
attribute [local go_sem] Oper.semAt_some

def gcdL (l : Ps) : Nat := l.foldl (fun g p => Nat.gcd g p.2.natAbs) 0
theorem gcd_less {g x B : Nat} (hg : g < B) (hx : x < B) : Nat.gcd g x < B := by
  rcases Nat.eq_zero_or_pos g with h | h
  · subst h
    rw [Nat.gcd_zero_left]
    exact hx
  · exact Nat.lt_of_le_of_lt (Nat.gcd_le_left x h) hg
theorem gcdL_less {B : Nat} {l : Ps} (hB : 0 < B) (h : ∀ p ∈ l, p.2.natAbs < B) : gcdL l < B := by
  have H : ∀ (A : Ps) (g : Nat), g < B → (∀ p ∈ A, p.2.natAbs < B) → A.foldl (fun g p => Nat.gcd g p.2.natAbs) g < B := by
    intro A
    induction A with
    | nil => intro g hg _; exact hg
    | cons p A ih => intro g hg hA; exact ih _ (gcd_less hg (hA p (by simp))) (fun q hq => hA q (by simp [hq]))
  exact H l 0 hB h
theorem gcdL_step {M : List Pt} {i : Nat} {m : Pt} (h : M[i]? = some m) : gcdL (ps (M.take (i + 1))) = Nat.gcd (gcdL (ps (M.take i))) m.2.2.2.natAbs := by
  rw [List.take_add_one, h, ps_append]
  unfold gcdL
  rw [List.foldl_append]
  rfl
def ContE (w : World) (M : List Pt) (e : Ending) (w' : World) : Prop := ∃ rv l, e = .returned rv ∧ BRes w' rv (gcdL l : Int) ∧ NF l ∧ (∀ u, cf u l = cf u (ps M)) ∧ Below w.heap.size w w'

set_option maxHeartbeats 8000000 in
theorem content_calls {k : Nat} {w : World} {v : Value} {c : Int} {M : List Pt} (h : TermA k w v c M) (hk : k ≤ 400000) :
    Calls Tryz.prog 16 #[v] w fun e w' => ContE w M e w' := by
  obtain ⟨cn, ca, cL, cc, pa, pl, pc, rfl⟩ := h.form
  have tb := ((Thr.new w (.bool cn) (.slice ca cL cc) (.slice pa pl pc) 27).alloc (.cells #[.bool false, .slice none 0 0] 24)).alloc (.cells #[.bool false, .slice none 0 0] 24)
  have tr := (Two.new1 w (.cells #[.bool cn, .slice ca cL cc, .slice pa pl pc] 27) (.bool false) (.slice none 0 0) 24).alloc (.cells #[.bool false, .slice none 0 0] 24)
  have ts := Two.new ((w.alloc (.cells #[.bool cn, .slice ca cL cc, .slice pa pl pc] 27)).alloc (.cells #[.bool false, .slice none 0 0] 24)) (.bool false) (.slice none 0 0) 24
  rw [World.size_alloc, World.size_alloc] at ts
  have hba := bel3 w (.cells #[.bool cn, .slice ca cL cc, .slice pa pl pc] 27) (.cells #[.bool false, .slice none 0 0] 24) (.cells #[.bool false, .slice none 0 0] 24)
  generalize hwA : ((w.alloc (.cells #[.bool cn, .slice ca cL cc, .slice pa pl pc] 27)).alloc (.cells #[.bool false, .slice none 0 0] 24)).alloc (.cells #[.bool false, .slice none 0 0] 24) = wA at *
  have hvars := vars_calls (h.below hba) (by omega)
  have HT := hide h
  have HWA := hide hwA
  have HBA := hide hba
  have TR := hide tr
  have TS := hide ts
  obtain ⟨c0, c1, c2, _, _, _⟩ := tb.every
  clear hwA tb hba tr ts h
  refine calls_of_marks Tryz.func16 rfl ?_
  simp only [Tryz.ntmps16, List.size_toArray, List.length_cons, List.length_nil, Nat.reduceAdd, Nat.reduceSub, Array.replicate_succ, Array.replicate_zero, List.push_toArray, List.append_toArray, List.nil_append, List.cons_append]
  go_upto_region 2 with fail
  rw [HWA.out]
  go_wp2_with fail
  refine hvars.mono ?_
  clear hvars c0 c1 c2
  rintro e w3 ⟨B0, M3, a3, l3, k3, rfl, hu3, hB0, ho3, hg3, hn3, hc3, hb3⟩
  have HU3 := hide hu3
  have HB0 := hide hB0
  have HO3 := hide ho3
  have HG3 := hide hg3
  have HN3 := hide hn3
  have HC3 := hide hc3
  have HB3 := hide hb3
  clear hu3 hB0 ho3 hg3 hn3 hc3 hb3
  go_wp2_with fail
  refine (wpIn_wide (n := 3)).1 ?_
  have HL3 : Hid (M3.length ≤ 1000) := by
    have h1 := len_of HN3.out HC3.out
    have h2 := HT.out.len
    show _ ≤ _
    omega
  have HBN : Hid (Bnd (k + 1000) (ps M3)) := fun p hp => lt_up (nf_bnd HN3.out HC3.out HT.out.bnd.1 p hp) (by rw [ps_length]; have := HT.out.len; omega)
  refine range_knownC (gf := 80) (lb := #[.pointer (some ⟨B0, 0, none⟩)]) ?hg (enters_of Tryz.func80 (by kernel_rfl) rfl)
    (vars_hands B0 (.slice a3 l3 k3) M3 HG3.out.sl (by have := HL3.out; omega)) (fun _ => rfl)
    (fun i W => (Uno W B0 (.slice a3 l3 k3) 25 ∧ RowP W (.slice a3 l3 k3) M3 ∧ GoodR W M3 ∧ Two W (w.heap.size + 1) (.bool false) (.slice none 0 0) 24) ∧ ∃ sn sa sL sc, Two W (w.heap.size + 1 + 1) (.bool sn) (.slice sa sL sc) 24 ∧ BRes W (.agg #[.bool sn, .slice sa sL sc]) (gcdL (ps (M3.take i)) : Int))
    (fun _ _ _ => False) (fun i W W' ⟨⟨j1, j2, j3, j4⟩, sn, sa, sL, sc, j5, j6⟩ hc => ⟨⟨hc.uno j1, hc.row j2, j3.k32 hc.k32, hc.two j4⟩, sn, sa, sL, sc, hc.two j5, j6.k32 hc.k32⟩) (fun _ _ _ _ h _ => h.elim) w.heap.size w (Nat.le_refl _) (Nat.le_trans HBA.out.size HB3.out.size)
    (fun i W hj => ⟨hj.1.1.c0, hj.1.2.1⟩) ⟨⟨⟨HU3.out, HO3.out.row, HG3.out, TR.out.keep HB3.out⟩, _, _, _, _, TS.out.keep HB3.out, ⟨_, rfl, Res.nil _⟩⟩, bafter HBA.out HB3.out (Nat.le_refl _)⟩
    (fun i => .cells #[.bool (atP M3 i).2.1, (atP M3 i).2.2.1] 24) (fun _ => rfl) ?a1 ?assign ?body ?done ?stop
  case hg => rfl
  case assign =>
    intro l i B W K hi hB hK
    obtain ⟨ma, mL, mc, hsl⟩ := HG3.out.sl (atP M3 i) (by rw [atP_of (List.getElem?_eq_getElem hi)]; exact List.getElem_mem hi)
    unfold varV
    rw [hsl]
    have HSL := hide hsl
    have HBE := hide hB
    generalize hA1 : (atP M3 i).1 = vr at *
    generalize hA2 : (atP M3 i).2.1 = nb at *
    have HA1 := hide hA1
    have HA2 := hide hA2
    clear hsl hB hA1 hA2
    gi_wp2
    have hsl := HSL.out
    have hB := HBE.out
    have hA1 := HA1.out
    have hA2 := HA2.out
    rw [hB]
    subst hA1
    subst hA2
    rw [← hsl]
    exact hK
  case body =>
    rintro l i B W hi ⟨⟨j1, j2, j3, j4⟩, sn, sa, sL, sc, j5, j6⟩ hbw hB hBlt
    obtain ⟨⟨vr, nb, mv, cz⟩, hm⟩ : ∃ m, M3[i]? = some m := ⟨_, List.getElem?_eq_getElem hi⟩
    obtain ⟨ma, mL, mc, e⟩ := HG3.out.sl _ (List.mem_of_getElem? hm)
    simp only at e
    subst e
    try dsimp only
    rw [atP_of hm] at hB ⊢
    have hB' : Two W B (.bool nb) (.slice ma mL mc) 24 := hB
    have hcb : cz.natAbs < R ^ (k + 1000) := HBN.out (vr, cz) (List.mem_map.2 ⟨_, List.mem_of_getElem? hm, rfl⟩)
    have hgb : (gcdL (ps (M3.take i)) : Int).natAbs < R ^ (k + 1000) := by
      rw [Int.natAbs_natCast]
      exact gcdL_less (Nat.pow_pos R_pos) (fun p hp => HBN.out p (by
        unfold ps at hp ⊢
        rw [List.map_take] at hp
        exact List.mem_of_mem_take hp))
    have hgc := bgcd_calls (j6.arg hgb (by omega)) ((j3 _ (List.mem_of_getElem? hm)).2.arg hcb (by omega))
    obtain ⟨b0, b1, _, _, _, _⟩ := hB'.every
    obtain ⟨s0, s1, _, _, _, _⟩ := j5.every
    have HM := hide hm
    have J1 := hide j1
    have J2 := hide j2
    have J3 := hide j3
    have J4 := hide j4
    have J5 := hide j5
    have HBW := hide hbw
    have HBL := hide hBlt
    clear hm j1 j2 j3 j4 j5 j6 hbw hB hB' hcb hgb hBlt
    gi_wp2_with fail
    refine ⟨trivial, ?_⟩
    refine (CallsIn.inRound l (callsIn_wide.2 hgc)).mono ?_
    rintro e w4 ⟨v4, rfl, hr4, hb4⟩
    obtain ⟨rb, ra, rL, rc, rfl⟩ := hr4.form
    have T5 := hide (J5.out.keep hb4)
    obtain ⟨p0, p1, p2, p3, _, _⟩ := T5.out.every
    have HR4 := hide hr4
    have HB4 := hide hb4
    clear hgc hr4 hb4 b0 b1 s0 s1
    gi_wp2
    have hbut := T5.out.but (.bool rb) (.slice ra rL rc)
    refine ⟨((keepsFrom_of HB4.out).trans (((KeepsOthers.setCell _ _ _).trans (KeepsOthers.setCell _ _ _)).from _)), ⟨⟨?_, hbut.row (J2.out.below HB4.out), (J3.out.below HB4.out).k32 hbut.k32, (J4.out.keep HB4.out).other (by omega) _ _⟩, rb, ra, rL, rc, T5.out.put _ _, ?_⟩, below_put (bafter HBW.out HB4.out (Nat.le_refl _)) (by omega) _ _⟩
    · exact (hbut.same B0 (by
        intro e
        have h1 := J1.out.keep HB4.out
        rw [e] at h1
        exact absurd (h1.symm.trans T5.out) (by simp))).trans (J1.out.keep HB4.out)
    · rw [gcdL_step HM.out]
      have h9 := HR4.out.put T5.out (.bool rb) (.slice ra rL rc)
      rw [Int.natAbs_natCast] at h9
      exact h9
  case done =>
    rintro D W hD ⟨⟨j1, j2, j3, j4⟩, sn, sa, sL, sc, j5, j6⟩ hbw hK
    rw [List.take_length] at j6
    obtain ⟨s0, s1, _, _, _, _⟩ := j5.every
    obtain ⟨r0, r1, r2, r3, _, _⟩ := j4.every
    have J4 := hide j4
    have J6 := hide j6
    have HBW := hide hbw
    have HK := hide hK
    have HD := hide hD
    clear j1 j2 j3 j4 j5 j6 hbw hK hD
    go_wp2
    have hK' := ((KeepsOthers.setCell W ⟨w.heap.size + 1, 0, none⟩ (.bool sn)).trans (KeepsOthers.setCell _ ⟨w.heap.size + 1, 1, none⟩ (.slice sa sL sc))).same D _ HK.out rfl
    refine ⟨by simp, .inl ⟨_, _, rfl, run_takeDeferred hK', ?_⟩⟩
    have hcel := cel_put (.deferred none) hK' rfl
    refine ⟨_, results_big rfl rfl (hcel.two (J4.out.put _ _)), ?_⟩
    exact ⟨_, ps M3, rfl, (J6.out.put J4.out _ _).k32 hcel.k32, HN3.out, HC3.out, (below_put HBW.out (by omega) _ _).trans (belowK_b (w := w) (Nat.le_refl _) _ D _ _ (by have h1 := HD.out; have h2 := HBA.out.size; have h3 := HB3.out.size; omega) hK' rfl rfl)⟩
  case stop => exact fun D c k W hD hk h hb hK => h.elim

end Go.Proofs.YtbjolmgobeagoaaGreatDoor

namespace Go.Proofs.YtbjolmgobeagoaaGreatDoor
set_option linter.unusedVariables false
set_option linter.unusedSimpArgs false
set_option maxRecDepth 100000
open Go Go.RowKit Go.Shelf Go.Lib

def RContE (w : World) (M : List Pt) (e : Ending) (w' : World) : Prop := ∃ rv l, e = .returned rv ∧ NRes w' rv (gcdL l : Int) ∧ NF l ∧ (∀ u, cf u l = cf u (ps M)) ∧ Below w.heap.size w w'

set_option maxHeartbeats 4000000 in
theorem rcontent_calls {K : Nat} {w : World} {v : Value} {c : Int} {M : List Pt} (h : RTerm w v c M) (hc : c.natAbs < 10 ^ K) (hb : BndT K (ps M)) (hl : M.length ≤ 100) (hK : K ≤ 700) :
    Calls Tryz.prog 17 #[v] w fun e w' => RContE w M e w' := by
  obtain ⟨cn, ca, cL, cc, pa, pl, pc, rfl⟩ := h.form
  have tb := ((Thr.new w (.bool cn) (.slice ca cL cc) (.slice pa pl pc) 35).alloc (.cells #[.bool false, .slice none 0 0] 32)).alloc (.cells #[.bool false, .slice none 0 0] 32)
  have tr := (Two.new1 w (.cells #[.bool cn, .slice ca cL cc, .slice pa pl pc] 35) (.bool false) (.slice none 0 0) 32).alloc (.cells #[.bool false, .slice none 0 0] 32)
  have ts := Two.new ((w.alloc (.cells #[.bool cn, .slice ca cL cc, .slice pa pl pc] 35)).alloc (.cells #[.bool false, .slice none 0 0] 32)) (.bool false) (.slice none 0 0) 32
  rw [World.size_alloc, World.size_alloc] at ts
  have hba := bel3 w (.cells #[.bool cn, .slice ca cL cc, .slice pa pl pc] 35) (.cells #[.bool false, .slice none 0 0] 32) (.cells #[.bool false, .slice none 0 0] 32)
  generalize hwA : ((w.alloc (.cells #[.bool cn, .slice ca cL cc, .slice pa pl pc] 35)).alloc (.cells #[.bool false, .slice none 0 0] 32)).alloc (.cells #[.bool false, .slice none 0 0] 32) = wA at *
  have hno := rnormT_calls (h.below hba) hc hb hl hK
  have HWA := hide hwA
  have TR := hide tr
  have TS := hide ts
  have HBA := hide hba
  have HBD := hide hb
  obtain ⟨c0, c1, c2, _, _, _⟩ := tb.every
  obtain ⟨K2, hK2⟩ : ∃ K2, K2 = K + 100 := ⟨_, rfl⟩
  clear hwA tr ts hba tb h hb hc
  go_enter Tryz.func17, Tryz.ntmps17
  go_upto_region 2 with fail
  rw [HWA.out]
  go_wp2_with fail
  refine hno.mono ?_
  rintro e w1 ⟨v1, M1, rfl, ht1, ⟨hn1, hc1⟩, hb1⟩
  obtain ⟨_, _, _, _, _, _, _, rfl, _, hr1, hg1⟩ := ht1
  have hpl := hr1
  obtain ⟨_, _, e, _, _, _⟩ := hpl
  simp only [Value.slice.injEq] at e
  obtain ⟨rfl, rfl, rfl⟩ := e
  have hl1 : M1.length ≤ 100 := by have := len_ps hn1 hc1; rw [ps_length] at this; omega
  have HBN : Hid (BndT K2 (ps M1)) := bndT_up (nf_bndT hn1 hc1 HBD.out) (by rw [ps_length]; omega)
  have HR1 := hide hr1
  have HG1 := hide hg1
  have HN1 := hide hn1
  have HC1 := hide hc1
  have TR1 := hide (TR.out.keep hb1)
  have TS1 := hide (TS.out.keep hb1)
  have HB1 := hide (bafter HBA.out hb1 (Nat.le_refl _))
  have hfp := field_parts w1
  generalize hLn : M1.length = Ln at *
  have HLN := hide hLn
  clear hno hr1 hg1 hn1 hc1 hb1 c0 c1 c2 hLn
  go_wp2
  clear hfp
  go_loopw [5] (fun iv wr => ∃ (i : Nat) (sn : Bool) (sa : Option Addr) (sL sc : Nat), i ≤ Ln ∧ iv = .int .i64 (i : Int) ∧ Two wr (w.heap.size + 1 + 1) (.bool sn) (.slice sa sL sc) 32 ∧ NRes wr (.agg #[.bool sn, .slice sa sL sc]) (gcdL (ps (M1.take i)) : Int) ∧ Two wr (w.heap.size + 1) (.bool false) (.slice none 0 0) 32 ∧ RowP wr _ M1 ∧ GoodN wr M1 ∧ Below w.heap.size w wr) (fun iv _ => Ln - (RowKit.intOf iv).toNat)
  case atStart => exact ⟨0, _, _, _, _, Nat.zero_le _, rfl, TS1.out, nres_zero _, TR1.out, HR1.out, HG1.out, HB1.out⟩
  case round =>
    obtain ⟨i, sn, sa, sL, sc, hi, rfl, hts, hbr, htr, hrow, hgd, hbw⟩ := hrel
    by_cases hlt : i < Ln
    · obtain ⟨⟨vr, neg, mv, z⟩, hm⟩ : ∃ m, M1[i]? = some m := ⟨_, List.getElem?_eq_getElem (by rw [HLN.out]; exact hlt)⟩
      obtain ⟨ma, mL, mc, e⟩ := hgd.sl _ (List.mem_of_getElem? hm)
      simp only at e
      subst e
      have HROW := hide hrow
      obtain ⟨_, _, e, _, _, h3⟩ := hrow
      simp only [Value.slice.injEq] at e
      obtain ⟨rfl, eL, rfl⟩ := e
      clear eL
      obtain ⟨b, o, rfl, hc⟩ := h3 i _ hm
      have HC := hide hc
      have d1 : (i : Int) < (Ln : Int) := by omega
      have d0 : (0 : Int) ≤ (i : Int) := by omega
      have HM := hide hm
      have HTS := hide hts
      have HTR := hide htr
      have HBW := hide hbw
      have HGD := hide hgd
      have hzb : z.natAbs < 10 ^ K2 := HBN.out (vr, z) (List.mem_map.2 ⟨_, List.mem_of_getElem? hm, rfl⟩)
      have hsb : (gcdL (ps (M1.take i)) : Int).natAbs < 10 ^ K2 := by
        rw [Int.natAbs_natCast]
        exact gcdL_less (Nat.pow_pos (by decide)) (bndT_take HBN.out)
      have hga := (hgd _ (List.mem_of_getElem? hm)).2
      have HGC := hide (fun (W : World) (h : Below wr.heap.size wr W) => rngcd_calls (K := K2) ((hbr.below h).arg hsb) ((hga.below h).arg hzb) (by omega))
      clear hts hbr htr hbw hm hc hga hsb hzb h3 hgd
      have HS : Hid (∀ Y : World, Below wr.heap.size wr Y → Y.cell? ⟨b, o + i * 3 + 1, none⟩ = some (.bool neg) ∧ Y.cell? ⟨b, o + i * 3 + 2, none⟩ = some (.slice ma mL mc)) := fun Y hY => by
        obtain ⟨h2, h3, h4⟩ := HC.out.below hY
        exact ⟨h3, h4⟩
      go_upto_region 6 with fail
      refine wp_region_held_drew (S := fun Y : World => Y.cell? ⟨b, o + i * 3 + 1, none⟩ = some (.bool neg) ∧ Y.cell? ⟨b, o + i * 3 + 2, none⟩ = some (.slice ma mL mc)) (by kernel_rfl) ?_ (fun hHeld => ?_)
      · exact HS.out _ (by (first | exact (Below.refl _ _).drew | exact Below.refl _ _))
      refine takeD (i := 1) (v := ?v1) (some 17) rfl (by kernel_rfl) (by kernel_rfl) (by kernel_rfl) (fun _ _ _ h => h) (Or.inl ⟨by rfl, ?hy1⟩) (by assumption) (by rfl) ?rest1
      case hy1 => first | (intro w hSw; (try dsimp only at hSw); obtain ⟨q0, q1⟩ := hSw; go_simp; done) | (intro w hSw; (try dsimp only at hSw); obtain ⟨q0, q1⟩ := hSw; go_simp; with_reducible rfl)
      try simp only [Act.put, List.setIfInBounds_toArray, List.set_cons_zero, List.set_cons_succ]
      refine takeD (i := 2) (v := ?v2) (some 18) rfl (by kernel_rfl) (by kernel_rfl) (by kernel_rfl) (fun _ _ _ h => h) (Or.inl ⟨by rfl, ?hy2⟩) (by assumption) (by rfl) ?rest2
      case hy2 => first | (intro w hSw; (try dsimp only at hSw); obtain ⟨q0, q1⟩ := hSw; go_simp; done) | (intro w hSw; (try dsimp only at hSw); obtain ⟨q0, q1⟩ := hSw; go_simp; with_reducible rfl)
      try simp only [Act.put, List.setIfInBounds_toArray, List.set_cons_zero, List.set_cons_succ]
      refine takeD (i := 3) (v := ?v3) (some 19) rfl (by kernel_rfl) (by kernel_rfl) (by kernel_rfl) (fun _ _ _ h => h) (Or.inl ⟨by rfl, ?hy3⟩) (by assumption) (by rfl) ?rest3
      case hy3 => first | (intro w hSw; (try dsimp only at hSw); obtain ⟨q0, q1⟩ := hSw; go_simp; done) | (intro w hSw; (try dsimp only at hSw); obtain ⟨q0, q1⟩ := hSw; go_simp; with_reducible rfl)
      try simp only [Act.put, List.setIfInBounds_toArray, List.set_cons_zero, List.set_cons_succ]
      refine takeD (i := 4) (v := ?v4) (some 20) rfl (by kernel_rfl) (by kernel_rfl) (by kernel_rfl) (fun _ _ _ h => h) (Or.inl ⟨by rfl, ?hy4⟩) (by assumption) (by rfl) ?rest4
      case hy4 => first | (intro w hSw; (try dsimp only at hSw); obtain ⟨q0, q1⟩ := hSw; go_simp; done) | (intro w hSw; (try dsimp only at hSw); obtain ⟨q0, q1⟩ := hSw; go_simp; with_reducible rfl)
      try simp only [Act.put, List.setIfInBounds_toArray, List.set_cons_zero, List.set_cons_succ]
      refine takeD (i := 5) (v := ?v5) (some 21) rfl (by kernel_rfl) (by kernel_rfl) (by kernel_rfl) (fun _ _ _ h => h) (Or.inl ⟨by rfl, ?hy5⟩) (by assumption) (by rfl) ?rest5
      case hy5 => first | (intro w hSw; (try dsimp only at hSw); obtain ⟨q0, q1⟩ := hSw; go_simp; done) | (intro w hSw; (try dsimp only at hSw); obtain ⟨q0, q1⟩ := hSw; go_simp; with_reducible rfl)
      try simp only [Act.put, List.setIfInBounds_toArray, List.set_cons_zero, List.set_cons_succ]
      obtain ⟨s0, s1, _, _, _, _⟩ := (HTS.out.keep ((Below.refl _ wr).drew)).every
      refine wpAnyH_ready (rs := [0]) (by kernel_rfl) (by simp) ?_
      refine AllReadyH.cons rfl (fun K hK => ?_) AllReadyH.nil
      go_simp
      refine hK.out _ _ (HS.out _ ((Below.refl _ _).drew)) (fun hHeld => ?_)
      clear hK K
      try simp only [Act.put, List.setIfInBounds_toArray, List.set_cons_zero, List.set_cons_succ]
      clear s0 s1
      refine wpAnyH_ready (rs := [6]) (by kernel_rfl) (by simp) ?_
      refine AllReadyH.cons rfl (fun K hK => ?_) AllReadyH.nil
      go_simp
      refine (HGC.out _ (by (first | exact (Below.refl _ _).drew | exact Below.refl _ _))).mono ?_
      rintro e w4 ⟨v4, rfl, hr4, hb4⟩
      obtain ⟨rb, ra, rL, rc, rfl⟩ := hr4.form
      have HB4 : Hid (Below wr.heap.size wr w4) := bafter (by (first | exact (Below.refl _ _).drew | exact Below.refl _ _)) hb4 (Nat.le_refl _)
      have HR4 := hide hr4
      clear hr4 hb4 hHeld
      go_wp2_with fail
      refine hK.out _ _ (HS.out _ HB4.out) (fun hHeld => ?_)
      clear hK K
      try simp only [Act.put, List.setIfInBounds_toArray, List.set_cons_zero, List.set_cons_succ]
      have HT4 := hide (HTS.out.keep HB4.out)
      obtain ⟨p0, p1, p2, p3, _, _⟩ := HT4.out.every
      have HBF := hide (below_put (bafter HBW.out HB4.out (Nat.le_refl _)) (show w.heap.size ≤ w.heap.size + 1 + 1 by omega) (.bool rb) (.slice ra rL rc))
      have HBU := hide (HT4.out.but (.bool rb) (.slice ra rL rc))
      have HRW := hide (HBU.out.row (HROW.out.below HB4.out))
      have HGW := hide ((HGD.out.below HB4.out).kr HBU.out.kr)
      have HS5 : Hid (let Y := (w4.setCell ⟨w.heap.size + 1 + 1, 0, none⟩ (.bool rb)).setCell ⟨w.heap.size + 1 + 1, 1, none⟩ (.slice ra rL rc); Y.cell? ⟨b, o + i * 3 + 1, none⟩ = some (.bool neg) ∧ Y.cell? ⟨b, o + i * 3 + 2, none⟩ = some (.slice ma mL mc)) := by
        have hne := HBU.out.no.off (a := ⟨b, o + i * 3, none⟩) (HC.out.below HB4.out).1
        obtain ⟨h2, h3, h4⟩ := (HC.out.below HB4.out).keep (W' := (w4.setCell ⟨w.heap.size + 1 + 1, 0, none⟩ (.bool rb)).setCell ⟨w.heap.size + 1 + 1, 1, none⟩ (.slice ra rL rc)) (fun a u hu ha => (World.cell?_of_block (HBU.out.same a.block (by rw [ha]; exact hne))).trans hu)
        exact ⟨h3, h4⟩
      refine wpAnyH_ready (rs := [7]) (by kernel_rfl) (by simp) ?_
      refine AllReadyH.cons rfl (fun K hK => ?_) AllReadyH.nil
      go_simp
      refine hK.out _ _ (HS5.out) (fun hHeld => ?_)
      clear hK K hHeld
      try simp only [Act.put, List.setIfInBounds_toArray, List.set_cons_zero, List.set_cons_succ]
      refine wpAnyH_done (by kernel_rfl) ?_ _
      clear p0 p1 p2 p3
      go_wp2
      go_roundw
      case rel =>
        refine ⟨i + 1, _, _, _, _, by omega, by go_num, HT4.out.put _ _, ?_, (HTR.out.keep HB4.out).other (by omega) _ _, HRW.out, HGW.out, HBF.out⟩
        rw [gcdL_step HM.out]
        have h9 := HR4.out.put HT4.out (.bool rb) (.slice ra rL rc)
        rw [Int.natAbs_natCast] at h9
        exact h9
      case measure => simp [RowKit.intOf]; omega
    · obtain rfl : i = Ln := by omega
      have d1 : ¬ (i : Int) < (i : Int) := by omega
      obtain ⟨s0, s1, _, _, _, _⟩ := hts.every
      obtain ⟨r0, r1, r2, r3, _, _⟩ := htr.every
      have HTR := hide htr
      have HBW := hide hbw
      have HBR := hide hbr
      clear hts htr hbw hbr hrow hgd
      go_wp2
      refine bodyPost_ret (results_num rfl rfl (HTR.out.put _ _)) rfl ?_
      refine ⟨_, ps M1, rfl, ?_, HN1.out, HC1.out, below_put HBW.out (by omega) _ _⟩
      have h1 := HBR.out
      rw [List.take_of_length_le (by rw [HLN.out]; omega)] at h1
      exact h1.put HTR.out _ _

end Go.Proofs.YtbjolmgobeagoaaGreatDoor

namespace Go.Proofs.YtbjolmgobeagoaaGreatDoor
set_option linter.unusedVariables false
set_option linter.unusedSimpArgs false
set_option maxRecDepth 100000
open Go Go.RowKit Go.Shelf Go.Lib

theorem rng_wf {n : Int} (h : (Lit.int .i64 n).wf = true) : Rng n := by
  simp [Lit.wf, IntKind.min, IntKind.max, IntKind.signed, IntKind.bits] at h
  unfold Rng
  omega
theorem BndT.of_cf {K : Nat} {l m : Ps} (h : NF l) (hc : ∀ u, cf u l = cf u m) (hb : BndT 80 m) (hm : m.length ≤ 12) (hK : K = 200) : BndT K l := bndT_up (nf_bndT h hc hb) (by omega)
theorem BRes.some {W : World} {v : Value} {z : Int} (h : BRes W v z) : ∃ b a L c, v = .agg #[.bool b, .slice a L c] := h.form

set_option maxHeartbeats 4000000 in
theorem lnorms_calls (w : World) (v0 : Value) (x : Int) {an : Bool} {aa : Option Addr} {aL ac : Nat} {ap : Option Addr} {al ak : Nat} {A : List Pt}
    (h : TermI w v0 an aa aL ac ap al ak A) (hx : Rng x) (htab : TabIs Tryz.prog w "internal/strconv.uint64pow10" .u64 pow10Tab) :
    Calls Tryz.prog 3 #[v0, .int .i64 x] w fun e w' => e = .returned (.bool true) ∧ Below w.heap.size w w' := by
  have e0 := h.1
  subst e0
  have tb := Thr.new w (.bool an) (.slice aa aL ac) (.slice ap al ak) 27
  have hba := bel w (.cells #[.bool an, .slice aa aL ac, .slice ap al ak] 27)
  generalize hwA : w.alloc (.cells #[.bool an, .slice aa aL ac, .slice ap al ak] 27) = wA at *
  have HWA := hide hwA
  have TB := hide tb
  have HBA := hide hba
  have HA := hide h
  have HX := hide hx
  have HTAB := hide htab
  have hlt := h.light hba
  obtain ⟨c0, c1, c2, _, _, _⟩ := tb.every
  clear hwA tb hba h htab hx
  go_enter Tryz.func3, Tryz.ntmps3
  go_upto_region 1 with fail
  rw [HWA.out]
  go_wp2_with fail
  refine hlt.mono ?_
  rintro e w1 ⟨r1, rfl, hl1, hb1⟩
  have HW1 := hide (bafter HBA.out hb1 (Nat.le_refl _))
  cases r1 with
  | false =>
    have hsm := summed_calls w1 (tab_keep HTAB.out HW1.out)
    clear hlt hl1 hb1 c0 c1 c2
    go_wp2_with fail
    refine hsm.mono ?_
    rintro e w2 ⟨rfl, hb2⟩
    have HW2 := hide (bafter HW1.out hb2 (Nat.le_refl _))
    clear hsm hb2
    go_wp2
    go_ret
    exact ⟨rfl, HW2.out⟩
  | true =>
    obtain ⟨c, hbo⟩ := HA.out.both (hl1.1 rfl)
    have TB1 := hide (TB.out.keep hb1)
    obtain ⟨x0, x1, x2, _, _, _⟩ := TB1.out.every
    have hof := hbo.of HW1.out
    have HBO := hide hbo
    clear hlt hl1 hb1 c0 c1 c2 hbo
    go_wp2_with fail
    refine hof.mono ?_
    rintro e w3 ⟨v3, M3, rfl, ht3, hp3, hb3⟩
    obtain ⟨tn, ta, tL, tc, tp, tl, tk, rfl⟩ := ht3.form
    have hbx := bel w3 (.cells #[.bool tn, .slice ta tL tc, .slice tp tl tk] 35)
    have TB2 := hide ((TB1.out.keep hb3).keep hbx)
    have TC2 := hide (Thr.new w3 (.bool tn) (.slice ta tL tc) (.slice tp tl tk) 35)
    have HT2 := hide (ht3.below hbx)
    have HP3 := hide hp3
    have HW2 := hide (bafter (bafter HW1.out hb3 (Nat.le_refl _)) hbx (Nat.le_refl _))
    have HNUM : Hid (NRes (w3.alloc (.cells #[.bool tn, .slice ta tL tc, .slice tp tl tk] 35)) (.agg #[.bool tn, .slice ta tL tc]) c) := by
      obtain ⟨_, _, _, _, _, _, _, e, h9, _⟩ := ht3
      cases e
      exact h9.below hbx
    have HL3 : Hid (M3.length ≤ 12) := by
      have h9 := congrArg List.length hp3
      rw [ps_length, ps_length] at h9
      have := HBO.out.len
      show _ ≤ _
      omega
    have HB3 : Hid (BndT 80 (ps M3)) := by
      show BndT 80 (ps M3)
      rw [hp3]
      exact HBO.out.bnd
    generalize hw2 : w3.alloc (.cells #[.bool tn, .slice ta tL tc, .slice tp tl tk] 35) = w2 at *
    have HWX := hide hw2
    obtain ⟨sb, hsb⟩ : ∃ sb, sb = w3.heap.size := ⟨_, rfl⟩
    rw [← hsb] at TC2
    have HSB := hide hsb
    obtain ⟨K9, hK9⟩ : ∃ K9, K9 = 200 := ⟨_, rfl⟩
    clear hof ht3 hp3 hb3 hbx hw2 x0 x1 x2
    have HS : Hid (∀ X : World, Below w2.heap.size w2 X → X.cell? ⟨w.heap.size, 0, none⟩ = some (.bool an) ∧ X.cell? ⟨w.heap.size, 1, none⟩ = some (.slice aa aL ac) ∧ X.cell? ⟨w.heap.size, 2, none⟩ = some (.slice ap al ak) ∧ X.cell? ⟨sb, 0, none⟩ = some (.bool tn) ∧ X.cell? ⟨sb, 1, none⟩ = some (.slice ta tL tc) ∧ X.cell? ⟨sb, 2, none⟩ = some (.slice tp tl tk)) := fun X hX => ⟨(TB2.out.keep hX).c0, (TB2.out.keep hX).c1, (TB2.out.keep hX).c2, (TC2.out.keep hX).c0, (TC2.out.keep hX).c1, (TC2.out.keep hX).c2⟩
    go_upto_region 4 with fail
    rw [HWX.out, ← HSB.out]
    clear hsb
    refine wp_region_held_drew (S := fun X : World => X.cell? ⟨w.heap.size, 0, none⟩ = some (.bool an) ∧ X.cell? ⟨w.heap.size, 1, none⟩ = some (.slice aa aL ac) ∧ X.cell? ⟨w.heap.size, 2, none⟩ = some (.slice ap al ak) ∧ X.cell? ⟨sb, 0, none⟩ = some (.bool tn) ∧ X.cell? ⟨sb, 1, none⟩ = some (.slice ta tL tc) ∧ X.cell? ⟨sb, 2, none⟩ = some (.slice tp tl tk)) (by kernel_rfl) ?_ (fun hHeld => ?_)
    · exact HS.out _ (by (first | exact (Below.refl _ _).drew | exact Below.refl _ _))
    refine wpAnyH_ready (rs := [0]) (by kernel_rfl) (by simp) ?_
    refine AllReadyH.cons rfl (fun K hK => ?_) AllReadyH.nil
    go_simp
    refine (summed_calls _ (tab_keep HTAB.out (bafter HW2.out (by (first | exact (Below.refl _ _).drew | exact Below.refl _ _)) (Nat.le_refl _)))).mono ?_
    rintro e w4 ⟨rfl, hb4⟩
    have HB4 : Hid (Below w2.heap.size w2 w4) := bafter (by (first | exact (Below.refl _ _).drew | exact Below.refl _ _)) hb4 (Nat.le_refl _)
    have HBS4 := hide hb4
    clear hb4 hHeld
    go_wp2_with fail
    refine hK.out _ _ (HS.out _ HB4.out) (fun hHeld => ?_)
    clear hK K
    try simp only [Act.put, List.setIfInBounds_toArray, List.set_cons_zero, List.set_cons_succ]
    refine takeD (i := 1) (v := ?v1) (some 13) rfl (by kernel_rfl) (by kernel_rfl) (by kernel_rfl) (fun _ _ _ h => h) (Or.inl ⟨by rfl, ?hy1⟩) (by assumption) (by rfl) ?rest1
    case hy1 => first | (intro w hSw; (try dsimp only at hSw); obtain ⟨q0, q1, q2, q3, q4, q5⟩ := hSw; go_simp; done) | (intro w hSw; (try dsimp only at hSw); obtain ⟨q0, q1, q2, q3, q4, q5⟩ := hSw; go_simp; with_reducible rfl)
    try simp only [Act.put, List.setIfInBounds_toArray, List.set_cons_zero, List.set_cons_succ]
    refine takeD (i := 2) (v := ?v2) (some 14) rfl (by kernel_rfl) (by kernel_rfl) (by kernel_rfl) (fun _ _ _ h => h) (Or.inl ⟨by rfl, ?hy2⟩) (by assumption) (by rfl) ?rest2
    case hy2 => first | (intro w hSw; (try dsimp only at hSw); obtain ⟨q0, q1, q2, q3, q4, q5⟩ := hSw; go_simp; done) | (intro w hSw; (try dsimp only at hSw); obtain ⟨q0, q1, q2, q3, q4, q5⟩ := hSw; go_simp; with_reducible rfl)
    try simp only [Act.put, List.setIfInBounds_toArray, List.set_cons_zero, List.set_cons_succ]
    refine takeD (i := 4) (v := ?v3) (some 16) rfl (by kernel_rfl) (by kernel_rfl) (by kernel_rfl) (fun _ _ _ h => h) (Or.inl ⟨by rfl, ?hy3⟩) (by assumption) (by rfl) ?rest3
    case hy3 => first | (intro w hSw; (try dsimp only at hSw); obtain ⟨q0, q1, q2, q3, q4, q5⟩ := hSw; go_simp; done) | (intro w hSw; (try dsimp only at hSw); obtain ⟨q0, q1, q2, q3, q4, q5⟩ := hSw; go_simp; with_reducible rfl)
    try simp only [Act.put, List.setIfInBounds_toArray, List.set_cons_zero, List.set_cons_succ]
    refine wpAnyH_ready (rs := [3]) (by kernel_rfl) (by simp) ?_
    refine AllReadyH.cons rfl (fun K hK => ?_) AllReadyH.nil
    go_simp
    refine (lnorm_calls (HBO.out.term.below (bafter HW2.out HB4.out (Nat.le_refl _))) (by omega)).mono ?_
    rintro e w5 ⟨v5, M5, rfl, ht5, hc5, hb5⟩
    have HB5 : Hid (Below w2.heap.size w2 w5) := bafter HB4.out hb5 (Nat.le_refl _)
    have HBS5 := hide hb5
    obtain ⟨bn, ba, bL, bc, bp, bl, bk, rfl⟩ := ht5.form
    have HT5 := hide ht5
    have HC5 := hide hc5
    clear ht5 hc5 hb5 hHeld
    go_wp2_with fail
    refine hK.out _ _ (HS.out _ HB5.out) (fun hHeld => ?_)
    clear hK K
    try simp only [Act.put, List.setIfInBounds_toArray, List.set_cons_zero, List.set_cons_succ]
    refine wpAnyH_ready (rs := [5]) (by kernel_rfl) (by simp) ?_
    refine AllReadyH.cons rfl (fun K hK => ?_) AllReadyH.nil
    go_simp
    refine (rnormT_calls (K := 80) (HT2.out.below HB5.out) HBO.out.cb HB3.out (by have := HL3.out; omega) (by omega)).mono ?_
    rintro e w6 ⟨v6, M6, rfl, ht6, hc6, hb6⟩
    have HB6 : Hid (Below w2.heap.size w2 w6) := bafter HB5.out hb6 (Nat.le_refl _)
    have HBS6 := hide hb6
    obtain ⟨dn, da, dL, dc, dp, dl, dk, rfl⟩ := ht6.form
    have HT6 := hide ht6
    have HC6 := hide hc6
    clear ht6 hc6 hb6 hHeld
    go_wp2_with fail
    refine hK.out _ _ (HS.out _ HB6.out) (fun hHeld => ?_)
    clear hK K
    try simp only [Act.put, List.setIfInBounds_toArray, List.set_cons_zero, List.set_cons_succ]
    have HEQ : Hid (ps M5 = ps M6) := nf_unique HT5.out.nf HC6.out.1 (fun u => by rw [HC5.out, HC6.out.2, HP3.out])
    have HBN : Hid (BndT K9 (ps M5)) := BndT.of_cf HT5.out.nf HC5.out HBO.out.bnd (by rw [ps_length]; exact HBO.out.len) hK9
    have hcb9 : c.natAbs < 10 ^ K9 := ten_up HBO.out.cb (by omega)
    have HCB9 := hide hcb9
    clear hcb9
    have hl5 : M5.length ≤ 1000 := by have := len_of HT5.out.nf HC5.out; have := HBO.out.len; omega
    refine wpAnyH_ready (rs := [6]) (by kernel_rfl) (by simp) ?_
    refine AllReadyH.cons rfl (fun K hK => ?_) AllReadyH.nil
    go_simp
    refine (gsameT_calls (K := K9) (HT5.out.below HBS6.out) HT6.out HEQ.out HCB9.out HBN.out hl5 (by omega)).mono ?_
    rintro e w7 ⟨rfl, hb7⟩
    have HB7 : Hid (Below w2.heap.size w2 w7) := bafter HB6.out hb7 (Nat.le_refl _)
    have HBS7 := hide hb7
    clear hb7 hHeld
    go_wp2_with fail
    refine hK.out _ _ (HS.out _ HB7.out) (fun hHeld => ?_)
    clear hK K
    try simp only [Act.put, List.setIfInBounds_toArray, List.set_cons_zero, List.set_cons_succ]
    clear hl5
    refine takeD (i := 7) (v := ?v4) (some 19) rfl (by kernel_rfl) (by kernel_rfl) (by kernel_rfl) (fun _ _ _ h => h) (Or.inl ⟨by rfl, ?hy4⟩) (by assumption) (by rfl) ?rest4
    case hy4 => first | (intro w hSw; (try dsimp only at hSw); obtain ⟨q0, q1, q2, q3, q4, q5⟩ := hSw; go_simp; done) | (intro w hSw; (try dsimp only at hSw); obtain ⟨q0, q1, q2, q3, q4, q5⟩ := hSw; go_simp; with_reducible rfl)
    try simp only [Act.put, List.setIfInBounds_toArray, List.set_cons_zero, List.set_cons_succ]
    refine takeD (i := 8) (v := ?v5) (some 20) rfl (by kernel_rfl) (by kernel_rfl) (by kernel_rfl) (fun _ _ _ h => h) (Or.inl ⟨by rfl, ?hy5⟩) (by assumption) (by rfl) ?rest5
    case hy5 => first | (intro w hSw; (try dsimp only at hSw); obtain ⟨q0, q1, q2, q3, q4, q5⟩ := hSw; go_simp; done) | (intro w hSw; (try dsimp only at hSw); obtain ⟨q0, q1, q2, q3, q4, q5⟩ := hSw; go_simp; with_reducible rfl)
    try simp only [Act.put, List.setIfInBounds_toArray, List.set_cons_zero, List.set_cons_succ]
    refine takeD (i := 9) (v := ?v6) (some 21) rfl (by kernel_rfl) (by kernel_rfl) (by kernel_rfl) (fun _ _ _ h => h) (Or.inl ⟨by rfl, ?hy6⟩) (by assumption) (by rfl) ?rest6
    case hy6 => first | (intro w hSw; (try dsimp only at hSw); obtain ⟨q0, q1, q2, q3, q4, q5⟩ := hSw; go_simp; done) | (intro w hSw; (try dsimp only at hSw); obtain ⟨q0, q1, q2, q3, q4, q5⟩ := hSw; go_simp; with_reducible rfl)
    try simp only [Act.put, List.setIfInBounds_toArray, List.set_cons_zero, List.set_cons_succ]
    refine takeD (i := 11) (v := ?v7) (some 23) rfl (by kernel_rfl) (by kernel_rfl) (by kernel_rfl) (fun _ _ _ h => h) (Or.inl ⟨by rfl, ?hy7⟩) (by assumption) (by rfl) ?rest7
    case hy7 => first | (intro w hSw; (try dsimp only at hSw); obtain ⟨q0, q1, q2, q3, q4, q5⟩ := hSw; go_simp; done) | (intro w hSw; (try dsimp only at hSw); obtain ⟨q0, q1, q2, q3, q4, q5⟩ := hSw; go_simp; with_reducible rfl)
    try simp only [Act.put, List.setIfInBounds_toArray, List.set_cons_zero, List.set_cons_succ]
    refine wpAnyH_ready (rs := [10]) (by kernel_rfl) (by simp) ?_
    refine AllReadyH.cons rfl (fun K hK => ?_) AllReadyH.nil
    go_simp
    refine (content_calls (HBO.out.term.below (bafter HW2.out HB7.out (Nat.le_refl _))) (by omega)).mono ?_
    rintro e w8 ⟨v8, l8, rfl, hr8, hn8, hc8, hb8⟩
    have HB8 : Hid (Below w2.heap.size w2 w8) := bafter HB7.out hb8 (Nat.le_refl _)
    have HBS8 := hide hb8
    obtain ⟨fn, fa, fL, fc, rfl⟩ := hr8.form
    have HR8 := hide hr8
    have HN8 := hide hn8
    have HC8 := hide hc8
    clear hr8 hn8 hc8 hb8 hHeld
    go_wp2_with fail
    refine hK.out _ _ (HS.out _ HB8.out) (fun hHeld => ?_)
    clear hK K
    try simp only [Act.put, List.setIfInBounds_toArray, List.set_cons_zero, List.set_cons_succ]
    refine wpAnyH_ready (rs := [12]) (by kernel_rfl) (by simp) ?_
    refine AllReadyH.cons rfl (fun K hK => ?_) AllReadyH.nil
    go_simp
    refine (rcontent_calls (K := 80) (HT2.out.below HB8.out) HBO.out.cb HB3.out (by have := HL3.out; omega) (by omega)).mono ?_
    rintro e w9 ⟨v9, l9, rfl, hr9, hn9, hc9, hb9⟩
    have HB9 : Hid (Below w2.heap.size w2 w9) := bafter HB8.out hb9 (Nat.le_refl _)
    have HBS9 := hide hb9
    obtain ⟨gn, ga, gL, gc, rfl⟩ := hr9.form
    have HR9 := hide hr9
    have HN9 := hide hn9
    have HC9 := hide hc9
    clear hr9 hn9 hc9 hb9 hHeld
    go_wp2_with fail
    refine hK.out _ _ (HS.out _ HB9.out) (fun hHeld => ?_)
    clear hK K
    try simp only [Act.put, List.setIfInBounds_toArray, List.set_cons_zero, List.set_cons_succ]
    have hleq : l9 = l8 := nf_unique HN9.out HN8.out (fun u => by rw [HC9.out, HC8.out, HP3.out])
    have hgb : (gcdL l8 : Int).natAbs < 10 ^ K9 := by
      rw [Int.natAbs_natCast]
      exact gcdL_less (Nat.pow_pos (by decide)) (BndT.of_cf HN8.out HC8.out HBO.out.bnd (by rw [ps_length]; exact HBO.out.len) hK9)
    have HR9B : Hid (NRes w9 (.agg #[.bool gn, .slice ga gL gc]) (gcdL l8 : Int)) := by
      have h9 := HR9.out
      rw [hleq] at h9
      exact h9
    have HGB := hide hgb
    clear hleq hgb
    refine wpAnyH_ready (rs := [13]) (by kernel_rfl) (by simp) ?_
    refine AllReadyH.cons rfl (fun K hK => ?_) AllReadyH.nil
    go_simp
    refine (gsame_true (K := K9) (HR8.out.below HBS9.out) (HR9B.out.arg HGB.out) (by omega)).mono ?_
    rintro e w10 ⟨rfl, hb10⟩
    have HB10 : Hid (Below w2.heap.size w2 w10) := bafter HB9.out hb10 (Nat.le_refl _)
    have HBS10 := hide hb10
    clear hb10 hHeld
    go_wp2_with fail
    refine hK.out _ _ (HS.out _ HB10.out) (fun hHeld => ?_)
    clear hK K
    try simp only [Act.put, List.setIfInBounds_toArray, List.set_cons_zero, List.set_cons_succ]
    refine takeD (i := 14) (v := ?v8) (some 26) rfl (by kernel_rfl) (by kernel_rfl) (by kernel_rfl) (fun _ _ _ h => h) (Or.inl ⟨by rfl, ?hy8⟩) (by assumption) (by rfl) ?rest8
    case hy8 => first | (intro w hSw; (try dsimp only at hSw); obtain ⟨q0, q1, q2, q3, q4, q5⟩ := hSw; go_simp; done) | (intro w hSw; (try dsimp only at hSw); obtain ⟨q0, q1, q2, q3, q4, q5⟩ := hSw; go_simp; with_reducible rfl)
    try simp only [Act.put, List.setIfInBounds_toArray, List.set_cons_zero, List.set_cons_succ]
    refine takeD (i := 15) (v := ?v9) (some 27) rfl (by kernel_rfl) (by kernel_rfl) (by kernel_rfl) (fun _ _ _ h => h) (Or.inl ⟨by rfl, ?hy9⟩) (by assumption) (by rfl) ?rest9
    case hy9 => first | (intro w hSw; (try dsimp only at hSw); obtain ⟨q0, q1, q2, q3, q4, q5⟩ := hSw; go_simp; done) | (intro w hSw; (try dsimp only at hSw); obtain ⟨q0, q1, q2, q3, q4, q5⟩ := hSw; go_simp; with_reducible rfl)
    try simp only [Act.put, List.setIfInBounds_toArray, List.set_cons_zero, List.set_cons_succ]
    refine takeD (i := 16) (v := ?v10) (some 28) rfl (by kernel_rfl) (by kernel_rfl) (by kernel_rfl) (fun _ _ _ h => h) (Or.inl ⟨by rfl, ?hy10⟩) (by assumption) (by rfl) ?rest10
    case hy10 => first | (intro w hSw; (try dsimp only at hSw); obtain ⟨q0, q1, q2, q3, q4, q5⟩ := hSw; go_simp; done) | (intro w hSw; (try dsimp only at hSw); obtain ⟨q0, q1, q2, q3, q4, q5⟩ := hSw; go_simp; with_reducible rfl)
    try simp only [Act.put, List.setIfInBounds_toArray, List.set_cons_zero, List.set_cons_succ]
    refine takeD (i := 18) (v := ?v11) (some 30) rfl (by kernel_rfl) (by kernel_rfl) (by kernel_rfl) (fun _ _ _ h => h) (Or.inl ⟨by rfl, ?hy11⟩) (by assumption) (by rfl) ?rest11
    case hy11 => first | (intro w hSw; (try dsimp only at hSw); obtain ⟨q0, q1, q2, q3, q4, q5⟩ := hSw; go_simp; done) | (intro w hSw; (try dsimp only at hSw); obtain ⟨q0, q1, q2, q3, q4, q5⟩ := hSw; go_simp; with_reducible rfl)
    try simp only [Act.put, List.setIfInBounds_toArray, List.set_cons_zero, List.set_cons_succ]
    refine wpAnyH_ready (rs := [17]) (by kernel_rfl) (by simp) ?_
    refine AllReadyH.cons rfl (fun K hK => ?_) AllReadyH.nil
    go_simp
    refine (isconst_calls (HBO.out.term.below (bafter HW2.out HB10.out (Nat.le_refl _))) (by omega)).mono ?_
    rintro e w11 ⟨l11, rfl, hn11, hc11, hb11⟩
    have HB11 : Hid (Below w2.heap.size w2 w11) := bafter HB10.out hb11 (Nat.le_refl _)
    have HBS11 := hide hb11
    have HN11 := hide hn11
    have HC11 := hide hc11
    obtain ⟨bq, hbq⟩ : ∃ bq, bq = decide (l11.length = 0) := ⟨_, rfl⟩
    rw [← hbq]
    have HBQ := hide hbq
    clear hn11 hc11 hb11 hHeld hbq
    go_wp2_with fail
    refine hK.out _ _ (HS.out _ HB11.out) (fun hHeld => ?_)
    clear hK K
    try simp only [Act.put, List.setIfInBounds_toArray, List.set_cons_zero, List.set_cons_succ]
    refine wpAnyH_ready (rs := [19]) (by kernel_rfl) (by simp) ?_
    refine AllReadyH.cons rfl (fun K hK => ?_) AllReadyH.nil
    go_simp
    refine (risconst_calls (K := 80) (HT2.out.below HB11.out) HBO.out.cb HB3.out (by have := HL3.out; omega) (by omega)).mono ?_
    rintro e w12 ⟨l12, rfl, hn12, hc12, hb12⟩
    have HB12 : Hid (Below w2.heap.size w2 w12) := bafter HB11.out hb12 (Nat.le_refl _)
    have HBS12 := hide hb12
    have hleq : l12 = l11 := nf_unique hn12 HN11.out (fun u => by rw [hc12, HC11.out, HP3.out])
    rw [hleq, ← HBQ.out]
    clear hn12 hc12 hb12 hHeld hleq
    go_wp2_with fail
    refine hK.out _ _ (HS.out _ HB12.out) (fun hHeld => ?_)
    clear hK K
    try simp only [Act.put, List.setIfInBounds_toArray, List.set_cons_zero, List.set_cons_succ]
    refine takeD (i := 20) (v := ?v12) (some 32) rfl (by kernel_rfl) (by kernel_rfl) (by kernel_rfl) (fun _ _ _ h => h) (Or.inl ⟨by rfl, ?hy12⟩) (by assumption) (by rfl) ?rest12
    case hy12 => first | (intro w hSw; (try dsimp only at hSw); obtain ⟨q0, q1, q2, q3, q4, q5⟩ := hSw; go_simp; done) | (intro w hSw; (try dsimp only at hSw); obtain ⟨q0, q1, q2, q3, q4, q5⟩ := hSw; go_simp; with_reducible rfl)
    try simp only [Act.put, List.setIfInBounds_toArray, List.set_cons_zero, List.set_cons_succ]
    refine takeD (i := 21) (v := ?v13) (some 33) rfl (by kernel_rfl) (by kernel_rfl) (by kernel_rfl) (fun _ _ _ h => h) (Or.inl ⟨by rfl, ?hy13⟩) (by assumption) (by rfl) ?rest13
    case hy13 => first | (intro w hSw; (try dsimp only at hSw); obtain ⟨q0, q1, q2, q3, q4, q5⟩ := hSw; go_simp; done) | (intro w hSw; (try dsimp only at hSw); obtain ⟨q0, q1, q2, q3, q4, q5⟩ := hSw; go_simp; with_reducible rfl)
    try simp only [Act.put, List.setIfInBounds_toArray, List.set_cons_zero, List.set_cons_succ]
    refine takeD (i := 22) (v := ?v14) (some 34) rfl (by kernel_rfl) (by kernel_rfl) (by kernel_rfl) (fun _ _ _ h => h) (Or.inl ⟨by rfl, ?hy14⟩) (by assumption) (by rfl) ?rest14
    case hy14 => first | (intro w hSw; (try dsimp only at hSw); obtain ⟨q0, q1, q2, q3, q4, q5⟩ := hSw; go_simp; done) | (intro w hSw; (try dsimp only at hSw); obtain ⟨q0, q1, q2, q3, q4, q5⟩ := hSw; go_simp; with_reducible rfl)
    try simp only [Act.put, List.setIfInBounds_toArray, List.set_cons_zero, List.set_cons_succ]
    refine takeD (i := 23) (v := ?v15) (some 35) rfl (by kernel_rfl) (by kernel_rfl) (by kernel_rfl) (fun _ _ _ h => h) (Or.inl ⟨by rfl, ?hy15⟩) (by assumption) (by rfl) ?rest15
    case hy15 => first | (intro w hSw; (try dsimp only at hSw); obtain ⟨q0, q1, q2, q3, q4, q5⟩ := hSw; go_simp; done) | (intro w hSw; (try dsimp only at hSw); obtain ⟨q0, q1, q2, q3, q4, q5⟩ := hSw; go_simp; with_reducible rfl)
    try simp only [Act.put, List.setIfInBounds_toArray, List.set_cons_zero, List.set_cons_succ]
    refine takeD (i := 24) (v := ?v16) (some 36) rfl (by kernel_rfl) (by kernel_rfl) (by kernel_rfl) (fun _ _ _ h => h) (Or.inl ⟨by rfl, ?hy16⟩) (by assumption) (by rfl) ?rest16
    case hy16 => first | (intro w hSw; (try dsimp only at hSw); obtain ⟨q0, q1, q2, q3, q4, q5⟩ := hSw; go_simp; done) | (intro w hSw; (try dsimp only at hSw); obtain ⟨q0, q1, q2, q3, q4, q5⟩ := hSw; go_simp; with_reducible rfl)
    try simp only [Act.put, List.setIfInBounds_toArray, List.set_cons_zero, List.set_cons_succ]
    refine takeD (i := 26) (v := ?v17) (some 38) rfl (by kernel_rfl) (by kernel_rfl) (by kernel_rfl) (fun _ _ _ h => h) (Or.inl ⟨by rfl, ?hy17⟩) (by assumption) (by rfl) ?rest17
    case hy17 => first | (intro w hSw; (try dsimp only at hSw); obtain ⟨q0, q1, q2, q3, q4, q5⟩ := hSw; go_simp; done) | (intro w hSw; (try dsimp only at hSw); obtain ⟨q0, q1, q2, q3, q4, q5⟩ := hSw; go_simp; with_reducible rfl)
    try simp only [Act.put, List.setIfInBounds_toArray, List.set_cons_zero, List.set_cons_succ]
    refine takeD (i := 27) (v := ?v18) (some 39) rfl (by kernel_rfl) (by kernel_rfl) (by kernel_rfl) (fun _ _ _ h => h) (Or.inl ⟨by rfl, ?hy18⟩) (by assumption) (by rfl) ?rest18
    case hy18 => first | (intro w hSw; (try dsimp only at hSw); obtain ⟨q0, q1, q2, q3, q4, q5⟩ := hSw; go_simp; done) | (intro w hSw; (try dsimp only at hSw); obtain ⟨q0, q1, q2, q3, q4, q5⟩ := hSw; go_simp; with_reducible rfl)
    try simp only [Act.put, List.setIfInBounds_toArray, List.set_cons_zero, List.set_cons_succ]
    refine wpAnyH_ready (rs := [25]) (by kernel_rfl) (by simp) ?_
    refine AllReadyH.cons rfl (fun K hK => ?_) AllReadyH.nil
    go_simp
    refine (coef_calls (HBO.out.term.below (bafter HW2.out HB12.out (Nat.le_refl _))) x (by omega)).mono ?_
    rintro e w13 ⟨v13, rfl, hr13, hb13⟩
    have HB13 : Hid (Below w2.heap.size w2 w13) := bafter HB12.out hb13 (Nat.le_refl _)
    have HBS13 := hide hb13
    obtain ⟨zn, za, zL, zc, rfl⟩ := hr13.form
    have HR13 := hide hr13
    clear hr13 hb13 hHeld
    go_wp2_with fail
    refine hK.out _ _ (HS.out _ HB13.out) (fun hHeld => ?_)
    clear hK K
    try simp only [Act.put, List.setIfInBounds_toArray, List.set_cons_zero, List.set_cons_succ]
    refine wpAnyH_ready (rs := [28]) (by kernel_rfl) (by simp) ?_
    refine AllReadyH.cons rfl (fun K hK => ?_) AllReadyH.nil
    go_simp
    refine (rcoef_calls (K := 80) (HT2.out.below HB13.out) x HB3.out (by have := HL3.out; omega) (by omega)).mono ?_
    rintro e w14 ⟨v14, rfl, hr14, hb14⟩
    have HB14 : Hid (Below w2.heap.size w2 w14) := bafter HB13.out hb14 (Nat.le_refl _)
    have HBS14 := hide hb14
    obtain ⟨jn, ja, jL, jc, rfl⟩ := hr14.form
    have HR14 := hide hr14
    clear hr14 hb14 hHeld
    go_wp2_with fail
    refine hK.out _ _ (HS.out _ HB14.out) (fun hHeld => ?_)
    clear hK K
    try simp only [Act.put, List.setIfInBounds_toArray, List.set_cons_zero, List.set_cons_succ]
    have hcf : (cf x (ps A)).natAbs < 10 ^ K9 := ten_up (cf_boundT HBO.out.bnd x) (by rw [ps_length]; have := HBO.out.len; omega)
    have HR14B : Hid (NRes w14 (.agg #[.bool jn, .slice ja jL jc]) (cf x (ps A))) := by
      have h9 := HR14.out
      rw [HP3.out] at h9
      exact h9
    have HCF := hide hcf
    clear hcf
    refine wpAnyH_ready (rs := [29]) (by kernel_rfl) (by simp) ?_
    refine AllReadyH.cons rfl (fun K hK => ?_) AllReadyH.nil
    go_simp
    refine (gsame_true (K := K9) (HR13.out.below HBS14.out) (HR14B.out.arg HCF.out) (by omega)).mono ?_
    rintro e w15 ⟨rfl, hb15⟩
    have HB15 : Hid (Below w2.heap.size w2 w15) := bafter HB14.out hb15 (Nat.le_refl _)
    have HBS15 := hide hb15
    clear hb15 hHeld
    go_wp2_with fail
    refine hK.out _ _ (HS.out _ HB15.out) (fun hHeld => ?_)
    clear hK K
    try simp only [Act.put, List.setIfInBounds_toArray, List.set_cons_zero, List.set_cons_succ]
    refine takeD (i := 30) (v := ?v19) (some 42) rfl (by kernel_rfl) (by kernel_rfl) (by kernel_rfl) (fun _ _ _ h => h) (Or.inl ⟨by rfl, ?hy19⟩) (by assumption) (by rfl) ?rest19
    case hy19 => first | (intro w hSw; (try dsimp only at hSw); obtain ⟨q0, q1, q2, q3, q4, q5⟩ := hSw; go_simp; done) | (intro w hSw; (try dsimp only at hSw); obtain ⟨q0, q1, q2, q3, q4, q5⟩ := hSw; go_simp; with_reducible rfl)
    try simp only [Act.put, List.setIfInBounds_toArray, List.set_cons_zero, List.set_cons_succ]
    refine takeD (i := 31) (v := ?v20) (some 43) rfl (by kernel_rfl) (by kernel_rfl) (by kernel_rfl) (fun _ _ _ h => h) (Or.inl ⟨by rfl, ?hy20⟩) (by assumption) (by rfl) ?rest20
    case hy20 => first | (intro w hSw; (try dsimp only at hSw); obtain ⟨q0, q1, q2, q3, q4, q5⟩ := hSw; go_simp; done) | (intro w hSw; (try dsimp only at hSw); obtain ⟨q0, q1, q2, q3, q4, q5⟩ := hSw; go_simp; with_reducible rfl)
    try simp only [Act.put, List.setIfInBounds_toArray, List.set_cons_zero, List.set_cons_succ]
    refine takeD (i := 32) (v := ?v21) (some 44) rfl (by kernel_rfl) (by kernel_rfl) (by kernel_rfl) (fun _ _ _ h => h) (Or.inl ⟨by rfl, ?hy21⟩) (by assumption) (by rfl) ?rest21
    case hy21 => first | (intro w hSw; (try dsimp only at hSw); obtain ⟨q0, q1, q2, q3, q4, q5⟩ := hSw; go_simp; done) | (intro w hSw; (try dsimp only at hSw); obtain ⟨q0, q1, q2, q3, q4, q5⟩ := hSw; go_simp; with_reducible rfl)
    try simp only [Act.put, List.setIfInBounds_toArray, List.set_cons_zero, List.set_cons_succ]
    refine takeD (i := 34) (v := ?v22) (some 46) rfl (by kernel_rfl) (by kernel_rfl) (by kernel_rfl) (fun _ _ _ h => h) (Or.inl ⟨by rfl, ?hy22⟩) (by assumption) (by rfl) ?rest22
    case hy22 => first | (intro w hSw; (try dsimp only at hSw); obtain ⟨q0, q1, q2, q3, q4, q5⟩ := hSw; go_simp; done) | (intro w hSw; (try dsimp only at hSw); obtain ⟨q0, q1, q2, q3, q4, q5⟩ := hSw; go_simp; with_reducible rfl)
    try simp only [Act.put, List.setIfInBounds_toArray, List.set_cons_zero, List.set_cons_succ]
    refine wpAnyH_ready (rs := [33]) (by kernel_rfl) (by simp) ?_
    refine AllReadyH.cons rfl (fun K hK => ?_) AllReadyH.nil
    go_simp
    refine (lvar_calls _ x HX.out).mono ?_
    rintro e w16 ⟨v16, nb16, mv16, rfl, ht16, hb16⟩
    have HB16 : Hid (Below w2.heap.size w2 w16) := bafter HB15.out hb16 (Nat.le_refl _)
    have HBS16 := hide hb16
    obtain ⟨kn, ka, kL, kc, kp, kl, kk, rfl⟩ := ht16.form
    have HT16 := hide ht16
    clear ht16 hb16 hHeld
    go_wp2_with fail
    refine hK.out _ _ (HS.out _ HB16.out) (fun hHeld => ?_)
    clear hK K
    try simp only [Act.put, List.setIfInBounds_toArray, List.set_cons_zero, List.set_cons_succ]
    refine wpAnyH_ready (rs := [35]) (by kernel_rfl) (by simp) ?_
    refine AllReadyH.cons rfl (fun K hK => ?_) AllReadyH.nil
    go_simp
    refine (rvarT_calls _ x HX.out).mono ?_
    rintro e w17 ⟨v17, M17, rfl, ht17, hc17, hb17⟩
    have HB17 : Hid (Below w2.heap.size w2 w17) := bafter HB16.out hb17 (Nat.le_refl _)
    have HBS17 := hide hb17
    obtain ⟨mn, ma, mL, mc, mp, ml, mk, rfl⟩ := ht17.form
    have HT17 := hide ht17
    have HC17 := hide hc17
    clear ht17 hc17 hb17 hHeld
    go_wp2_with fail
    refine hK.out _ _ (HS.out _ HB17.out) (fun hHeld => ?_)
    clear hK K
    try simp only [Act.put, List.setIfInBounds_toArray, List.set_cons_zero, List.set_cons_succ]
    have hz0 : (0 : Int).natAbs < 10 ^ K9 := Nat.pow_pos (by decide)
    have HZ0 := hide hz0
    have HB1 : Hid (BndT K9 (ps [((x, nb16, mv16, 1) : Pt)])) := fun p hp => by
      simp [ps, pt] at hp
      subst hp
      exact ten_up (show (1 : Int).natAbs < 10 ^ 1 by decide) (by omega)
    clear hz0
    refine wpAnyH_ready (rs := [36]) (by kernel_rfl) (by simp) ?_
    refine AllReadyH.cons rfl (fun K hK => ?_) AllReadyH.nil
    go_simp
    refine (gsameT_calls (K := K9) (HT16.out.below HBS17.out) HT17.out (by rw [HC17.out]; rfl) HZ0.out HB1.out (by simp) (by omega)).mono ?_
    rintro e w18 ⟨rfl, hb18⟩
    have HB18 : Hid (Below w2.heap.size w2 w18) := bafter HB17.out hb18 (Nat.le_refl _)
    have HBS18 := hide hb18
    clear hb18 hHeld
    go_wp2_with fail
    refine hK.out _ _ (HS.out _ HB18.out) (fun hHeld => ?_)
    clear hK K
    try simp only [Act.put, List.setIfInBounds_toArray, List.set_cons_zero, List.set_cons_succ]
    refine takeD (i := 37) (v := ?v23) (some 49) rfl (by kernel_rfl) (by kernel_rfl) (by kernel_rfl) (fun _ _ _ h => h) (Or.inl ⟨by rfl, ?hy23⟩) (by assumption) (by rfl) ?rest23
    case hy23 => first | (intro w hSw; (try dsimp only at hSw); obtain ⟨q0, q1, q2, q3, q4, q5⟩ := hSw; go_simp; done) | (intro w hSw; (try dsimp only at hSw); obtain ⟨q0, q1, q2, q3, q4, q5⟩ := hSw; go_simp; with_reducible rfl)
    try simp only [Act.put, List.setIfInBounds_toArray, List.set_cons_zero, List.set_cons_succ]
    refine takeD (i := 38) (v := ?v24) (some 50) rfl (by kernel_rfl) (by kernel_rfl) (by kernel_rfl) (fun _ _ _ h => h) (Or.inl ⟨by rfl, ?hy24⟩) (by assumption) (by rfl) ?rest24
    case hy24 => first | (intro w hSw; (try dsimp only at hSw); obtain ⟨q0, q1, q2, q3, q4, q5⟩ := hSw; go_simp; done) | (intro w hSw; (try dsimp only at hSw); obtain ⟨q0, q1, q2, q3, q4, q5⟩ := hSw; go_simp; with_reducible rfl)
    try simp only [Act.put, List.setIfInBounds_toArray, List.set_cons_zero, List.set_cons_succ]
    refine takeD (i := 39) (v := ?v25) (some 51) rfl (by kernel_rfl) (by kernel_rfl) (by kernel_rfl) (fun _ _ _ h => h) (Or.inl ⟨by rfl, ?hy25⟩) (by assumption) (by rfl) ?rest25
    case hy25 => first | (intro w hSw; (try dsimp only at hSw); obtain ⟨q0, q1, q2, q3, q4, q5⟩ := hSw; go_simp; done) | (intro w hSw; (try dsimp only at hSw); obtain ⟨q0, q1, q2, q3, q4, q5⟩ := hSw; go_simp; with_reducible rfl)
    try simp only [Act.put, List.setIfInBounds_toArray, List.set_cons_zero, List.set_cons_succ]
    refine takeD (i := 40) (v := ?v26) (some 52) rfl (by kernel_rfl) (by kernel_rfl) (by kernel_rfl) (fun _ _ _ h => h) (Or.inl ⟨by rfl, ?hy26⟩) (by assumption) (by rfl) ?rest26
    case hy26 => first | (intro w hSw; (try dsimp only at hSw); obtain ⟨q0, q1, q2, q3, q4, q5⟩ := hSw; go_simp; done) | (intro w hSw; (try dsimp only at hSw); obtain ⟨q0, q1, q2, q3, q4, q5⟩ := hSw; go_simp; with_reducible rfl)
    try simp only [Act.put, List.setIfInBounds_toArray, List.set_cons_zero, List.set_cons_succ]
    refine takeD (i := 42) (v := ?v27) (some 54) rfl (by kernel_rfl) (by kernel_rfl) (by kernel_rfl) (fun _ _ _ h => h) (Or.inl ⟨by rfl, ?hy27⟩) (by assumption) (by rfl) ?rest27
    case hy27 => first | (intro w hSw; (try dsimp only at hSw); obtain ⟨q0, q1, q2, q3, q4, q5⟩ := hSw; go_simp; done) | (intro w hSw; (try dsimp only at hSw); obtain ⟨q0, q1, q2, q3, q4, q5⟩ := hSw; go_simp; with_reducible rfl)
    try simp only [Act.put, List.setIfInBounds_toArray, List.set_cons_zero, List.set_cons_succ]
    refine takeD (i := 43) (v := ?v28) (some 55) rfl (by kernel_rfl) (by kernel_rfl) (by kernel_rfl) (fun _ _ _ h => h) (Or.inl ⟨by rfl, ?hy28⟩) (by assumption) (by rfl) ?rest28
    case hy28 => first | (intro w hSw; (try dsimp only at hSw); obtain ⟨q0, q1, q2, q3, q4, q5⟩ := hSw; go_simp; done) | (intro w hSw; (try dsimp only at hSw); obtain ⟨q0, q1, q2, q3, q4, q5⟩ := hSw; go_simp; with_reducible rfl)
    try simp only [Act.put, List.setIfInBounds_toArray, List.set_cons_zero, List.set_cons_succ]
    refine wpAnyH_ready (rs := [41]) (by kernel_rfl) (by simp) ?_
    refine AllReadyH.cons rfl (fun K hK => ?_) AllReadyH.nil
    go_simp
    refine (lof_calls (HBO.out.term.num.below (bafter HW2.out HB18.out (Nat.le_refl _)))).mono ?_
    rintro e w19 ⟨v19, M19, rfl, ht19, hc19, hb19⟩
    have HB19 : Hid (Below w2.heap.size w2 w19) := bafter HB18.out hb19 (Nat.le_refl _)
    have HBS19 := hide hb19
    obtain ⟨on, oa, oL, oc, op, ol, ok, rfl⟩ := ht19.form
    have HT19 := hide ht19
    have HC19 := hide hc19
    clear ht19 hc19 hb19 hHeld
    go_wp2_with fail
    refine hK.out _ _ (HS.out _ HB19.out) (fun hHeld => ?_)
    clear hK K
    try simp only [Act.put, List.setIfInBounds_toArray, List.set_cons_zero, List.set_cons_succ]
    refine wpAnyH_ready (rs := [44]) (by kernel_rfl) (by simp) ?_
    refine AllReadyH.cons rfl (fun K hK => ?_) AllReadyH.nil
    go_simp
    refine (rofT_calls (K := 80) (HNUM.out.below HB19.out) HBO.out.cb (by omega)).mono ?_
    rintro e w20 ⟨v20, M20, rfl, ht20, hc20, hb20⟩
    have HB20 : Hid (Below w2.heap.size w2 w20) := bafter HB19.out hb20 (Nat.le_refl _)
    have HBS20 := hide hb20
    obtain ⟨un, ua, uL, uc, up, ul, uk, rfl⟩ := ht20.form
    have HT20 := hide ht20
    have HC20 := hide hc20
    clear ht20 hc20 hb20 hHeld
    go_wp2_with fail
    refine hK.out _ _ (HS.out _ HB20.out) (fun hHeld => ?_)
    clear hK K
    try simp only [Act.put, List.setIfInBounds_toArray, List.set_cons_zero, List.set_cons_succ]
    have HP19 : Hid (ps M19 = []) := nf_unique HT19.out.nf NF.nil (fun u => by rw [HC19.out]; rfl)
    have hl19 : M19.length ≤ 1000 := by
      have h9 := congrArg List.length HP19.out
      rw [ps_length] at h9
      simp at h9
      simp [h9]
    have HB19 : Hid (BndT K9 (ps M19)) := fun p hp => by
      rw [HP19.out] at hp
      cases hp
    refine wpAnyH_ready (rs := [45]) (by kernel_rfl) (by simp) ?_
    refine AllReadyH.cons rfl (fun K hK => ?_) AllReadyH.nil
    go_simp
    refine (gsameT_calls (K := K9) (HT19.out.below HBS20.out) HT20.out (by rw [HP19.out, HC20.out]) HCB9.out HB19.out hl19 (by omega)).mono ?_
    rintro e w21 ⟨rfl, hb21⟩
    have HB21 : Hid (Below w2.heap.size w2 w21) := bafter HB20.out hb21 (Nat.le_refl _)
    have HBS21 := hide hb21
    clear hb21 hHeld
    go_wp2_with fail
    refine hK.out _ _ (HS.out _ HB21.out) (fun hHeld => ?_)
    clear hK K
    try simp only [Act.put, List.setIfInBounds_toArray, List.set_cons_zero, List.set_cons_succ]
    clear hl19
    refine takeD (i := 46) (v := ?v29) (some 58) rfl (by kernel_rfl) (by kernel_rfl) (by kernel_rfl) (fun _ _ _ h => h) (Or.inl ⟨by rfl, ?hy29⟩) (by assumption) (by rfl) ?rest29
    case hy29 => first | (intro w hSw; (try dsimp only at hSw); obtain ⟨q0, q1, q2, q3, q4, q5⟩ := hSw; go_simp; done) | (intro w hSw; (try dsimp only at hSw); obtain ⟨q0, q1, q2, q3, q4, q5⟩ := hSw; go_simp; with_reducible rfl)
    try simp only [Act.put, List.setIfInBounds_toArray, List.set_cons_zero, List.set_cons_succ]
    refine wpAnyH_ready (rs := [47]) (by kernel_rfl) (by simp) ?_
    refine AllReadyH.cons rfl (fun K hK => ?_) AllReadyH.nil
    go_simp
    refine hK.out _ _ (HS.out _ HB21.out) (fun hHeld => ?_)
    clear hK K hHeld
    try simp only [Act.put, List.setIfInBounds_toArray, List.set_cons_zero, List.set_cons_succ]
    refine wpAnyH_done (by kernel_rfl) ?_ _
    go_wp2
    go_ret
    exact ⟨rfl, bafter HW2.out HB21.out (Nat.le_refl _)⟩

end Go.Proofs.YtbjolmgobeagoaaGreatDoor
