/- Json: an array, its parts being told. -/
import Derived.Test.YtbdpmpepmjpadaaGreatDoorJArr
import Derived.Deep.RegionHeld3
namespace Go.Proofs.YtbdpmpepmjpadaaGreatDoor
set_option linter.unusedVariables false
set_option linter.unusedSimpArgs false
set_option maxRecDepth 100000
open Go Go.RowKit Go.Shelf Go.Lib

inductive VR where
  | bad (p : Nat) (e : Int)
  | ok (x : JC) (p : Nat)
inductive AR where
  | bad (p : Nat) (e : Int)
  | ok (M : List JC) (p : Nat)
def arrV (next : Nat → List JC → Option AR) (M : List JC) : Option VR → Option AR
  | none => none
  | some (.bad q e) => some (.bad q e)
  | some (.ok x q) => next q (M ++ [x])
def arrK (val : Nat → Option VR) (next : Nat → List JC → Option AR) (M : List JC) : EnR → Option AR
  | .bad q e => some (.bad q e)
  | .yes q => some (.ok M q)
  | .no q => arrV next M (val q)
/-- An array's parts, from a place on. -/
def arrF (val : Nat → Option VR) (T : List Nat) : Nat → Nat → List JC → Option AR
  | 0, _, _ => none
  | n + 1, p, M => arrK val (arrF val T n) M (endL T 93 p (decide (M.length = 0)))
def ValJ (r : VR) (w : World) (R : Nat) (sv : Value) (d : Nat) (e : Ending) (w' : World) : Prop := match r with
  | .bad p n => PanJ p n e ∧ Fr R none w w'
  | .ok x p => e = .returned (vagg x) ∧ AtJ w R sv p d w'
def ArrJ (r : AR) (w : World) (R : Nat) (sv : Value) (d : Nat) (e : Ending) (w' : World) : Prop := match r with
  | .bad p n => PanJ p n e ∧ Fr R none w w'
  | .ok M p => ∃ lv, e = .returned (vagg (5, ⟨#[]⟩, .slice none 0 0, lv)) ∧ OwnV w.heap.size w' lv M ∧ M.length ≤ 1000000 ∧ AtJ w R sv p d w'
theorem blEnd_le {T : List Nat} {p : Nat} (h : p ≤ T.length) : blEnd T p ≤ T.length := by
  have key : ∀ (n p : Nat), p ≤ T.length → blF T n p ≤ T.length := by
    intro n
    induction n with
    | zero => exact fun p h => h
    | succ n ih =>
      intro p h
      show (if hasB T p blS then blF T n (p + 1) else p) ≤ T.length
      cases e : hasB T p blS with
      | true => exact ih (p + 1) (hasB_lt e)
      | false => exact h
  exact key _ p h
theorem endL_le {T : List Nat} {c p q : Nat} {f : Bool} (h : p ≤ T.length) (he : endL T c p f = .yes q ∨ endL T c p f = .no q) : q ≤ T.length := by
  have h1 := blEnd_le h
  unfold endL at he
  by_cases g1 : blEnd T p = T.length
  · rw [if_pos g1] at he; rcases he with he | he <;> cases he
  · rw [if_neg g1] at he
    by_cases g2 : nth T (blEnd T p) = c
    · rw [if_pos g2] at he; rcases he with he | he <;> cases he; omega
    · rw [if_neg g2] at he
      cases f with
      | true => rw [if_pos rfl] at he; rcases he with he | he <;> cases he; omega
      | false =>
        rw [if_neg (by simp)] at he
        by_cases g3 : nth T (blEnd T p) = 44
        · rw [if_pos g3] at he
          rcases he with he | he <;> cases he
          exact blEnd_le (by omega)
        · rw [if_neg g3] at he; rcases he with he | he <;> cases he

theorem blEnd_ge (T : List Nat) (p : Nat) : p ≤ blEnd T p := by
  have key : ∀ (n p : Nat), p ≤ blF T n p := by
    intro n
    induction n with
    | zero => exact fun p => Nat.le_refl _
    | succ n ih =>
      intro p
      show p ≤ (if hasB T p blS then blF T n (p + 1) else p)
      have := ih (p + 1)
      split <;> omega
  exact key _ p
theorem no_ge {T : List Nat} {c p q : Nat} {f : Bool} (he : endL T c p f = .no q) : p ≤ q := by
  have h1 := blEnd_ge T p
  unfold endL at he
  by_cases g1 : blEnd T p = T.length
  · rw [if_pos g1] at he; cases he
  · rw [if_neg g1] at he
    by_cases g2 : nth T (blEnd T p) = c
    · rw [if_pos g2] at he; cases he
    · rw [if_neg g2] at he
      cases f with
      | true => rw [if_pos rfl] at he; cases he; exact h1
      | false =>
        rw [if_neg (by simp)] at he
        by_cases g3 : nth T (blEnd T p) = 44
        · rw [if_pos g3] at he
          cases he
          have := blEnd_ge T (blEnd T p + 1)
          omega
        · rw [if_neg g3] at he; cases he

/-- The value's contract, at this reader. -/
def HVal (val : Nat → Option VR) (R d : Nat) (ao : Option Addr) (cap : Nat) (T : List Nat) : Prop :=
  ∀ W q r, val q = some r → q ≤ T.length → RdJ W R (.slice ao T.length cap) q d → TxJ W R ao cap T → Calls Tryz.prog 48 #[.pointer (some ⟨R, 0, none⟩)] W (ValJ r W R (.slice ao T.length cap) d)
def OkV (val : Nat → Option VR) (T : List Nat) : Prop := ∀ q x p, val q = some (.ok x p) → q < p ∧ p ≤ T.length ∧ x.2.2.1.oneCell' = true ∧ x.2.2.2.oneCell' = true

/-- An array on its way: its box behind the one of the answer, the row of its parts, the reader. -/
structure MidA (w W : World) (R : Nat) (sv : Value) (q d : Nat) (lv : Value) (M : List JC) : Prop where
  box : BoxC W (w.heap.size + 1) 27 #[.int .i64 5, .string ⟨#[]⟩, .slice none 0 0, lv]
  own : OwnV (w.heap.size + 2) W lv M
  rd : RdJ W R sv q d
  fr : Fr R none w W
  res : BoxC W w.heap.size 27 #[.int .i64 0, .string ⟨#[]⟩, .slice none 0 0, .slice none 0 0]
  old : R < w.heap.size
theorem MidA.go {w W W' : World} {R : Nat} {sv : Value} {q q' d : Nat} {lv : Value} {M : List JC} (h : MidA w W R sv q d lv M) (hr : RdJ W' R sv q' d) (hf : Fr R none W W') : MidA w W' R sv q' d lv M := by
  have h1 : R < w.heap.size := h.old
  refine ⟨h.box.fr hf (by omega) (by simp), h.own.keep (fun j e => hf.block (h.own.lt j e).2 (fun q => ?_) (by simp)), hr, h.fr.trans hf (.inl rfl), h.res.fr hf (by omega) (by simp), h.old⟩
  have := (h.own.lt j e).1
  omega
theorem MidA.below {w W W' : World} {R : Nat} {sv : Value} {q d : Nat} {lv : Value} {M : List JC} (h : MidA w W R sv q d lv M) (hb : Below W.heap.size W W') : MidA w W' R sv q d lv M := h.go (h.rd.below hb) (Fr.of hb)
/-- The row grew, and is put into the box. -/
theorem MidA.put {w W W' : World} {R : Nat} {sv : Value} {q d : Nat} {lv lv' : Value} {M M' : List JC} (h : MidA w W R sv q d lv M) (hg : W.grownBy W' lv.ownBlock) (ho : OwnV (w.heap.size + 2) W' lv' M') : MidA w (W'.setCell ⟨w.heap.size + 1, 3, none⟩ lv') R sv q d lv' M' := by
  have h1 : R < w.heap.size := h.old
  have hlt := h.own.lt
  have n1 : some (w.heap.size + 1) ≠ lv.ownBlock := fun e => by have := (hlt _ e.symm).1; omega
  have n2 : some w.heap.size ≠ lv.ownBlock := fun e => by have := (hlt _ e.symm).1; omega
  have n3 : some R ≠ lv.ownBlock := fun e => by have := (hlt _ e.symm).1; omega
  refine ⟨(h.box.kept hg n1).set 3 lv', ho.set (ho.off (by omega)), ?_, ?_, (h.res.kept hg n2).other (by omega) 3 lv', h.old⟩
  · exact BoxC.other (BoxC.kept h.rd hg n3) (show R ≠ w.heap.size + 1 by omega) 3 lv'
  · refine Fr.setNew ?_ (by omega) 3 lv'
    have hb := Fr.grown (R := R) hg
    refine ⟨hb.1.trans h.fr.1, hb.2.1.trans h.fr.2.1, hb.2.2.1.trans h.fr.2.2.1, Nat.le_trans h.fr.size hb.size, fun k hk hne _ => ?_⟩
    refine (hb.block (Nat.lt_of_lt_of_le hk h.fr.size) hne (fun e => ?_)).trans (h.fr.block hk hne (by simp))
    have := (hlt k e).1
    omega

set_option maxHeartbeats 16000000 in
theorem array_calls (val : Nat → Option VR) (w : World) (R p d : Nat) (ao : Option Addr) (cap : Nat) (T : List Nat) (hr : RdJ w R (.slice ao T.length cap) p d) (hT : TxJ w R ao cap T) (hp : p ≤ T.length) (hv : HVal val R d ao cap T) (hok : OkV val T) (N : Nat) (r : AR) (hN : arrF val T N p [] = some r) :
    Calls Tryz.prog 68 #[.pointer (some ⟨R, 0, none⟩)] w (ArrJ r w R (.slice ao T.length cap) d) := by
  have hRw := hr.lt
  have hb0 := bel w (.cells jv0 27)
  have hx0 := BoxC.new w 27 jv0
  have hb1 : Below w.heap.size w ((w.alloc (.cells jv0 27)).alloc (.cells #[.int .i64 5, .string ⟨#[]⟩, .slice none 0 0, .slice none 0 0] 27)) := hb0.alloc (by simp) _
  have hx1 := hx0.alloc (.cells #[.int .i64 5, .string ⟨#[]⟩, .slice none 0 0, .slice none 0 0] 27)
  have hv1 := BoxC.new (w.alloc (.cells jv0 27)) 27 #[.int .i64 5, .string ⟨#[]⟩, .slice none 0 0, .slice none 0 0]
  rw [World.size_alloc] at hv1
  unfold jv0 at hb1 hx1 hv1
  have hr1 := hr.below hb1
  have HI : Hid (∃ (q : Nat) (M : List JC) (lv : Value), arrF val T N q M = some r ∧ q ≤ T.length ∧ M.length ≤ q ∧ MidA w ((w.alloc (.cells #[.int .i64 0, .string ⟨#[]⟩, .slice none 0 0, .slice none 0 0] 27)).alloc (.cells #[.int .i64 5, .string ⟨#[]⟩, .slice none 0 0, .slice none 0 0] 27)) R (.slice ao T.length cap) q d lv M) := ⟨p, [], _, hN, hp, Nat.zero_le _, hv1, ownV_nil _ _, hr1, Fr.of hb1, hx1, hRw⟩
  have HT := hide hT
  have HRW := hide hRw
  have HVL := hide hv
  have HOK := hide hok
  clear hr hRw hb0 hx0 hb1 hx1 hv1 hr1 hT hp hN hv hok
  go_enter Tryz.func68, Tryz.ntmps68
  go_wp2
  go_loopg [] N (fun g wr => ∃ (q : Nat) (M : List JC) (lv : Value), arrF val T g q M = some r ∧ q ≤ T.length ∧ M.length ≤ q ∧ MidA w wr R (.slice ao T.length cap) q d lv M)
  case atStart => exact HI.out
  case round =>
    obtain ⟨q, M, lv, h1, h2, h3, h4⟩ := hrel
    cases gk with
    | zero => exact absurd h1 (by simp [arrF])
    | succ n =>
      obtain ⟨la, lc, hlv, hlc⟩ := h4.own.len
      subst hlv
      have cl : wr.cell? ⟨w.heap.size + 1, 3, none⟩ = some (.slice la M.length lc) := h4.box.cell 3
      have hfst : (((M.length : Nat) : Int) == 0) = decide (M.length = 0) := by
        by_cases e : M.length = 0
        · rw [e]; rfl
        · rw [decide_eq_false e]; exact beq_eq_false_iff_ne.2 (by omega)
      obtain ⟨er, her⟩ : ∃ er, endL T 93 q (decide (M.length = 0)) = er := ⟨_, rfl⟩
      have HE := hide (ended_calls wr R q d 93 (decide (M.length = 0)) ao cap T h4.rd (HT.out.fr h4.fr) h2)
      rw [her] at HE
      have h1' : arrK val (arrF val T n) M (endL T 93 q (decide (M.length = 0))) = some r := h1
      rw [her] at h1'
      have H1 := hide h1'
      have HER := hide (fun q' => endL_le (c := 93) (f := decide (M.length = 0)) (q := q') h2)
      rw [her] at HER
      have H3 := hide h3
      have H2 := hide h2
      have H4 := hide h4
      have HN1 : Hid (∀ q1, er = .no q1 → M.length + 1 ≤ q1 + 1) := by
        intro q1 e
        have hh := no_ge (her.trans e)
        omega
      generalize hfi : decide (M.length = 0) = fi at *
      clear h1 h1' h2 h3 h4 her hfi HI
      go_wp2_with fail
      refine HE.out.mono ?_
      intro e w1 hE
      cases er with
      | bad q1 e1 =>
        obtain ⟨he, hf⟩ := hE
        obtain rfl : AR.bad q1 e1 = r := Option.some.inj H1.out
        have HF := hide (H4.out.fr.trans hf (.inl rfl))
        rw [show e = _ from he]
        clear he hf
        go_wp2
        exact ⟨rfl, rfl, HF.out⟩
      | yes q1 =>
        obtain ⟨rfl, hr1, hf⟩ := hE
        obtain rfl : AR.ok M q1 = r := Option.some.inj H1.out
        have hm := H4.out.go hr1 hf
        have HM1 := hide hm
        have HM : Hid (M.length ≤ 1000000) := by have := H3.out; have := H2.out; have := HT.out.len; unfold Hid; omega
        have v0 : w1.cell? ⟨w.heap.size + 1, 0, none⟩ = some (.int .i64 5) := hm.box.cell 0
        have v1 : w1.cell? ⟨w.heap.size + 1, 1, none⟩ = some (.string ⟨#[]⟩) := hm.box.cell 1
        have v2 : w1.cell? ⟨w.heap.size + 1, 2, none⟩ = some (.slice none 0 0) := hm.box.cell 2
        have v3 : w1.cell? ⟨w.heap.size + 1, 3, none⟩ = some (.slice la M.length lc) := hm.box.cell 3
        have x0 : w1.cell? ⟨w.heap.size, 0, none⟩ = some (.int .i64 0) := hm.res.cell 0
        have x1 : w1.cell? ⟨w.heap.size, 1, none⟩ = some (.string ⟨#[]⟩) := hm.res.cell 1
        have x2 : w1.cell? ⟨w.heap.size, 2, none⟩ = some (.slice none 0 0) := hm.res.cell 2
        have x3 : w1.cell? ⟨w.heap.size, 3, none⟩ = some (.slice none 0 0) := hm.res.cell 3
        have y0 := hm.res.frozen 0
        have y1 := hm.res.frozen 1
        have y2 := hm.res.frozen 2
        have y3 := hm.res.frozen 3
        have lX := hm.res.lt
        have lV := hm.box.lt
        clear hf hr1 hm cl
        go_wp2
        have HX1 := HM1.out.res
        have z := (((HX1.set 0 (.int .i64 5)).set 1 (.string ⟨#[]⟩)).set 2 (.slice none 0 0)).set 3 (.slice la M.length lc)
        refine bodyPost_ret (results_jv rfl rfl z) rfl ?_
        have hn : ∀ {W : World} (i : Nat) (x : Value), Fr R none w W → Fr R none w (W.setCell ⟨w.heap.size, i, none⟩ x) := fun i x h => h.setNew (Nat.le_refl _) i x
        have hox : (Value.slice la M.length lc).ownBlock ≠ some w.heap.size := HM1.out.own.off (by omega)
        have hneX : R ≠ w.heap.size := by have := HRW.out; omega
        refine ⟨_, rfl, ((((HM1.out.own.set hox).set hox).set hox).set hox).mono (by omega), HM.out, ?_, hn 3 _ (hn 2 _ (hn 1 _ (hn 0 _ HM1.out.fr)))⟩
        exact (((BoxC.other HM1.out.rd hneX 0 _).other hneX 1 _).other hneX 2 _).other hneX 3 _
      | no q1 =>
        obtain ⟨rfl, hr1, hf⟩ := hE
        cases hval : val q1 with
        | none =>
          have h := H1.out
          rw [show arrK val (arrF val T n) M (.no q1) = arrV (arrF val T n) M (val q1) from rfl, hval] at h
          cases h
        | some vr =>
          have h1' : arrV (arrF val T n) M (some vr) = some r := by rw [← hval]; exact H1.out
          have hq1 := HER.out q1 (.inr rfl)
          have hm := H4.out.go hr1 hf
          have HM1 := hide hm
          have HC := hide (fun W (hW : Below w1.heap.size w1 W) => HVL.out W q1 vr hval hq1 (hr1.below hW) ((HT.out.fr hm.fr).fr (Fr.of hW)))
          have HVQ := hide hval
          have HLN : Hid (M.length ≤ q1 ∧ q1 ≤ T.length) := ⟨by have := HN1.out q1 rfl; omega, hq1⟩
          have H1' := hide h1'
          clear hf hr1 hval HE H4 h1' hq1 hm cl HER HN1 H1 H3 H2
          go_upto_region 3 with fail
          refine wp_region_held_drew (S := fun X : World => True) (by kernel_rfl) trivial (fun hHeld => ?_)
          have hdr : Below w1.heap.size w1 w1.drew := (Below.refl _ _).drew
          have HDR := hide hdr
          clear hdr
          refine takeD (i := 0) (v := ?v1) (some 12) rfl (by kernel_rfl) (by kernel_rfl) (by kernel_rfl) (fun _ _ _ h => h) (Or.inl ⟨by rfl, ?hy1⟩) (by trivial) (by rfl) ?rest1
          case hy1 => first | (intro w hSw; go_simp; done) | (intro w hSw; go_simp; with_reducible rfl)
          try simp only [Act.put, List.setIfInBounds_toArray, List.set_cons_zero, List.set_cons_succ]
          refine takeD (i := 2) (v := ?v2) (some 14) rfl (by kernel_rfl) (by kernel_rfl) (by kernel_rfl) (fun _ _ _ h => h) (Or.inl ⟨by rfl, ?hy2⟩) (by trivial) (by rfl) ?rest2
          case hy2 => first | (intro w hSw; go_simp; done) | (intro w hSw; go_simp; with_reducible rfl)
          try simp only [Act.put, List.setIfInBounds_toArray, List.set_cons_zero, List.set_cons_succ]
          refine wpAnyH_ready (rs := [1, 3]) (by kernel_rfl) (by simp) ?_
          refine AllReadyH.cons rfl (fun K hK => ?_) (AllReadyH.cons rfl (fun K hK => ?_) AllReadyH.nil)
          · have clw1 : w1.cell? ⟨w.heap.size + 1, 3, none⟩ = some (.slice la M.length lc) := HM1.out.box.cell 3
            go_simp
            refine hK.out _ _ trivial (fun _ => ?_)
            clear hK K
            try simp only [Act.put, List.setIfInBounds_toArray, List.set_cons_zero, List.set_cons_succ]
            refine wpAnyH_ready (rs := [3]) (by kernel_rfl) (by simp) ?_
            refine AllReadyH.cons rfl (fun K hK => ?_) AllReadyH.nil
            go_simp
            refine (HC.out _ HDR.out).mono ?_
            intro e w2 hE
            cases vr with
            | bad q2 e2 =>
              obtain ⟨he, hf⟩ := hE
              obtain rfl : AR.bad q2 e2 = r := Option.some.inj H1'.out
              have HF := hide ((HM1.out.fr.then HDR.out).trans hf (.inl rfl))
              rw [show e = _ from he]
              clear he hf
              exact ⟨rfl, rfl, HF.out⟩
            | ok x q2 =>
              obtain ⟨rfl, hr2, hf⟩ := hE
              have HM2 := hide ((HM1.out.below HDR.out).go hr2 hf)
              have HQX := hide (HOK.out q1 x q2 HVQ.out)
              obtain ⟨xk, xs, xa, xl⟩ := x
              simp only [vagg]
              refine hK.out _ _ trivial (fun _ => ?_)
              clear hK K hr2 hf
              try simp only [Act.put, List.setIfInBounds_toArray, List.set_cons_zero, List.set_cons_succ]
              refine wpAnyH_ready (rs := [4]) (by kernel_rfl) (by simp) ?_
              refine AllReadyH.cons rfl (fun K hK => ?_) AllReadyH.nil
              go_simp
              have hbl := bel w2 (.cells #[.int .i64 xk, .string xs, xa, xl] 27)
              have hbx := BoxC.new w2 27 #[.int .i64 xk, .string xs, xa, xl]
              have HM3 := hide (HM2.out.below hbl)
              refine hK.out _ _ trivial (fun _ => ?_)
              clear hK K hbl
              try simp only [Act.put, List.setIfInBounds_toArray, List.set_cons_zero, List.set_cons_succ]
              generalize hB : w2.heap.size = B at *
              generalize hw3 : w2.alloc (.cells #[.int .i64 xk, .string xs, xa, xl] 27) = w3 at *
              have HBX := hide hbx
              clear hbx hw3
              refine wpAnyH_ready (rs := [5]) (by kernel_rfl) (by simp) ?_
              refine AllReadyH.cons rfl (fun K hK => ?_) AllReadyH.nil
              refine wp_appV _ (.tmp 13) (.tmp 16) rfl (w.heap.size + 2) (.slice la M.length lc) M rfl HM3.out.own B _ (xk, xs, xa, xl) rfl HBX.out HQX.out.2.2 (by have := HLN.out; have := HT.out.len; omega) (by have := HM3.out.box.lt; omega) ?_
              intro lv' w4 hown hgrow hrow
              obtain ⟨va, vn, vc, rfl⟩ := hown.slice
              have hm5 := HM3.out.put hgrow hown
              have lV4 : w.heap.size + 1 < w4.heap.size := (HM3.out.box.kept hgrow (fun e => by have := (HM3.out.own.lt _ e.symm).1; omega)).lt
              have cV4 : w4.cell? ⟨w.heap.size + 1, 3, none⟩ = some (.slice la M.length lc) := (HM3.out.box.kept hgrow (fun e => by have := (HM3.out.own.lt _ e.symm).1; omega)).cell 3
              have fV4 : w4.frozen? ⟨w.heap.size + 1, 3, none⟩ = false := (HM3.out.box.kept hgrow (fun e => by have := (HM3.out.own.lt _ e.symm).1; omega)).frozen 3
              have HM5 := hide hm5
              refine hK.out _ _ trivial (fun _ => ?_)
              clear hK K hown hgrow hrow hm5
              try simp only [Act.put, List.setIfInBounds_toArray, List.set_cons_zero, List.set_cons_succ]
              refine takeD (i := 6) (v := ?v3) (some 18) rfl (by kernel_rfl) (by kernel_rfl) (by kernel_rfl) (fun _ _ _ h => h) (Or.inl ⟨by rfl, ?hy3⟩) (by trivial) (by rfl) ?rest3
              case hy3 => first | (intro w hSw; go_simp; done) | (intro w hSw; go_simp; with_reducible rfl)
              try simp only [Act.put, List.setIfInBounds_toArray, List.set_cons_zero, List.set_cons_succ]
              refine wpAnyH_ready (rs := [7]) (by kernel_rfl) (by simp) ?_
              refine AllReadyH.cons rfl (fun K hK => ?_) AllReadyH.nil
              go_simp
              refine hK.out _ _ trivial (fun _ => ?_)
              clear hK K
              try simp only [Act.put, List.setIfInBounds_toArray, List.set_cons_zero, List.set_cons_succ]
              refine wpAnyH_done (by kernel_rfl) ?_ _
              go_wp2
              go_roundg n
              case measure => omega
              case rel => exact ⟨q2, M ++ [(xk, xs, xa, xl)], .slice va vn vc, H1'.out, HQX.out.2.1, by rw [List.length_append]; have := HLN.out; have := HQX.out.1; simp; omega, HM5.out⟩
          · go_simp
            refine (HC.out _ HDR.out).mono ?_
            intro e w2 hE
            cases vr with
            | bad q2 e2 =>
              obtain ⟨he, hf⟩ := hE
              obtain rfl : AR.bad q2 e2 = r := Option.some.inj H1'.out
              have HF := hide ((HM1.out.fr.then HDR.out).trans hf (.inl rfl))
              rw [show e = _ from he]
              clear he hf
              exact ⟨rfl, rfl, HF.out⟩
            | ok x q2 =>
              obtain ⟨rfl, hr2, hf⟩ := hE
              have HM2 := hide ((HM1.out.below HDR.out).go hr2 hf)
              have HQX := hide (HOK.out q1 x q2 HVQ.out)
              obtain ⟨xk, xs, xa, xl⟩ := x
              simp only [vagg]
              refine hK.out _ _ trivial (fun _ => ?_)
              clear hK K hr2 hf
              try simp only [Act.put, List.setIfInBounds_toArray, List.set_cons_zero, List.set_cons_succ]
              refine wpAnyH_ready (rs := [1, 4]) (by kernel_rfl) (by simp) ?_
              refine AllReadyH.cons rfl (fun K hK => ?_) (AllReadyH.cons rfl (fun K hK => ?_) AllReadyH.nil)
              · have clw2 : w2.cell? ⟨w.heap.size + 1, 3, none⟩ = some (.slice la M.length lc) := HM2.out.box.cell 3
                go_simp
                refine hK.out _ _ trivial (fun _ => ?_)
                clear hK K
                try simp only [Act.put, List.setIfInBounds_toArray, List.set_cons_zero, List.set_cons_succ]
                refine wpAnyH_ready (rs := [4]) (by kernel_rfl) (by simp) ?_
                refine AllReadyH.cons rfl (fun K hK => ?_) AllReadyH.nil
                go_simp
                have hbl := bel w2 (.cells #[.int .i64 xk, .string xs, xa, xl] 27)
                have hbx := BoxC.new w2 27 #[.int .i64 xk, .string xs, xa, xl]
                have HM3 := hide (HM2.out.below hbl)
                refine hK.out _ _ trivial (fun _ => ?_)
                clear hK K hbl
                try simp only [Act.put, List.setIfInBounds_toArray, List.set_cons_zero, List.set_cons_succ]
                generalize hB : w2.heap.size = B at *
                generalize hw3 : w2.alloc (.cells #[.int .i64 xk, .string xs, xa, xl] 27) = w3 at *
                have HBX := hide hbx
                clear hbx hw3
                refine wpAnyH_ready (rs := [5]) (by kernel_rfl) (by simp) ?_
                refine AllReadyH.cons rfl (fun K hK => ?_) AllReadyH.nil
                refine wp_appV _ (.tmp 13) (.tmp 16) rfl (w.heap.size + 2) (.slice la M.length lc) M rfl HM3.out.own B _ (xk, xs, xa, xl) rfl HBX.out HQX.out.2.2 (by have := HLN.out; have := HT.out.len; omega) (by have := HM3.out.box.lt; omega) ?_
                intro lv' w4 hown hgrow hrow
                obtain ⟨va, vn, vc, rfl⟩ := hown.slice
                have hm5 := HM3.out.put hgrow hown
                have lV4 : w.heap.size + 1 < w4.heap.size := (HM3.out.box.kept hgrow (fun e => by have := (HM3.out.own.lt _ e.symm).1; omega)).lt
                have cV4 : w4.cell? ⟨w.heap.size + 1, 3, none⟩ = some (.slice la M.length lc) := (HM3.out.box.kept hgrow (fun e => by have := (HM3.out.own.lt _ e.symm).1; omega)).cell 3
                have fV4 : w4.frozen? ⟨w.heap.size + 1, 3, none⟩ = false := (HM3.out.box.kept hgrow (fun e => by have := (HM3.out.own.lt _ e.symm).1; omega)).frozen 3
                have HM5 := hide hm5
                refine hK.out _ _ trivial (fun _ => ?_)
                clear hK K hown hgrow hrow hm5
                try simp only [Act.put, List.setIfInBounds_toArray, List.set_cons_zero, List.set_cons_succ]
                refine takeD (i := 6) (v := ?v4) (some 18) rfl (by kernel_rfl) (by kernel_rfl) (by kernel_rfl) (fun _ _ _ h => h) (Or.inl ⟨by rfl, ?hy4⟩) (by trivial) (by rfl) ?rest4
                case hy4 => first | (intro w hSw; go_simp; done) | (intro w hSw; go_simp; with_reducible rfl)
                try simp only [Act.put, List.setIfInBounds_toArray, List.set_cons_zero, List.set_cons_succ]
                refine wpAnyH_ready (rs := [7]) (by kernel_rfl) (by simp) ?_
                refine AllReadyH.cons rfl (fun K hK => ?_) AllReadyH.nil
                go_simp
                refine hK.out _ _ trivial (fun _ => ?_)
                clear hK K
                try simp only [Act.put, List.setIfInBounds_toArray, List.set_cons_zero, List.set_cons_succ]
                refine wpAnyH_done (by kernel_rfl) ?_ _
                go_wp2
                go_roundg n
                case measure => omega
                case rel => exact ⟨q2, M ++ [(xk, xs, xa, xl)], .slice va vn vc, H1'.out, HQX.out.2.1, by rw [List.length_append]; have := HLN.out; have := HQX.out.1; simp; omega, HM5.out⟩
              · go_simp
                have hbl := bel w2 (.cells #[.int .i64 xk, .string xs, xa, xl] 27)
                have hbx := BoxC.new w2 27 #[.int .i64 xk, .string xs, xa, xl]
                have HM3 := hide (HM2.out.below hbl)
                refine hK.out _ _ trivial (fun _ => ?_)
                clear hK K hbl
                try simp only [Act.put, List.setIfInBounds_toArray, List.set_cons_zero, List.set_cons_succ]
                generalize hB : w2.heap.size = B at *
                generalize hw3 : w2.alloc (.cells #[.int .i64 xk, .string xs, xa, xl] 27) = w3 at *
                have HBX := hide hbx
                clear hbx hw3
                refine wpAnyH_ready (rs := [1]) (by kernel_rfl) (by simp) ?_
                refine AllReadyH.cons rfl (fun K hK => ?_) AllReadyH.nil
                have clw3 : w3.cell? ⟨w.heap.size + 1, 3, none⟩ = some (.slice la M.length lc) := HM3.out.box.cell 3
                go_simp
                refine hK.out _ _ trivial (fun _ => ?_)
                clear hK K
                try simp only [Act.put, List.setIfInBounds_toArray, List.set_cons_zero, List.set_cons_succ]
                refine wpAnyH_ready (rs := [5]) (by kernel_rfl) (by simp) ?_
                refine AllReadyH.cons rfl (fun K hK => ?_) AllReadyH.nil
                refine wp_appV _ (.tmp 13) (.tmp 16) rfl (w.heap.size + 2) (.slice la M.length lc) M rfl HM3.out.own B _ (xk, xs, xa, xl) rfl HBX.out HQX.out.2.2 (by have := HLN.out; have := HT.out.len; omega) (by have := HM3.out.box.lt; omega) ?_
                intro lv' w4 hown hgrow hrow
                obtain ⟨va, vn, vc, rfl⟩ := hown.slice
                have hm5 := HM3.out.put hgrow hown
                have lV4 : w.heap.size + 1 < w4.heap.size := (HM3.out.box.kept hgrow (fun e => by have := (HM3.out.own.lt _ e.symm).1; omega)).lt
                have cV4 : w4.cell? ⟨w.heap.size + 1, 3, none⟩ = some (.slice la M.length lc) := (HM3.out.box.kept hgrow (fun e => by have := (HM3.out.own.lt _ e.symm).1; omega)).cell 3
                have fV4 : w4.frozen? ⟨w.heap.size + 1, 3, none⟩ = false := (HM3.out.box.kept hgrow (fun e => by have := (HM3.out.own.lt _ e.symm).1; omega)).frozen 3
                have HM5 := hide hm5
                refine hK.out _ _ trivial (fun _ => ?_)
                clear hK K hown hgrow hrow hm5
                try simp only [Act.put, List.setIfInBounds_toArray, List.set_cons_zero, List.set_cons_succ]
                refine takeD (i := 6) (v := ?v5) (some 18) rfl (by kernel_rfl) (by kernel_rfl) (by kernel_rfl) (fun _ _ _ h => h) (Or.inl ⟨by rfl, ?hy5⟩) (by trivial) (by rfl) ?rest5
                case hy5 => first | (intro w hSw; go_simp; done) | (intro w hSw; go_simp; with_reducible rfl)
                try simp only [Act.put, List.setIfInBounds_toArray, List.set_cons_zero, List.set_cons_succ]
                refine wpAnyH_ready (rs := [7]) (by kernel_rfl) (by simp) ?_
                refine AllReadyH.cons rfl (fun K hK => ?_) AllReadyH.nil
                go_simp
                refine hK.out _ _ trivial (fun _ => ?_)
                clear hK K
                try simp only [Act.put, List.setIfInBounds_toArray, List.set_cons_zero, List.set_cons_succ]
                refine wpAnyH_done (by kernel_rfl) ?_ _
                go_wp2
                go_roundg n
                case measure => omega
                case rel => exact ⟨q2, M ++ [(xk, xs, xa, xl)], .slice va vn vc, H1'.out, HQX.out.2.1, by rw [List.length_append]; have := HLN.out; have := HQX.out.1; simp; omega, HM5.out⟩

end Go.Proofs.YtbdpmpepmjpadaaGreatDoor
