/- lex.Tokens: a text's tokens. -/
import Derived.Test.YtehflaenehehhaaLRound
import Derived.Deep.AppendLies
import Derived.Deep.DeepMust
namespace Go.Proofs.Ytehflaenehehhaa
set_option linter.unusedVariables false
set_option linter.unusedSimpArgs false
open Go Go.RowKit Go.Shelf Go.Lib

attribute [local go_sem] Oper.semAt_some

/-- What is wrong with the k-th piece. -/
def faultAt (T : List Nat) (k : Nat) : Int := faultL (kindAt T (posP T k)) (sizeAt T (posP T k))

/-- What Tokens tells. -/
def TokR (W : World) (T : List Nat) (N : Nat) (v : Value) (a e : Int) : Prop :=
  (∃ k, k < N ∧ (∀ j, j < k → faultAt T j = 0) ∧ faultAt T k ≠ 0 ∧ v = .slice none 0 0 ∧ a = ((posP T k : Nat) : Int) ∧ e = faultAt T k) ∨
  ((∀ j, j < N → faultAt T j = 0) ∧ a = 0 ∧ e = 0 ∧ ∃ n₀, OwnT n₀ W v T (toksL T N ++ [(0, T.length, T.length)]))

/-- What the loop keeps. -/
def TokV (w : World) (ao : Option Addr) (cap : Nat) (T : List Nat) (v : Value) (k : Nat) (W : World) : Prop :=
  ((Boxed W (w.heap.size + 4) 24 v ∧ OwnT (w.heap.size + 6) W v T (toksL T k)) ∧ (Boxed W w.heap.size 22 (.slice ao T.length cap) ∧ Boxed W (w.heap.size + 1) 24 (.slice none 0 0) ∧ Boxed W (w.heap.size + 2) 3 (.int .i64 0) ∧ Boxed W (w.heap.size + 3) 25 (.int .i64 0) ∧ Boxed W (w.heap.size + 5) 22 (.slice ao T.length cap)) ∧ (∀ j, j < k → faultAt T j = 0)) ∧ Below w.heap.size w W
theorem tokV_own {β : Type} (w : World) (ao : Option Addr) (cap : Nat) (T : List Nat) (v : Value) (f : β → Nat) (C : Nat) (hC : w.heap.size ≤ C) : OwnFrom C (fun p W => TokV w ao cap T v (f p) W) :=
  OwnFrom.and (OwnFrom.and (OwnFrom.and (own_boxed _ _ _ _) (own_owns _ _ _ _ _ _ _)) (OwnFrom.and (OwnFrom.and (own_boxed _ _ _ _) (OwnFrom.and (own_boxed _ _ _ _) (OwnFrom.and (own_boxed _ _ _ _) (OwnFrom.and (own_boxed _ _ _ _) (own_boxed _ _ _ _))))) (ownFrom_pure _ _))) (ownFrom_below (Nat.le_refl _) hC)
theorem TokV.below {w : World} {ao : Option Addr} {cap : Nat} {T : List Nat} {v : Value} {k : Nat} {W W' : World} (h : TokV w ao cap T v k W) (hb : Below W.heap.size W W') : TokV w ao cap T v k W' := by
  obtain ⟨⟨⟨g0, g0'⟩, ⟨g1, g2, g3, g4, g5⟩, g6⟩, hB⟩ := h
  exact ⟨⟨⟨boxed_below g0 hb, g0'.keep hb⟩, ⟨boxed_below g1 hb, boxed_below g2 hb, boxed_below g3 hb, boxed_below g4 hb, boxed_below g5 hb⟩, g6⟩, bafter hB hb (Nat.le_refl _)⟩

theorem Box1.lt' {W : World} {B : Nat} {t : TypeId} {v : Value} (h : Boxed W B t v) : B < W.heap.size := (Array.getElem?_eq_some_iff.1 h).1

theorem cell_other {X : World} {B C : Nat} {v : Value} (h : X.cell? ⟨B, 0, none⟩ = some v) (hne : B ≠ C) (u : Value) : (X.setCell ⟨C, 0, none⟩ u).cell? ⟨B, 0, none⟩ = some v := (World.cell?_of_block (w := X) (a := ⟨B, 0, none⟩) (heap_setCell_other X ⟨C, 0, none⟩ B u hne)).trans h

theorem OwnT.cells {n₀ : Nat} {W : World} {v : Value} {T : List Nat} {L : List Tok} (h : OwnT n₀ W v T L) {j : Nat} {o : Obj} (hj : v.ownBlock = some j) (ho : W.heap[j]? = some o) : o.isCells = true := by
  rcases h.2 with ⟨rfl, _⟩ | ⟨g, cap, cur, rfl, hg, hh, _⟩
  · simp [Value.ownBlock] at hj
  · simp [Value.ownBlock] at hj
    subst hj
    rw [hh] at ho
    cases ho
    rfl
theorem posP_ge {T : List Nat} {N : Nat} (h1 : ∀ k, k < N → posP T k < T.length) : ∀ k, k ≤ N → k ≤ posP T k := by
  intro k
  induction k with
  | zero => intro _; exact Nat.zero_le _
  | succ k ih =>
    intro hk
    have := ih (by omega)
    have e : posP T (k + 1) = posP T k + sizeAt T (posP T k) := rfl
    have := (size_bounds (h1 k (by omega))).1
    omega

theorem own_form {n₀ : Nat} {W : World} {v : Value} {T : List Nat} {L : List Tok} (h : OwnT n₀ W v T L) : ∃ so sn sc, v = Value.slice so sn sc := by
  rcases h.2 with ⟨e, _⟩ | ⟨g, cp, cur, e, _⟩
  · exact ⟨_, _, _, e⟩
  · exact ⟨_, _, _, e⟩

/-- The slots of a round. -/
def tokAct (w : World) (ao : Option Addr) (cap : Nat) (T : List Nat) (k B : Nat) : Act :=
  { tmps := #[.slice ao T.length cap, .pointer (some ⟨w.heap.size, 0, none⟩), .pointer (some ⟨w.heap.size + 1, 0, none⟩), .pointer (some ⟨w.heap.size + 1 + 1, 0, none⟩), .pointer (some ⟨w.heap.size + 1 + 1 + 1, 0, none⟩), .pointer (some ⟨w.heap.size + 1 + 1 + 1 + 1, 0, none⟩), .int .i64 (kindAt T (posP T k)), .pointer (some ⟨B, 0, none⟩), undef, undef, .slice ao T.length cap, .func (.func 30) #[] #[.pointer (some ⟨w.heap.size + 1 + 1 + 1 + 1 + 1, 0, none⟩)], .int .i64 (kindAt T (posP T k)), .agg #[.int .i64 ((posP T k : Nat) : Int), .int .i64 ((posP T (k + 1) : Nat) : Int)], undef, undef, undef, undef, undef, undef, undef, undef, undef, undef, undef, undef, undef, undef, undef, undef, undef, undef, undef, undef, undef, undef, undef, undef, undef, undef, undef, undef, undef, undef, undef, undef, undef, undef, undef, undef, undef], defers := [] }
/-- What a round finds. -/
def TokB (w : World) (ao : Option Addr) (cap : Nat) (T : List Nat) (p : Nat × Act) (W : World) : Prop :=
  ∃ B v, ((p.2 = tokAct w ao cap T p.1 B ∧ v.ownBlock ≠ some B ∧ w.heap.size + 6 ≤ B) ∧ Box2 W B 32 (.int .i64 ((posP T p.1 : Nat) : Int)) (.int .i64 ((posP T (p.1 + 1) : Nat) : Int))) ∧ TokV w ao cap T v p.1 W
theorem tokB_own (w : World) (ao : Option Addr) (cap : Nat) (T : List Nat) (C : Nat) (hC : w.heap.size ≤ C) : OwnFrom C (TokB w ao cap T) :=
  own_exists (fun B => own_exists (fun v => OwnFrom.and (OwnFrom.and (ownFrom_pure _ _) (own_box2 (fun _ => B) _ _ _ _)) (tokV_own w ao cap T v (fun p : Nat × Act => p.1) C hC)))

set_option maxRecDepth 100000 in
set_option maxHeartbeats 1000000 in
theorem tokens_calls (w : World) (ao : Option Addr) (cap : Nat) (T : List Nat) (N : Nat) (h : Byts w (.slice ao T.length cap) T) (h1 : ∀ k, k < N → posP T k < T.length) (h2 : posP T N = T.length) (hlen : T.length ≤ 1000000000) (hcap : T.length ≤ cap) :
    Calls Try.prog 10 #[.slice ao T.length cap] w fun e w' => ∃ v a er, e = .returned (.tuple #[v, .int .i64 a, .int .i64 er]) ∧ TokR w' T N v a er ∧ Below w.heap.size w w' := by
  refine (callsIn_wide (n := 3)).1 ?_
  refine callsIn_of_wp_marks Try.func10 rfl trivial ?_ rfl
  simp only [Try.ntmps10, List.size_toArray, List.length_cons, List.length_nil, Nat.reduceAdd, Nat.reduceSub, Array.replicate_succ, Array.replicate_zero, List.push_toArray, List.append_toArray, List.nil_append, List.cons_append]
  gi_wp2_with (refine ⟨trivial, ?_⟩; gi_at_call 21; refine (callsIn_wide.2 (pieces_calls _ _ _ _)).mono ?_; rintro e w' ⟨rfl, rfl⟩)
  have hw0 := Boxed.new w 22 (.slice ao T.length cap)
  generalize hA : w.alloc (.cells #[.slice ao T.length cap] 22) = wA at *
  have hzA : wA.heap.size = w.heap.size + 1 := by rw [← hA]; simp
  have hw1 := Boxed.new wA 24 (.slice none 0 0)
  generalize hB : wA.alloc (.cells #[.slice none 0 0] 24) = wB at *
  have hzB : wB.heap.size = w.heap.size + 2 := by rw [← hB]; simp [hzA]
  have hw2 := Boxed.new wB 3 (.int .i64 0)
  generalize hC : wB.alloc (.cells #[.int .i64 0] 3) = wC at *
  have hzC : wC.heap.size = w.heap.size + 3 := by rw [← hC]; simp [hzB]
  have hw3 := Boxed.new wC 25 (.int .i64 0)
  generalize hD : wC.alloc (.cells #[.int .i64 0] 25) = wD at *
  have hzD : wD.heap.size = w.heap.size + 4 := by rw [← hD]; simp [hzC]
  have hw4 := Boxed.new wD 24 (.slice none 0 0)
  generalize hE : wD.alloc (.cells #[.slice none 0 0] 24) = wE at *
  have hzE : wE.heap.size = w.heap.size + 5 := by rw [← hE]; simp [hzD]
  have hw5 := Boxed.new wE 22 (.slice ao T.length cap)
  generalize hF : wE.alloc (.cells #[.slice ao T.length cap] 22) = wF at *
  have hzF : wF.heap.size = w.heap.size + 6 := by rw [← hF]; simp [hzE]
  have k0 : Below w.heap.size w wA := by rw [← hA]; exact bel _ _
  have k1 : Below wA.heap.size wA wB := by rw [← hB]; exact bel _ _
  have k2 : Below wB.heap.size wB wC := by rw [← hC]; exact bel _ _
  have k3 : Below wC.heap.size wC wD := by rw [← hD]; exact bel _ _
  have k4 : Below wD.heap.size wD wE := by rw [← hE]; exact bel _ _
  have k5 : Below wE.heap.size wE wF := by rw [← hF]; exact bel _ _
  have hstart : TokV w ao cap T (.slice none 0 0) 0 wF := by
    have j4 := boxed_below hw4 k5
    have j3 := boxed_below (boxed_below hw3 k4) k5
    have j2 := boxed_below (boxed_below (boxed_below hw2 k3) k4) k5
    have j1 := boxed_below (boxed_below (boxed_below (boxed_below hw1 k2) k3) k4) k5
    have j0 := boxed_below (boxed_below (boxed_below (boxed_below (boxed_below hw0 k1) k2) k3) k4) k5
    rw [hzD] at j4
    rw [hzC] at j3
    rw [hzB] at j2
    rw [hzA] at j1
    rw [hzE] at hw5
    refine ⟨⟨⟨j4, World.ownsRow_nil _ _ _ _⟩, ⟨j0, j1, j2, j3, hw5⟩, fun j hj => by omega⟩, ?_⟩
    exact bafter (bafter (bafter (bafter (bafter k0 k1 (Nat.le_refl _)) k2 (Nat.le_refl _)) k3 (Nat.le_refl _)) k4 (Nat.le_refl _)) k5 (Nat.le_refl _)
  clear hw0 hw1 hw2 hw3 hw4 hw5 k0 k1 k2 k3 k4 k5 hA hB hC hD hE hF
  refine range_knownA (gf := 30) (lb := #[.pointer (some ⟨w.heap.size + 1 + 1 + 1 + 1 + 1, 0, none⟩)]) ?hg (enters_of Try.func30 (by kernel_rfl) rfl)
    (pieces_hands (w.heap.size + 5) ao cap T N h1 h2 hlen hcap) (fun _ => rfl)
    (fun k W => ∃ v, TokV w ao cap T v k W)
    (fun c k W => ((c = .ret ∧ (∀ j, j < k → faultAt T j = 0) ∧ faultAt T k ≠ 0) ∧ Boxed W (w.heap.size + 1) 24 (.slice none 0 0) ∧ Boxed W (w.heap.size + 2) 3 (.int .i64 ((posP T k : Nat) : Int)) ∧ Boxed W (w.heap.size + 3) 25 (.int .i64 (faultAt T k))) ∧ Below w.heap.size w W)
    (own_exists (fun v => tokV_own w ao cap T v (fun k => k) _ (by omega)))
    (fun c => OwnFrom.and (OwnFrom.and (ownFrom_pure _ _) (OwnFrom.and (own_boxed _ _ _ _) (OwnFrom.and (own_boxed _ _ _ _) (own_boxed _ _ _ _)))) (ownFrom_below (Nat.le_refl _) (by omega)))
    ?know ?stable ⟨_, hstart⟩ (TokB w ao cap T) (tokB_own w ao cap T _ (by omega)) ?assign ?body ?done ?stop
  case hg => rfl
  case know =>
    rintro k W ⟨v, ⟨⟨_, ⟨_, _, _, _, hb⟩, _⟩, hB⟩⟩
    exact ⟨hb.cell, h.below hB⟩
  case stable =>
    rintro k W W' ⟨v, hv⟩ hb
    exact ⟨v, hv.below hb⟩
  case assign =>
    rintro l k W K hk ⟨v, hv⟩ hK
    have hsz := hv.2.size
    have hK2 := hK (tokAct w ao cap T k W.heap.size) (W.alloc (.cells #[.int .i64 ((posP T k : Nat) : Int), .int .i64 ((posP T (k + 1) : Nat) : Int)] 32)) (bel _ _) ⟨W.heap.size, v, ⟨⟨rfl, fun e => by have := (hv.1.1.2.lt e).2; omega, by have := Box1.lt' hv.1.2.1.2.2.2.2; omega⟩, World.alloc_heap_new _ _⟩, hv.below (bel _ _)⟩
    clear hK
    unfold tokAct at hK2
    unfold pieceV
    gi_wp2
    exact hK2
  case body =>
    rintro l k a1 W hk ⟨B, v, ⟨⟨ha1, hne, hBB⟩, hbx⟩, hv⟩
    dsimp only at ha1 hbx hv
    subst ha1
    unfold tokAct
    have ha := hbx.cell0
    have hb := hbx.cell1
    have hp := h1 k hk
    have hps : posP T (k + 1) = posP T k + sizeAt T (posP T k) := rfl
    obtain ⟨s1, s2⟩ := size_bounds hp
    have HV := hide hv
    have HX := hide hbx
    have H1 := hide h1
    have HFa : Hid (faultAt T k = faultL (kindAt T (posP T k)) (sizeAt T (posP T k))) := rfl
    clear hv hbx h1 h2
    generalize hKK : kindAt T (posP T k) = kd at *
    generalize hZZ : sizeAt T (posP T k) = Z at *
    generalize hPP : posP T k = P at *
    generalize hQQ : posP T (k + 1) = Q at *
    have hsub : (Q : Int) - (P : Int) = (Z : Int) := by omega
    have HKK := hide hKK
    have HPP := hide hPP
    have HQQ := hide hQQ
    have HPS := hide hps
    clear hKK hZZ hPP hQQ hps
    gi_wp2_with fail
    refine ⟨trivial, ?_⟩
    refine (CallsIn.inRound l (callsIn_wide.2 (fault_calls W kd Z))).mono ?_
    rintro e w1 ⟨rfl, hw⟩
    rw [hw]
    clear hw
    by_cases hf : faultL kd Z = 0
    · have hf' : (faultL kd Z != 0) = false := by rw [hf]; rfl
      generalize faultL kd Z = fv at *
      gi_wp2_with fail
      refine ⟨trivial, ?_⟩
      refine (CallsIn.inRound l (callsIn_wide.2 (isToken_calls W kd))).mono ?_
      rintro e w1 ⟨rfl, hw⟩
      rw [hw]
      clear hw
      by_cases hk0 : kd > 0
      · have hk1 : decide (kd > 0) = true := decide_eq_true hk0
        rw [hk1]
        obtain ⟨b, off, rfl⟩ : ∃ b off, ao = some ⟨b, off, none⟩ := by
          obtain ⟨_, _, e, _, hcs⟩ := h
          cases e
          obtain ⟨b, off, e, _⟩ := hcs 0 (by omega)
          exact ⟨b, off, e⟩
        obtain ⟨⟨⟨g0, g0'⟩, ⟨g1, g2, g3, g4, g5⟩, g6⟩, hB⟩ := HV.out
        have c1 := g1.cell
        have hby := h.below hB
        have q1 : (P : Int) ≤ (Q : Int) := by have := HPS.out; omega
        have q2 : (Q : Int) ≤ (cap : Int) := by have := HPS.out; omega
        have q3 : (0 : Int) ≤ (P : Int) := by omega
        have q5 : (0 : Int) ≤ (Q : Int) := by omega
        have q6 : ¬ cap = P := by omega
        have HCUT := hide (show P + (Q - P) ≤ T.length by have := HPS.out; omega)
        have c5 : W.cell? ⟨w.heap.size + 1 + 1 + 1 + 1, 0, none⟩ = some v := g0.cell
        have f5 : W.frozen? ⟨w.heap.size + 1 + 1 + 1 + 1, 0, none⟩ = false := g0.frozen
        obtain ⟨i0, hi, hz0, hz1, hz2⟩ := info_parts infoTok
        have mkS : ∀ Xx : World, Box2 Xx B 32 (.int .i64 (P : Int)) (.int .i64 (Q : Int)) → Boxed Xx w.heap.size 22 (.slice (some ⟨b, off, none⟩) T.length cap) → Below w.heap.size w Xx → Xx.cell? ⟨B, 0, none⟩ = some (.int .i64 (P : Int)) ∧ Xx.cell? ⟨B, 1, none⟩ = some (.int .i64 (Q : Int)) ∧ Xx.cell? ⟨w.heap.size, 0, none⟩ = some (.slice (some ⟨b, off, none⟩) T.length cap) ∧ Byts Xx (.slice (some ⟨b, off, none⟩) T.length cap) T :=
          fun Xx r1 r2 r3 => ⟨r1.cell0, r1.cell1, r2.cell, h.below r3⟩
        obtain ⟨o1, ho1⟩ : ∃ o1 : Obj, o1 = (.cells #[.int .i64 kd, .string (strOf ((T.drop P).take (Q - P))), .int .i64 (P : Int), .int .i64 (Q : Int)] 34) := ⟨_, rfl⟩
        have kA : Below W.heap.size W (W.drew.alloc o1) := (Below.refl _ W).drew.alloc (Nat.le_refl _) o1
        have HS1 := hide (mkS _ (HX.out.below kA) (boxed_below g1 kA) (bafter hB kA (Nat.le_refl _)))
        have HC6 : Hid ((W.drew.alloc o1).cell? ⟨w.heap.size + 1 + 1 + 1 + 1, 0, none⟩ = some v) := (boxed_below g0 kA).cell
        have HO := hide (g0'.keep kA)
        have HSZ : Hid (w.heap.size + 6 ≤ (W.drew.alloc o1).heap.size) := by
          have r1 := Box1.lt' g5
          have r2 := kA.size
          show _ ≤ _
          omega
        have HLN := hide (show (toksL T k).length ≤ 1000000000 by have r1 := toksL_le T k; have r2 := posP_ge H1.out k (by omega); rw [HPP.out] at r2; omega)
        have HONE : Hid (∀ u ∈ ([.int .i64 kd, .string (strOf ((T.drop P).take (Q - P))), .int .i64 (P : Int), .int .i64 (Q : Int)] : List Value), u.oneCell' = true) := fun u hu => by
          simp at hu
          rcases hu with rfl | rfl | rfl | rfl <;> rfl
        have HFIN : Hid (∀ v' w1, w1.ownsRow (w.heap.size + 6) 34 4 v' ((toksL T k).length + 1) (tkcells T (toksL T k) ++ [.int .i64 kd, .string (strOf ((T.drop P).take (Q - P))), .int .i64 (P : Int), .int .i64 (Q : Int)]) → (W.drew.alloc o1).grownBy w1 v.ownBlock →
            (fun Xx : World => Xx.cell? ⟨B, 0, none⟩ = some (.int .i64 (P : Int)) ∧ Xx.cell? ⟨B, 1, none⟩ = some (.int .i64 (Q : Int)) ∧ Xx.cell? ⟨w.heap.size, 0, none⟩ = some (.slice (some ⟨b, off, none⟩) T.length cap) ∧ Byts Xx (.slice (some ⟨b, off, none⟩) T.length cap) T) w1 ∧ (fun Xx : World => Xx.cell? ⟨B, 0, none⟩ = some (.int .i64 (P : Int)) ∧ Xx.cell? ⟨B, 1, none⟩ = some (.int .i64 (Q : Int)) ∧ Xx.cell? ⟨w.heap.size, 0, none⟩ = some (.slice (some ⟨b, off, none⟩) T.length cap) ∧ Byts Xx (.slice (some ⟨b, off, none⟩) T.length cap) T) (w1.setCell ⟨w.heap.size + 1 + 1 + 1 + 1, 0, none⟩ v') ∧ w1.cell? ⟨w.heap.size + 1 + 1 + 1 + 1, 0, none⟩ = some v ∧ w1.frozen? ⟨w.heap.size + 1 + 1 + 1 + 1, 0, none⟩ = false ∧
            (KeepsFrom wF.heap.size W (w1.setCell ⟨w.heap.size + 1 + 1 + 1 + 1, 0, none⟩ v') ∧ ∃ v, TokV w (some ⟨b, off, none⟩) cap T v (k + 1) (w1.setCell ⟨w.heap.size + 1 + 1 + 1 + 1, 0, none⟩ v'))) := by
          intro v' w1 ho hg
          have kept : ∀ (B0 : Nat) (t : TypeId) (u : Value), Boxed W B0 t u → B0 < w.heap.size + 6 → Boxed w1 B0 t u := fun B0 t u hb0 hlt =>
            (hg.block B0 (Box1.lt' (boxed_below hb0 kA)) (fun e => by have := (HO.out.lt e.symm).1; omega)).trans (boxed_below hb0 kA)
          have x1 : Box2 w1 B 32 (.int .i64 (P : Int)) (.int .i64 (Q : Int)) := (HX.out.below kA).kept hg (fun e => hne e.symm)
          have b1 : Below w.heap.size w w1 := (bafter hB kA (Nat.le_refl _)).grown hg (by have := HSZ.out; omega) (fun j hj => by have := (HO.out.lt hj).1; omega)
          have y0 := kept _ _ _ g0 (by omega)
          have y1 := kept _ _ _ g1 (by omega)
          have y2 := kept _ _ _ g2 (by omega)
          have y3 := kept _ _ _ g3 (by omega)
          have y4 := kept _ _ _ g4 (by omega)
          have y5 := kept _ _ _ g5 (by omega)
          have b2 : Below w.heap.size w (w1.setCell ⟨w.heap.size + 4, 0, none⟩ v') := b1.setCell (p := ⟨w.heap.size + 4, 0, none⟩) (by simp) _
          refine ⟨mkS _ x1 y1 b1, mkS _ (x1.other (by omega) _) (boxed_other y1 (by omega) _) b2, y0.cell, y0.frozen, ?_, v', ?_⟩
          · exact ((KeepsOthers.drew W).trans ((KeepsOthers.alloc _ _).trans ((KeepsOthers.of_grownBy hg (fun j o hj ho => HO.out.cells hj ho)).trans (KeepsOthers.setCell _ _ _)))).from _
          · refine ⟨⟨⟨y0.set _, ?_⟩, ⟨boxed_other y1 (by omega) _, boxed_other y2 (by omega) _, boxed_other y3 (by omega) _, boxed_other y4 (by omega) _, boxed_other y5 (by omega) _⟩, fun j hj => ?_⟩, b2⟩
            · refine OwnT.set ?_ (by omega) _
              rw [toksL_yes (by rw [HPP.out, HKK.out]; omega), HPP.out, HKK.out, HQQ.out]
              unfold OwnT
              rw [List.length_append, tkcells_snoc]
              exact ho
            · rcases Nat.lt_succ_iff_lt_or_eq.1 hj with e | e
              · exact g6 j e
              · rw [e, HFa.out]; exact hf
        subst ho1
        clear g0 g0' g1 g2 g3 g4 g5 g6 hB mkS kA
        gi_wp2
        refine round_any 1 l (by kernel_rfl) (no_defer (by simp)) (by rintro ⟨_, _, h⟩; exact h) (wpAny_of_held (S := fun X => X.cell? ⟨B, 0, none⟩ = some (.int .i64 (P : Int)) ∧ X.cell? ⟨B, 1, none⟩ = some (.int .i64 (Q : Int)) ∧ X.cell? ⟨w.heap.size, 0, none⟩ = some (.slice (some ⟨b, off, none⟩) T.length cap) ∧ Byts X (.slice (some ⟨b, off, none⟩) T.length cap) T) _ _ _ _ ?_)
        have hSS : (fun X : World => X.cell? ⟨B, 0, none⟩ = some (.int .i64 (P : Int)) ∧ X.cell? ⟨B, 1, none⟩ = some (.int .i64 (Q : Int)) ∧ X.cell? ⟨w.heap.size, 0, none⟩ = some (.slice (some ⟨b, off, none⟩) T.length cap) ∧ Byts X (.slice (some ⟨b, off, none⟩) T.length cap) T) W.drew := ⟨ha, hb, c1, hby⟩
        refine takeD (i := 1) (v := ?v21) (some 29) rfl (by kernel_rfl) (by kernel_rfl) (by kernel_rfl) (fun _ _ _ h => h) (Or.inl ⟨by rfl, ?hy21⟩) (by assumption) (by rfl) ?rest21
        case hy21 => first | (intro w hSw; (try dsimp only at hSw); obtain ⟨q1, q2, q3, q4⟩ := hSw; go_simp; done) | (intro w hSw; (try dsimp only at hSw); obtain ⟨q1, q2, q3, q4⟩ := hSw; go_simp; with_reducible rfl)
        try simp only [Act.put, List.setIfInBounds_toArray, List.set_cons_zero, List.set_cons_succ]
        refine takeD (i := 2) (v := ?v22) (some 30) rfl (by kernel_rfl) (by kernel_rfl) (by kernel_rfl) (fun _ _ _ h => h) (Or.inl ⟨by rfl, ?hy22⟩) (by assumption) (by rfl) ?rest22
        case hy22 => first | (intro w hSw; (try dsimp only at hSw); obtain ⟨q1, q2, q3, q4⟩ := hSw; go_simp; done) | (intro w hSw; (try dsimp only at hSw); obtain ⟨q1, q2, q3, q4⟩ := hSw; go_simp; with_reducible rfl)
        try simp only [Act.put, List.setIfInBounds_toArray, List.set_cons_zero, List.set_cons_succ]
        refine takeD (i := 3) (v := ?v23) (some 31) rfl (by kernel_rfl) (by kernel_rfl) (by kernel_rfl) (fun _ _ _ h => h) (Or.inl ⟨by rfl, ?hy23⟩) (by assumption) (by rfl) ?rest23
        case hy23 => first | (intro w hSw; (try dsimp only at hSw); obtain ⟨q1, q2, q3, q4⟩ := hSw; go_simp; done) | (intro w hSw; (try dsimp only at hSw); obtain ⟨q1, q2, q3, q4⟩ := hSw; go_simp; with_reducible rfl)
        try simp only [Act.put, List.setIfInBounds_toArray, List.set_cons_zero, List.set_cons_succ]
        refine takeD (i := 4) (v := ?v24) (some 32) rfl (by kernel_rfl) (by kernel_rfl) (by kernel_rfl) (fun _ _ _ h => h) (Or.inl ⟨by rfl, ?hy24⟩) (by assumption) (by rfl) ?rest24
        case hy24 => first | (intro w hSw; (try dsimp only at hSw); obtain ⟨q1, q2, q3, q4⟩ := hSw; go_simp; done) | (intro w hSw; (try dsimp only at hSw); obtain ⟨q1, q2, q3, q4⟩ := hSw; go_simp; with_reducible rfl)
        try simp only [Act.put, List.setIfInBounds_toArray, List.set_cons_zero, List.set_cons_succ]
        refine takeD (i := 5) (v := ?v25) (some 33) rfl (by kernel_rfl) (by kernel_rfl) (by kernel_rfl) (fun _ _ _ h => h) (Or.inl ⟨by rfl, ?hy25⟩) (by assumption) (by rfl) ?rest25
        case hy25 => first | (intro w hSw; (try dsimp only at hSw); obtain ⟨q1, q2, q3, q4⟩ := hSw; go_simp; done) | (intro w hSw; (try dsimp only at hSw); obtain ⟨q1, q2, q3, q4⟩ := hSw; go_simp; with_reducible rfl)
        try simp only [Act.put, List.setIfInBounds_toArray, List.set_cons_zero, List.set_cons_succ]
        refine takeD (i := 6) (v := ?v26) (some 34) rfl (by kernel_rfl) (by kernel_rfl) (by kernel_rfl) (fun _ _ _ h => h) (Or.inl ⟨by rfl, ?hy26⟩) (by assumption) (by rfl) ?rest26
        case hy26 => first | (intro w hSw; (try dsimp only at hSw); obtain ⟨q1, q2, q3, q4⟩ := hSw; go_simp; done) | (intro w hSw; (try dsimp only at hSw); obtain ⟨q1, q2, q3, q4⟩ := hSw; go_simp; with_reducible rfl)
        try simp only [Act.put, List.setIfInBounds_toArray, List.set_cons_zero, List.set_cons_succ]
        refine takeD (i := 9) (v := ?v27) (some 37) rfl (by kernel_rfl) (by kernel_rfl) (by kernel_rfl) (fun _ _ _ h => h) (Or.inl ⟨by rfl, ?hy27⟩) (by assumption) (by rfl) ?rest27
        case hy27 => first | (intro w hSw; (try dsimp only at hSw); obtain ⟨q1, q2, q3, q4⟩ := hSw; go_simp; done) | (intro w hSw; (try dsimp only at hSw); obtain ⟨q1, q2, q3, q4⟩ := hSw; go_simp; with_reducible rfl)
        try simp only [Act.put, List.setIfInBounds_toArray, List.set_cons_zero, List.set_cons_succ]
        refine takeD (i := 7) (v := ?v28) (some 35) rfl (by kernel_rfl) (by kernel_rfl) (by kernel_rfl) (fun _ _ _ h => h) (Or.inl ⟨by rfl, ?hy28⟩) (by assumption) (by rfl) ?rest28
        case hy28 => first | (intro w hSw; (try dsimp only at hSw); obtain ⟨q1, q2, q3, q4⟩ := hSw; go_simp; done) | (intro w hSw; (try dsimp only at hSw); obtain ⟨q1, q2, q3, q4⟩ := hSw; go_simp; with_reducible rfl)
        try simp only [Act.put, List.setIfInBounds_toArray, List.set_cons_zero, List.set_cons_succ]
        refine takeD (i := 8) (v := ?v41) (some 36) rfl (by kernel_rfl) (by kernel_rfl) (by kernel_rfl) (fun _ _ _ h => h) (Or.inl ⟨by rfl, ?hy41⟩) (by assumption) (by rfl) ?rest41
        case hy41 => first | (intro w hSw; (try dsimp only at hSw); obtain ⟨q1, q2, q3, q4⟩ := hSw; have hcv := conv_byts (q4.cut (cap' := cap - P) (p := P) (m := Q - P) HCUT.out); go_simp; done) | (intro w hSw; (try dsimp only at hSw); obtain ⟨q1, q2, q3, q4⟩ := hSw; have hcv := conv_byts (q4.cut (cap' := cap - P) (p := P) (m := Q - P) HCUT.out); go_simp; with_reducible rfl)
        try simp only [Act.put, List.setIfInBounds_toArray, List.set_cons_zero, List.set_cons_succ]
        refine takeD (i := 10) (v := ?v42) (some 38) rfl (by kernel_rfl) (by kernel_rfl) (by kernel_rfl) (fun _ _ _ h => h) (Or.inl ⟨by rfl, ?hy42⟩) (by assumption) (by rfl) ?rest42
        case hy42 => first | (intro w hSw; (try dsimp only at hSw); obtain ⟨q1, q2, q3, q4⟩ := hSw; go_simp; done) | (intro w hSw; (try dsimp only at hSw); obtain ⟨q1, q2, q3, q4⟩ := hSw; go_simp; with_reducible rfl)
        try simp only [Act.put, List.setIfInBounds_toArray, List.set_cons_zero, List.set_cons_succ]
        refine wpAnyH_ready (rs := [0, 11]) (by kernel_rfl) (by simp) ?_
        refine AllReadyH.cons rfl (fun K hK => ?_) (AllReadyH.cons rfl (fun K hK => ?_) AllReadyH.nil)
        · go_simp
          refine hK.out _ _ hSS (fun _ => ?_)
          clear hK K
          try simp only [Act.put, List.setIfInBounds_toArray, List.set_cons_zero, List.set_cons_succ]
          refine wpAnyH_ready (rs := [11]) (by kernel_rfl) (by simp) ?_
          refine AllReadyH.cons rfl (fun K hK => ?_) AllReadyH.nil
          go_simp
          refine hK.out _ _ HS1.out (fun _ => ?_)
          clear hK K
          try simp only [Act.put, List.setIfInBounds_toArray, List.set_cons_zero, List.set_cons_succ]
          refine wpAnyH_ready (rs := [12]) (by kernel_rfl) (by simp) ?_
          refine AllReadyH.cons rfl (fun K hK => ?_) AllReadyH.nil
          refine wp_append_own _ (.tmp 28) (.tmp 39) 24 rfl (w.heap.size + 6) 34 i0 (.agg #[.int .i64 0, .string ⟨#[]⟩, .int .i64 0, .int .i64 0]) 4 40 Try.underlying24 hi hz0 hz1 hz2 rfl (by decide) v (toksL T k).length (tkcells T (toksL T k)) rfl HO.out ⟨W.heap.size, 0, none⟩ 1 1 [.int .i64 kd, .string (strOf ((T.drop P).take (Q - P))), .int .i64 (P : Int), .int .i64 (Q : Int)] rfl rfl (by exact World.news_of_block (World.alloc_heap_new _ _)) HONE.out (by have := HLN.out; unfold maxLen; omega) (by have := HLN.out; omega) HSZ.out ?_
          intro v' w1 hown' hgrow hnil
          obtain ⟨so, sn, sc, rfl⟩ : ∃ so sn sc, v' = Value.slice so sn sc := by
            rcases hown'.2 with ⟨e, _⟩ | ⟨g, cp, cur, e, _⟩
            · exact ⟨_, _, _, e⟩
            · exact ⟨_, _, _, e⟩
          obtain ⟨p1, p2, p3, p4, p5⟩ := HFIN.out _ w1 hown' hgrow
          refine hK.out _ _ p1 (fun _ => ?_)
          clear hK K hnil
          try simp only [Act.put, List.setIfInBounds_toArray, List.set_cons_zero, List.set_cons_succ]
          refine wpAnyH_ready (rs := [13]) (by kernel_rfl) (by simp) ?_
          refine AllReadyH.cons rfl (fun K hK => ?_) AllReadyH.nil
          go_simp
          refine hK.out _ _ p2 (fun _ => ?_)
          clear hK K
          try simp only [Act.put, List.setIfInBounds_toArray, List.set_cons_zero, List.set_cons_succ]
          refine wpAnyH_done (by kernel_rfl) ?_ _
          exact p5
        · go_simp
          refine hK.out _ _ HS1.out (fun _ => ?_)
          clear hK K
          try simp only [Act.put, List.setIfInBounds_toArray, List.set_cons_zero, List.set_cons_succ]
          refine wpAnyH_ready (rs := [0]) (by kernel_rfl) (by simp) ?_
          refine AllReadyH.cons rfl (fun K hK => ?_) AllReadyH.nil
          have c6 := HC6.out
          have c7 : (W.alloc (.cells #[.int .i64 kd, .string (strOf ((T.drop P).take (Q - P))), .int .i64 (P : Int), .int .i64 (Q : Int)] 34)).cell? ⟨w.heap.size + 1 + 1 + 1 + 1, 0, none⟩ = some v := HC6.out
          go_simp
          refine hK.out _ _ HS1.out (fun _ => ?_)
          clear hK K
          try simp only [Act.put, List.setIfInBounds_toArray, List.set_cons_zero, List.set_cons_succ]
          refine wpAnyH_ready (rs := [12]) (by kernel_rfl) (by simp) ?_
          refine AllReadyH.cons rfl (fun K hK => ?_) AllReadyH.nil
          refine wp_append_own _ (.tmp 28) (.tmp 39) 24 rfl (w.heap.size + 6) 34 i0 (.agg #[.int .i64 0, .string ⟨#[]⟩, .int .i64 0, .int .i64 0]) 4 40 Try.underlying24 hi hz0 hz1 hz2 rfl (by decide) v (toksL T k).length (tkcells T (toksL T k)) rfl HO.out ⟨W.heap.size, 0, none⟩ 1 1 [.int .i64 kd, .string (strOf ((T.drop P).take (Q - P))), .int .i64 (P : Int), .int .i64 (Q : Int)] rfl rfl (by exact World.news_of_block (World.alloc_heap_new _ _)) HONE.out (by have := HLN.out; unfold maxLen; omega) (by have := HLN.out; omega) HSZ.out ?_
          intro v' w1 hown' hgrow hnil
          obtain ⟨so, sn, sc, rfl⟩ : ∃ so sn sc, v' = Value.slice so sn sc := by
            rcases hown'.2 with ⟨e, _⟩ | ⟨g, cp, cur, e, _⟩
            · exact ⟨_, _, _, e⟩
            · exact ⟨_, _, _, e⟩
          obtain ⟨p1, p2, p3, p4, p5⟩ := HFIN.out _ w1 hown' hgrow
          refine hK.out _ _ p1 (fun _ => ?_)
          clear hK K hnil
          try simp only [Act.put, List.setIfInBounds_toArray, List.set_cons_zero, List.set_cons_succ]
          refine wpAnyH_ready (rs := [13]) (by kernel_rfl) (by simp) ?_
          refine AllReadyH.cons rfl (fun K hK => ?_) AllReadyH.nil
          go_simp
          refine hK.out _ _ p2 (fun _ => ?_)
          clear hK K
          try simp only [Act.put, List.setIfInBounds_toArray, List.set_cons_zero, List.set_cons_succ]
          refine wpAnyH_done (by kernel_rfl) ?_ _
          exact p5
      · have hk1 : decide (kd > 0) = false := decide_eq_false hk0
        rw [hk1]
        gi_wp2
        obtain ⟨⟨⟨g0, g0'⟩, g1, g6⟩, hB⟩ := HV.out
        refine ⟨KeepsFrom.refl _ _, v, ⟨⟨g0, ?_⟩, g1, fun j hj => ?_⟩, hB⟩
        · rw [toksL_no (by rw [HPP.out, HKK.out]; omega)]
          exact g0'
        · rcases Nat.lt_succ_iff_lt_or_eq.1 hj with e | e
          · exact g6 j e
          · rw [e, HFa.out]; exact hf
    · have hf' : (faultL kd Z != 0) = true := by simp [hf]
      generalize faultL kd Z = fv at *
      obtain ⟨⟨⟨g0, g0'⟩, ⟨g1, g2, g3, g4, g5⟩, g6⟩, hB⟩ := HV.out
      have c2 := g2.cell
      have f2 := g2.frozen
      have c3 : W.cell? ⟨w.heap.size + 1 + 1, 0, none⟩ = some (.int .i64 0) := g3.cell
      have f3 : W.frozen? ⟨w.heap.size + 1 + 1, 0, none⟩ = false := g3.frozen
      have c4 : W.cell? ⟨w.heap.size + 1 + 1 + 1, 0, none⟩ = some (.int .i64 0) := g4.cell
      have f4 : W.frozen? ⟨w.heap.size + 1 + 1 + 1, 0, none⟩ = false := g4.frozen
      have n1 : ¬ w.heap.size + 1 = w.heap.size + 1 + 1 := by omega
      have n2 : ¬ w.heap.size + 1 = w.heap.size + 1 + 1 + 1 := by omega
      have n3 : ¬ w.heap.size + 1 + 1 = w.heap.size + 1 + 1 + 1 := by omega
      have n4 : ¬ w.heap.size + 1 + 1 = w.heap.size + 1 := by omega
      have n5 : ¬ w.heap.size + 1 + 1 + 1 = w.heap.size + 1 := by omega
      have n6 : ¬ w.heap.size + 1 + 1 + 1 = w.heap.size + 1 + 1 := by omega
      have HG := hide (show (Boxed W (w.heap.size + 1) 24 (.slice none 0 0) ∧ Boxed W (w.heap.size + 2) 3 (.int .i64 0) ∧ Boxed W (w.heap.size + 3) 25 (.int .i64 0)) ∧ (∀ j, j < k → faultAt T j = 0) ∧ Below w.heap.size w W from ⟨⟨g2, g3, g4⟩, g6, hB⟩)
      have HF := hide hf
      clear hf g0 g0' g1 g2 g3 g4 g5 g6 hB HV
      gi_wp2
      refine round_any 1 l (by kernel_rfl) (no_defer (by simp)) (by rintro ⟨_, _, h⟩; exact h) (wpAny_of_held (S := fun X => X.cell? ⟨B, 0, none⟩ = some (.int .i64 (P : Int))) _ _ _ _ ?_)
      have hSS : (fun X : World => X.cell? ⟨B, 0, none⟩ = some (.int .i64 (P : Int))) W.drew := ha
      refine takeD (i := 0) (v := ?v1) (some 23) rfl (by kernel_rfl) (by kernel_rfl) (by kernel_rfl) (fun _ _ _ h => h) (Or.inl ⟨by rfl, ?hy1⟩) (by assumption) (by rfl) ?rest1
      case hy1 => first | (intro w hSw; (try dsimp only at hSw); go_simp; done) | (intro w hSw; (try dsimp only at hSw); go_simp; with_reducible rfl)
      try simp only [Act.put, List.setIfInBounds_toArray, List.set_cons_zero, List.set_cons_succ]
      refine takeD (i := 1) (v := ?v2) (some 24) rfl (by kernel_rfl) (by kernel_rfl) (by kernel_rfl) (fun _ _ _ h => h) (Or.inl ⟨by rfl, ?hy2⟩) (by assumption) (by rfl) ?rest2
      case hy2 => first | (intro w hSw; (try dsimp only at hSw); go_simp; done) | (intro w hSw; (try dsimp only at hSw); go_simp; with_reducible rfl)
      try simp only [Act.put, List.setIfInBounds_toArray, List.set_cons_zero, List.set_cons_succ]
      refine takeD (i := 2) (v := ?v3) (some 25) rfl (by kernel_rfl) (by kernel_rfl) (by kernel_rfl) (fun _ _ _ h => h) (Or.inl ⟨by rfl, ?hy3⟩) (by assumption) (by rfl) ?rest3
      case hy3 => first | (intro w hSw; (try dsimp only at hSw); go_simp; done) | (intro w hSw; (try dsimp only at hSw); go_simp; with_reducible rfl)
      try simp only [Act.put, List.setIfInBounds_toArray, List.set_cons_zero, List.set_cons_succ]
      refine wpAnyH_ready (rs := [3]) (by kernel_rfl) (by simp) ?_
      refine AllReadyH.cons rfl (fun K hK => ?_) AllReadyH.nil
      go_simp
      refine hK.out _ _ (cell_other hSS (by omega) _) (fun _ => ?_)
      clear hK K
      try simp only [Act.put, List.setIfInBounds_toArray, List.set_cons_zero, List.set_cons_succ]
      refine wpAnyH_ready (rs := [4]) (by kernel_rfl) (by simp) ?_
      refine AllReadyH.cons rfl (fun K hK => ?_) AllReadyH.nil
      go_simp
      refine hK.out _ _ (cell_other (cell_other hSS (by omega) _) (by omega) _) (fun _ => ?_)
      clear hK K
      try simp only [Act.put, List.setIfInBounds_toArray, List.set_cons_zero, List.set_cons_succ]
      refine wpAnyH_ready (rs := [5]) (by kernel_rfl) (by simp) ?_
      refine AllReadyH.cons rfl (fun K hK => ?_) AllReadyH.nil
      go_simp
      refine hK.out _ _ (cell_other (cell_other (cell_other hSS (by omega) _) (by omega) _) (by omega) _) (fun _ => ?_)
      clear hK K
      try simp only [Act.put, List.setIfInBounds_toArray, List.set_cons_zero, List.set_cons_succ]
      refine wpAnyH_done (by kernel_rfl) ?_ _
      simp only [Exit.then]
      gi_wp2
      obtain ⟨⟨g2, g3, g4⟩, g6, hB⟩ := HG.out
      have z2 : Boxed W.drew (w.heap.size + 1) 24 (.slice none 0 0) := g2
      have z3 : Boxed W.drew (w.heap.size + 2) 3 (.int .i64 0) := g3
      have z4 : Boxed W.drew (w.heap.size + 3) 25 (.int .i64 0) := g4
      refine ⟨((KeepsOthers.drew _).trans ((KeepsOthers.setCell _ _ _).trans ((KeepsOthers.setCell _ _ _).trans (KeepsOthers.setCell _ _ _)))).from _, ⟨⟨rfl, g6, by rw [HFa.out]; exact HF.out⟩, ?_, ?_, ?_⟩, ?_⟩
      · exact boxed_other (boxed_other (z2.set _) (by omega) _) (by omega) _
      · rw [HPP.out]
        exact boxed_other (Boxed.set _ (boxed_other z3 (by omega) _)) (by omega) _
      · rw [HFa.out]
        exact Boxed.set _ (boxed_other (boxed_other z4 (by omega) _) (by omega) _)
      · exact ((hB.drew.setCell (p := ⟨w.heap.size + 1, 0, none⟩) (by simp) _).setCell (p := ⟨w.heap.size + 1 + 1, 0, none⟩) (by simp; omega) _).setCell (p := ⟨w.heap.size + 1 + 1 + 1, 0, none⟩) (by simp; omega) _
  case done =>
    rintro D W hD ⟨v, hv⟩ hK
    obtain ⟨⟨⟨g0, g0'⟩, ⟨g1, g2, g3, g4, g5⟩, g6⟩, hB⟩ := hv
    obtain ⟨i0, hi, hz0, hz1, hz2⟩ := info_parts infoTok
    have kA : Below W.heap.size W ((W.alloc (.cells #[.int .i64 (T.length : Int), .int .i64 (T.length : Int)] 32)).alloc (.cells #[.int .i64 0, .string ⟨#[]⟩, .int .i64 (T.length : Int), .int .i64 (T.length : Int)] 34)) := ((Below.refl _ W).alloc (Nat.le_refl _) _).alloc (by simp) _
    have HO := hide (g0'.keep kA)
    have HSZ : Hid (w.heap.size + 6 ≤ ((W.alloc (.cells #[.int .i64 (T.length : Int), .int .i64 (T.length : Int)] 32)).alloc (.cells #[.int .i64 0, .string ⟨#[]⟩, .int .i64 (T.length : Int), .int .i64 (T.length : Int)] 34)).heap.size) := by
      have r1 := Box1.lt' g5
      have r2 := kA.size
      show _ ≤ _
      omega
    have HLN := hide (show (toksL T N).length ≤ 1000000000 by have r1 := toksL_le T N; have r2 := posP_ge h1 N (by omega); omega)
    have HONE : Hid (∀ u ∈ ([.int .i64 0, .string ⟨#[]⟩, .int .i64 (T.length : Int), .int .i64 (T.length : Int)] : List Value), u.oneCell' = true) := fun u hu => by
      simp at hu
      rcases hu with rfl | rfl | rfl | rfl <;> rfl
    have HFIN : Hid (∀ v' w1, w1.ownsRow (w.heap.size + 6) 34 4 v' ((toksL T N).length + 1) (tkcells T (toksL T N) ++ [.int .i64 0, .string ⟨#[]⟩, .int .i64 (T.length : Int), .int .i64 (T.length : Int)]) → ((W.alloc (.cells #[.int .i64 (T.length : Int), .int .i64 (T.length : Int)] 32)).alloc (.cells #[.int .i64 0, .string ⟨#[]⟩, .int .i64 (T.length : Int), .int .i64 (T.length : Int)] 34)).grownBy w1 v.ownBlock →
        (Boxed w1 (w.heap.size + 1) 24 (.slice none 0 0) ∧ Boxed w1 (w.heap.size + 1 + 1) 3 (.int .i64 0) ∧ Boxed w1 (w.heap.size + 1 + 1 + 1) 25 (.int .i64 0)) ∧ w1.heap[D]? = some (.deferred (some [])) ∧ Below w.heap.size w w1 ∧ OwnT (w.heap.size + 6) w1 v' T (toksL T N ++ [(0, T.length, T.length)])) := by
      intro v' w1 ho hg
      have kept : ∀ (B0 : Nat) (t : TypeId) (u : Value), Boxed W B0 t u → B0 < w.heap.size + 6 → Boxed w1 B0 t u := fun B0 t u hb0 hlt =>
        (hg.block B0 (Box1.lt' (boxed_below hb0 kA)) (fun e => by have := (HO.out.lt e.symm).1; omega)).trans (boxed_below hb0 kA)
      refine ⟨⟨kept _ _ _ g2 (by omega), kept _ _ _ g3 (by omega), kept _ _ _ g4 (by omega)⟩, ?_, (bafter hB kA (Nat.le_refl _)).grown hg (by have := HSZ.out; omega) (fun j hj => by have := (HO.out.lt hj).1; omega), ?_⟩
      · exact (KeepsOthers.of_grownBy hg (fun j o hj ho => HO.out.cells hj ho)).same D _ ((kA.block D (Array.getElem?_eq_some_iff.1 hK).1).trans hK) rfl
      · unfold OwnT
        rw [List.length_append, tkcells_snoc]
        have e : tokCells T (0, T.length, T.length) = [.int .i64 0, .string ⟨#[]⟩, .int .i64 (T.length : Int), .int .i64 (T.length : Int)] := by simp [tokCells, tokText, strOf]
        rw [e]
        exact ho
    have HNEW : Hid (((W.alloc (.cells #[.int .i64 (T.length : Int), .int .i64 (T.length : Int)] 32)).alloc (.cells #[.int .i64 0, .string ⟨#[]⟩, .int .i64 (T.length : Int), .int .i64 (T.length : Int)] 34)).heap[W.heap.size + 1]? = some (.cells ([.int .i64 0, .string ⟨#[]⟩, .int .i64 (T.length : Int), .int .i64 (T.length : Int)] : List Value).toArray 34)) := by
      have r := World.alloc_heap_new (W.alloc (.cells #[.int .i64 (T.length : Int), .int .i64 (T.length : Int)] 32)) (.cells #[.int .i64 0, .string ⟨#[]⟩, .int .i64 (T.length : Int), .int .i64 (T.length : Int)] 34)
      rw [World.size_alloc] at r
      exact r
    have c1 := g1.cell
    have c5 : W.cell? ⟨w.heap.size + 1 + 1 + 1 + 1, 0, none⟩ = some v := g0.cell
    have lt5 : w.heap.size + 1 + 1 + 1 + 1 < W.heap.size := Box1.lt' g0
    have lt1 : w.heap.size < W.heap.size := Box1.lt' g1
    have c6 : (W.alloc (.cells #[.int .i64 (T.length : Int), .int .i64 (T.length : Int)] 32)).cell? ⟨w.heap.size + 1 + 1 + 1 + 1, 0, none⟩ = some v := (boxed_below g0 (bel _ _)).cell
    have G6 := hide g6
    clear g0 g0' g1 g2 g3 g4 g5 g6 hB kA hstart
    have n1 : ¬ w.heap.size + 1 = w.heap.size + 1 + 1 := by omega
    have n2 : ¬ w.heap.size + 1 = w.heap.size + 1 + 1 + 1 := by omega
    have n3 : ¬ w.heap.size + 1 + 1 = w.heap.size + 1 + 1 + 1 := by omega
    have n4 : ¬ w.heap.size + 1 + 1 = w.heap.size + 1 := by omega
    have n5 : ¬ w.heap.size + 1 + 1 + 1 = w.heap.size + 1 := by omega
    have n6 : ¬ w.heap.size + 1 + 1 + 1 = w.heap.size + 1 + 1 := by omega
    gi_wp2_with (gi_at_builtin; go_must (refine wpListIn_append_own _ rfl (.tmp 46) (.tmp 49) 24 rfl (w.heap.size + 6) 34 i0 (.agg #[.int .i64 0, .string ⟨#[]⟩, .int .i64 0, .int .i64 0]) 4 40 Try.underlying24 hi hz0 hz1 hz2 rfl (by decide) v (toksL T N).length (tkcells T (toksL T N)) rfl (by exact HO.out) ⟨W.heap.size + 1, 0, none⟩ 1 1 [.int .i64 0, .string ⟨#[]⟩, .int .i64 (T.length : Int), .int .i64 (T.length : Int)] rfl rfl (World.news_of_block HNEW.out) HONE.out (by have := HLN.out; unfold maxLen; omega) (by have := HLN.out; omega) HSZ.out ?_; intro v' w1 hown' hgrow hnil; obtain ⟨⟨y2, y3, y4⟩, hK1, b1, o1⟩ := HFIN.out _ w1 hown' hgrow; obtain ⟨so, sn, sc, rfl⟩ := own_form o1; have c2 := y2.cell; have f2 := y2.frozen; have c3 := y3.cell; have f3 := y3.frozen; have c4 := y4.cell; have f4 := y4.frozen; have O1 := hide o1; have HB1 := hide b1; clear o1 b1 hown' hgrow hnil))
    have d2 := boxed_other (boxed_other (y2.set (.slice so sn sc)) (show w.heap.size + 1 ≠ w.heap.size + 1 + 1 by omega) (.int .i64 0)) (show w.heap.size + 1 ≠ w.heap.size + 1 + 1 + 1 by omega) (.int .i64 0)
    have d3 := boxed_other ((boxed_other y3 (show w.heap.size + 1 + 1 ≠ w.heap.size + 1 by omega) (.slice so sn sc)).set (.int .i64 0)) (show w.heap.size + 1 + 1 ≠ w.heap.size + 1 + 1 + 1 by omega) (.int .i64 0)
    have d4 := (boxed_other (boxed_other y4 (show w.heap.size + 1 + 1 + 1 ≠ w.heap.size + 1 by omega) (.slice so sn sc)) (show w.heap.size + 1 + 1 + 1 ≠ w.heap.size + 1 + 1 by omega) (.int .i64 0)).set (.int .i64 0)
    have hK' := (((KeepsOthers.setCell w1 ⟨w.heap.size + 1, 0, none⟩ (.slice so sn sc)).trans (KeepsOthers.setCell _ ⟨w.heap.size + 1 + 1, 0, none⟩ (.int .i64 0))).trans (KeepsOthers.setCell _ ⟨w.heap.size + 1 + 1 + 1, 0, none⟩ (.int .i64 0))).same D _ hK1 rfl
    refine ⟨by simp, .inl ⟨_, _, rfl, run_takeDeferred hK', ?_⟩⟩
    have e1 := cell_kept d2.cell (grownBy_putObj' _ D (.deferred none)) (fun r e => by cases e; exact ⟨_, hK', rfl⟩)
    have e2 := cell_kept d3.cell (grownBy_putObj' _ D (.deferred none)) (fun r e => by cases e; exact ⟨_, hK', rfl⟩)
    have e3 := cell_kept d4.cell (grownBy_putObj' _ D (.deferred none)) (fun r e => by cases e; exact ⟨_, hK', rfl⟩)
    have hBB := ((HB1.out.setCell (p := ⟨w.heap.size + 1, 0, none⟩) (by simp) (.slice so sn sc)).setCell (p := ⟨w.heap.size + 1 + 1, 0, none⟩) (by simp; omega) (.int .i64 0)).setCell (p := ⟨w.heap.size + 1 + 1 + 1, 0, none⟩) (by simp; omega) (.int .i64 0)
    have oo := ((O1.out.set (B := w.heap.size + 1) (by omega) (.slice so sn sc)).set (B := w.heap.size + 1 + 1) (by omega) (.int .i64 0)).set (B := w.heap.size + 1 + 1 + 1) (by omega) (.int .i64 0)
    have hlast := belowK_b (w := w) (Nat.le_refl _) _ D _ (.deferred none) (by omega) hK' rfl rfl
    refine ⟨.tuple #[.slice so sn sc, .int .i64 0, .int .i64 0], ?_, ⟨_, _, _, rfl, .inr ⟨G6.out, rfl, rfl, w.heap.size + 6, ?_⟩, hBB.trans hlast⟩⟩
    · simp [results, Try.f10, go_sem, e1, e2, e3]
    · exact (own_owns (β := Unit) _ 0 _ _ (fun _ => _) (fun _ => _) (fun _ => _)) () _ _ _ oo (grownBy_putObj' _ D (.deferred none)) (fun r e => by cases e; exact ⟨Nat.zero_le _, _, hK', rfl⟩)
  case stop =>
    rintro D c k W hD hk ⟨⟨⟨rfl, g4, g5⟩, g1, g2, g3⟩, hB⟩ hK
    gi_wp2
    refine ⟨by simp, .inl ⟨_, _, rfl, run_takeDeferred hK, ?_⟩⟩
    have e1 := cell_kept g1.cell (grownBy_putObj' _ D (.deferred none)) (fun r e => by cases e; exact ⟨_, hK, rfl⟩)
    have e2 := cell_kept g2.cell (grownBy_putObj' _ D (.deferred none)) (fun r e => by cases e; exact ⟨_, hK, rfl⟩)
    have e3 := cell_kept g3.cell (grownBy_putObj' _ D (.deferred none)) (fun r e => by cases e; exact ⟨_, hK, rfl⟩)
    refine ⟨.tuple #[.slice none 0 0, .int .i64 ((posP T k : Nat) : Int), .int .i64 (faultAt T k)], ?_, ⟨_, _, _, rfl, .inl ⟨k, hk, g4, g5, rfl, rfl, rfl⟩, hB.trans (belowK_b (w := w) (Nat.le_refl _) W D _ _ (by omega) hK rfl rfl)⟩⟩
    simp [results, Try.f10, go_sem, e1, e2, e3]

end Go.Proofs.Ytehflaenehehhaa
