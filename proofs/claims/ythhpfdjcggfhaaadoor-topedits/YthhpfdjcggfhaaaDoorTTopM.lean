/- An editor's positions are the text's bytes: what is to be said of lists alone. -/
import Derived.Test.YthhpfdjcggfhaaaDoorTPlace
import Derived.Test.YthhpfdjcggfhaaaDoorTChg
import Derived.Test.YthhpfdjcggfhaaaDoorTApp
import Derived.Test.YthhpfdjcggfhaaaDoorURound
import Derived.Test.YthhpfdjcggfhaaaDoorTOpen
namespace Go.Proofs.YthhpfdjcggfhaaaDoor
set_option linter.unusedVariables false
set_option linter.unusedSimpArgs false
set_option maxRecDepth 100000
open Go Go.RowKit Go.Shelf Go.Lib

/-! The example. -/
def oT : List Nat := [97, 226, 130, 172, 98]
def oN : List Nat := [97, 120, 98]
theorem oT_str : strOf oT = ⟨#[97, 226, 130, 172, 98]⟩ := by decide
theorem oX_str : strOf [120] = ⟨#[120]⟩ := by decide
theorem oN_str : strOf oN = ⟨#[97, 120, 98]⟩ := by decide
theorem oT_small : ∀ x ∈ oT, x < 256 := by decide
theorem oX_valid : ValidL [120] := ⟨1, by decide, by decide, by decide⟩
theorem oT_valid : ValidL oT := ⟨3, by decide, by decide, by decide⟩
theorem oT_lines : linesL oT = [0] := by decide
theorem oT_line {en : Nat} (h : IsEnd oT 0 en) : lineL oT 0 en = oT := by
  obtain ⟨h1, h2, h3, h4⟩ := h
  have h5 : oT.length = 5 := rfl
  have : en = 5 := by
    rw [h5] at h2 h4
    have he : en = 0 ∨ en = 1 ∨ en = 2 ∨ en = 3 ∨ en = 4 ∨ en = 5 := by omega
    rcases he with rfl | rfl | rfl | rfl | rfl | rfl
    all_goals first | rfl | (exfalso; exact absurd (h4 (by omega)) (by decide))
  rw [this]
  rfl
theorem oT_pos : posL oT 0 = 0 ∧ posL oT 1 = 1 ∧ posL oT 2 = 4 ∧ posL oT 3 = 5 := by decide
theorem oT_units : unitsL oT 0 = 0 ∧ unitsL oT 1 = 1 ∧ unitsL oT 2 = 2 ∧ unitsL oT 3 = 3 := by decide
theorem oT_off {u r : Int} (hu : u = 1 ∨ u = 2) (h : OffR oT (linesL oT) 0 u r) : r = if u = 1 then 1 else 4 := by
  rw [oT_lines] at h
  rcases h with ⟨h, _⟩ | ⟨_, h, _⟩ | ⟨i, f, en, N, hi, hi2, hc, hE, n1, n2, hI⟩
  · omega
  · simp at h
  · obtain rfl : i = 0 := by omega
    have hf : f = 0 := by
      have : clamp (nthI [0] 0) (oT.length : Int) = 0 := by decide
      omega
    subst hf
    rw [oT_line hE] at n1 n2 hI
    obtain ⟨e0, e1, e2, e3⟩ := oT_pos
    obtain ⟨v0, v1, v2, v3⟩ := oT_units
    have hN : N = 3 := by
      have hl : oT.length = 5 := rfl
      rw [hl] at n1 n2
      rcases Nat.lt_or_ge 3 N with g | g
      · have := n1 3 g; omega
      · have hn : N = 0 ∨ N = 1 ∨ N = 2 ∨ N = 3 := by omega
        rcases hn with rfl | rfl | rfl | rfl <;> omega
    subst hN
    rcases hI with ⟨k, hk, h1, h2, rfl⟩ | ⟨h1, _⟩
    · have hkk : k = 0 ∨ k = 1 ∨ k = 2 := by omega
      rcases hkk with rfl | rfl | rfl
      · rw [v1] at h1; omega
      · have := h2 0 (by omega); rw [v1] at this; rw [v2] at h1; rw [e1, if_pos (by omega)]; rfl
      · have := h2 1 (by omega); rw [v2] at this; rw [e2, if_neg (by omega)]; rfl
    · have := h1 2 (by omega)
      rw [v3] at this
      omega
theorem oT_apply {r : Int} {NT : List Nat} {D : List Ed} (h : ApplyR oT [(true, 0, 1, 0, 2, [120])] r NT D) : r = 0 ∧ NT = oN := by
  have hstep : ∀ {r1 : Int} {N1 : List Nat} {d1 : Ed}, StepR oT (true, 0, 1, 0, 2, [120]) r1 N1 d1 → r1 = 0 ∧ N1 = oN := by
    intro r1 N1 d1 h1
    rcases h1 with ⟨a, _⟩ | ⟨_, F, G, hE, hI⟩
    · exact absurd oX_valid a
    · have hFG : F = 1 ∧ G = 4 := by
        rcases hE with ⟨_, f, t, hf, ht, e1, e2⟩ | ⟨a, _⟩
        · have a1 := oT_off (.inl rfl) hf
          have a2 := oT_off (.inr rfl) ht
          simp at a1 a2
          omega
        · cases a
      obtain ⟨rfl, rfl⟩ := hFG
      rcases hI with ⟨h2, _⟩ | ⟨_, h3, h4, _⟩
      · exact absurd h2 (by decide)
      · exact ⟨h3, h4⟩
  rcases h with ⟨rfl, p⟩ | ⟨hr, k, T', D', x, N', d', p, hx, s⟩
  · obtain ⟨T1, D1, x, d, p1, hx, s1, _⟩ := p
    obtain ⟨rfl, _⟩ := p1
    cases hx
    exact hstep s1
  · have hk := (List.getElem?_eq_some_iff.1 hx).1
    obtain rfl : k = 0 := by simp at hk; omega
    obtain ⟨rfl, _⟩ := p
    cases hx
    exact absurd (hstep s).1 hr

/-! Positions come back. -/
/-- A byte at which a change may begin. -/
def MayAt (T : List Nat) (N : Nat) (z : Int) : Prop := ∃ j, j ≤ N ∧ z = ((posL T j : Nat) : Int) ∧ (posL T j < T.length → nth T (posL T j) = 10 → 0 < posL T j → nth T (posL T j - 1) ≠ 13)
theorem may_back {T : List Nat} {N : Nat} (hT : ∀ x ∈ T, x < 256) (h1 : ∀ k, k < N → posL T k < T.length) (h2 : posL T N = T.length) (hv : AllLet T N) {z ln un r : Int}
    (hm : MayAt T N z) (h : PlaceR T (linesL T) z ln un) (ho : OffR T (linesL T) ln un r) : r = z := by
  obtain ⟨j, hj, rfl, hex⟩ := hm
  have hPl : posL T j ≤ T.length := by
    rcases Nat.eq_or_lt_of_le hj with g | g
    · rw [g, h2]; exact Nat.le_refl _
    · exact Nat.le_of_lt (h1 j g)
  rcases h with ⟨h, _⟩ | ⟨a, i, f, en, M, k, _, ha, hl, rfl, hc, hE, n1, n2, hk, k1, k2, rfl⟩
  · have := (linesTo_pos T T.length).1
    unfold linesL at h
    rw [h] at this
    simp at this
  have haP : a = posL T j := by
    rw [clamp_in hPl] at ha
    omega
  subst haP
  obtain ⟨f', ef, hi, hfa, hfl, hf0, hno⟩ := line_at hl hPl
  rw [ef, clamp_in hfl] at hc
  obtain rfl : f' = f := by omega
  obtain ⟨j0, hj0, ej0⟩ : ∃ j0, j0 ≤ N ∧ posL T j0 = f' := by
    rcases hf0 with g | g
    · exact ⟨0, Nat.zero_le _, g.symm⟩
    · by_cases g0 : f' = 0
      · exact ⟨0, Nat.zero_le _, g0.symm⟩
      · obtain ⟨q, hq, _, e⟩ := end_letter hT h1 h2 (p := f' - 1) (by omega) (brk_byte g)
        exact ⟨q + 1, by omega, by omega⟩
  obtain ⟨je, hje, eje⟩ : ∃ je, je ≤ N ∧ posL T je = en := by
    by_cases g : en < T.length
    · obtain ⟨q, hq, e, _⟩ := end_letter hT h1 h2 g (hE.2.2.2 g)
      exact ⟨q, by omega, e⟩
    · exact ⟨N, Nat.le_refl _, by have := hE.2.1; omega⟩
  -- the byte is not behind its line's end
  have hae : posL T j ≤ en := by
    refine Nat.le_of_not_lt fun g => ?_
    have hlt : en < T.length := by omega
    have hb1 := hno (en + 1) (by have := hE.1; omega) (by omega)
    rw [Nat.add_sub_cancel] at hb1
    have hbyte := hE.2.2.2 hlt
    have hcr : nth T en = 13 ∧ en + 1 < T.length ∧ nth T (en + 1) = 10 := by
      unfold brk at hb1
      rcases hbyte with q | q
      · simp [q] at hb1
      · simp [q] at hb1
        exact ⟨q, hb1⟩
    have ha1 : posL T j = en + 1 := by
      refine Nat.le_antisymm (Nat.le_of_not_lt fun g2 => ?_) g
      have hb2 := hno (en + 2) (by have := hE.1; omega) (by omega)
      rw [show en + 2 - 1 = en + 1 by omega] at hb2
      unfold brk at hb2
      simp [hcr.2.2] at hb2
    rw [ha1] at hex
    have := hex hcr.2.1 hcr.2.2 (by omega)
    rw [Nat.add_sub_cancel] at this
    exact this hcr.1
  subst ej0 eje
  have hjj : j0 ≤ j := pos_le_iff hT h1 hj0 hj hfa
  have h0e : j0 ≤ je := pos_le_iff hT h1 hj0 hje hE.1
  have hje2 : j ≤ je := pos_le_iff hT h1 hj hje hae
  have hlet := line_letters hT h1 h2 hv h0e hje
  have hll := lineL_length hE.1 hE.2.1
  have hM : M = je - j0 := by
    have e := (hlet (je - j0) (by omega)).1
    rw [show j0 + (je - j0) = je by omega] at e
    rcases Nat.lt_trichotomy M (je - j0) with g | g | g
    · have e2 := (hlet M (by omega)).1
      have := pos_mono hT h1 (show j0 + M < je by omega) hje
      omega
    · exact g
    · have := n1 (je - j0) g
      omega
  have hkk : k = j - j0 := by
    rcases Nat.lt_trichotomy k (j - j0) with q | q | q
    · have h3 := k2 (by omega)
      rw [← (hlet (k + 1) (by omega)).1] at h3
      rcases Nat.eq_or_lt_of_le (show j0 + (k + 1) ≤ j by omega) with g | g
      · rw [g] at h3; omega
      · have := pos_mono hT h1 g hj; omega
    · exact q
    · have h3 := k1 (j - j0) q
      rw [← (hlet (j - j0 + 1) (by omega)).1, show j0 + (j - j0 + 1) = j + 1 by omega] at h3
      have := pos_mono hT h1 (show j < j + 1 by omega) (by omega)
      omega
  -- the way back
  rcases ho with ⟨g, _⟩ | ⟨_, g, _⟩ | ⟨i', f2, en2, N2, hi', hi2, hc2, hE2, m1, m2, hI⟩
  · omega
  · omega
  · obtain rfl : i = i' := by omega
    rw [ef, clamp_in hfl] at hc2
    obtain rfl : posL T j0 = f2 := by omega
    obtain rfl := isEnd_one hE hE2
    have hN2 : N2 = M := by
      rcases Nat.lt_trichotomy N2 M with g | g | g
      · have := n1 N2 g; omega
      · exact g
      · have := m1 M g; omega
    subst hN2
    have hum : ∀ x y, x < y → unitsL (lineL T (posL T j0) (posL T je)) x < unitsL (lineL T (posL T j0) (posL T je)) y := fun x y hxy => units_lt hxy
    have e1 := (hlet k (by omega)).1
    rw [show j0 + k = j by omega] at e1
    rcases hI with ⟨k', hk', u1, u2, rfl⟩ | ⟨u1, rfl⟩
    · have : k' = k := by
        rcases Nat.lt_trichotomy k' k with g | g | g
        · rcases Nat.eq_or_lt_of_le (show k' + 1 ≤ k by omega) with q | q
          · rw [q] at u1; omega
          · have := hum _ _ q; omega
        · exact g
        · have := u2 k g
          have := hum k (k + 1) (by omega)
          omega
      subst this
      omega
    · have hkM : k = N2 := by
        refine Nat.le_antisymm hk (Nat.le_of_not_lt fun g => ?_)
        have := u1 k g
        have := hum k (k + 1) (by omega)
        omega
      subst hkM
      rw [n2] at e1
      omega

theorem own_cells2 {W W' : World} {row : Option Nat} {C : Nat} (hg : W.grownBy W' row) (hr : ∀ r, row = some r → C ≤ r ∧ ∃ o : Obj, W.heap[r]? = some o ∧ o.isCells = false) {b : Nat} {o : Obj} (ho : W.heap[b]? = some o) (hc : o.isCells = true) : W'.heap[b]? = some o :=
  (hg.block b (Array.getElem?_eq_some_iff.1 ho).1 (fun e => by
    obtain ⟨_, o', h2, h3⟩ := hr b e.symm
    rw [ho] at h2
    cases h2
    rw [hc] at h3
    cases h3)).trans ho
theorem ownsRow_cells2 {W : World} {n₀ : Nat} {e : TypeId} {size : Nat} {v : Value} {n : Nat} {xs : List Value} (h : W.ownsRow n₀ e size v n xs) {j : Nat} {o : Obj} (hj : v.ownBlock = some j) (ho : W.heap[j]? = some o) : o.isCells = true := by
  rcases h.2 with ⟨rfl, _⟩ | ⟨g, cap, cur, rfl, hg, hh, _⟩
  · simp [Value.ownBlock] at hj
  · simp [Value.ownBlock] at hj
    subst hj
    rw [hh] at ho
    cases ho
    rfl
theorem box_no_byte3 {W : World} {B : Nat} {t : TypeId} {so : Option Addr} {n c : Nat} {i : Nat} {k : IntKind} {z : Int} (h : Boxed W B t (.slice so n c)) (hc : W.cell? ⟨B, i, none⟩ = some (.int k z)) : False := by
  rw [World.cell?, show W.heap[B]? = _ from h] at hc
  cases i with
  | zero => simp at hc
  | succ i => simp at hc

/-- These bytes are in the row. -/
def AtL (Wl : World) (b2 : Nat) (T : List Nat) (N : Nat) (L : List Int) (W : World) : Prop :=
  ∃ (so : Option Addr) (sc : Nat), But b2 Wl W ∧ Boxed W b2 38 (.slice so L.length sc) ∧ W.ownsRow Wl.heap.size 3 1 (.slice so L.length sc) L.length (icells L) ∧ ∀ z ∈ L, MayAt T N z
/-- Ahead of letter k. -/
def AtI (Wl : World) (b2 : Nat) (T : List Nat) (N : Nat) (k : Nat) (W : World) : Prop := ∃ L : List Int, L.length ≤ k ∧ AtL Wl b2 T N L W
theorem atI_own {Wl : World} {b2 : Nat} {T : List Nat} {N : Nat} : OwnFrom Wl.heap.size (fun k W => AtI Wl b2 T N k W) := fun k X Y row h hg hr => by
  obtain ⟨L, hk, so, sc, g0, g1, g2, g3⟩ := h
  have b := (Below.refl 0 X).grown hg (Nat.zero_le _) (fun _ _ => Nat.zero_le _)
  refine ⟨L, hk, so, sc, ⟨b.os.trans g0.1, b.tape.trans g0.2.1, b.output.trans g0.2.2.1, Nat.le_trans g0.2.2.2.1 b.size, fun i hi hne => (hg.block i (Nat.lt_of_lt_of_le hi g0.2.2.2.1) (fun e => by have := (hr i e.symm).1; omega)).trans (g0.2.2.2.2 i hi hne)⟩, own_cells2 hg hr g1 rfl, ⟨g2.1, ?_⟩, g3⟩
  rcases g2.2 with hn | ⟨g, cp, cur, hv, h1, h2, h3⟩
  · exact .inl hn
  · exact .inr ⟨g, cp, cur, hv, h1, own_cells2 hg hr h2 rfl, h3⟩
theorem AtL.below {Wl : World} {b2 : Nat} {T : List Nat} {N : Nat} {L : List Int} {W W' : World} (h : AtL Wl b2 T N L W) (hb : Below W.heap.size W W') : AtL Wl b2 T N L W' := by
  obtain ⟨so, sc, g0, g1, g2, g3⟩ := h
  exact ⟨so, sc, g0.trans (But.of hb), boxed_below g1 hb, ownsRow_keep g2 hb, g3⟩
theorem AtI.below {Wl : World} {b2 : Nat} {T : List Nat} {N k : Nat} {W W' : World} (h : AtI Wl b2 T N k W) (hb : Below W.heap.size W W') : AtI Wl b2 T N k W' := by
  obtain ⟨L, hk, h⟩ := h
  exact ⟨L, hk, h.below hb⟩
theorem icells_snoc (L : List Int) (z : Int) : icells (L ++ [z]) = icells L ++ [.int .i64 z] := by simp [icells]
/-- One more. -/
theorem atL_push {Wl : World} {b2 : Nat} {T : List Nat} {N : Nat} {X : World} {so : Option Addr} {sc : Nat} {L : List Int} (hb2 : b2 < Wl.heap.size) (g0 : But b2 Wl X) (g1 : Boxed X b2 38 (.slice so L.length sc)) (g2 : X.ownsRow Wl.heap.size 3 1 (.slice so L.length sc) L.length (icells L))
    (g4 : ∀ z ∈ L, MayAt T N z) {z : Int} (hz : MayAt T N z) {v' : Value} {X1 : World}
    (ho : X1.ownsRow Wl.heap.size 3 1 v' (L.length + 1) (icells L ++ [.int .i64 z])) (hg : (X.alloc (.cells #[.int .i64 z] 3)).grownBy X1 (Value.slice so L.length sc).ownBlock) :
    Boxed X1 b2 38 (.slice so L.length sc) ∧ KeepsOthers X (X1.setCell ⟨b2, 0, none⟩ v') ∧ AtL Wl b2 T N (L ++ [z]) (X1.setCell ⟨b2, 0, none⟩ v') := by
  have kA : Below X.heap.size X (X.alloc (.cells #[.int .i64 z] 3)) := bel _ _
  have HO := ownsRow_keep g2 kA
  have rl : ∀ j, (Value.slice so L.length sc).ownBlock = some j → Wl.heap.size ≤ j := fun j hj => (HO.lt j hj).1
  have d1 : Boxed X1 b2 38 (.slice so L.length sc) := (hg.block b2 (boxed_below g1 kA).lt (fun e => by have := rl b2 e.symm; omega)).trans (boxed_below g1 kA)
  have b := (Below.refl 0 (X.alloc (.cells #[.int .i64 z] 3))).grown hg (Nat.zero_le _) (fun _ _ => Nat.zero_le _)
  have hbut : But b2 Wl X1 := by
    have ga := g0.trans (But.of kA)
    refine ⟨b.os.trans ga.1, b.tape.trans ga.2.1, b.output.trans ga.2.2.1, Nat.le_trans ga.2.2.2.1 b.size, fun i hi hne => (hg.block i (Nat.lt_of_lt_of_le hi ga.2.2.2.1) (fun e => by have := rl i e.symm; omega)).trans (ga.2.2.2.2 i hi hne)⟩
  obtain ⟨so', sc', rfl⟩ : ∃ so' sc', v' = .slice so' (L.length + 1) sc' := own_slice ho
  refine ⟨d1, (KeepsOthers.alloc _ _).trans ((KeepsOthers.of_grownBy hg (fun j o hj ho' => ownsRow_cells2 HO hj ho')).trans (KeepsOthers.setCell _ _ _)), so', sc', hbut.set 0 _, ?_, ?_, fun y hy => ?_⟩
  · rw [List.length_append]
    exact Boxed.set _ d1
  · rw [List.length_append, icells_snoc]
    exact ownsRow_other ho hb2 0 _
  · rcases List.mem_append.1 hy with q | q
    · exact g4 y q
    · simp at q; rw [q]; exact hz

/-- The byte of a string. -/
theorem str_at {T : List Nat} (hT : ∀ x ∈ T, x < 256) (W : World) {j : Nat} (h : j < T.length) : (Instr.index 9 (.string (strOf T)) (.int .i64 (j : Int))).run Tryd.prog W = .ok (.int .u8 ((nth T j : Nat) : Int)) W := by
  rw [run_index_string W 9 (strOf T) .i64 _ Tryd.underlying9, dif_pos ⟨by omega, by rw [strOf_size]; omega⟩]
  have hx : T[j] < 256 := hT _ (List.getElem_mem h)
  have e : ∀ (l : List UInt8) (hj : j < (ByteArray.mk l.toArray).size), (ByteArray.mk l.toArray)[j] = l[j]'(by simpa [ByteArray.size] using hj) := fun l hj => rfl
  unfold strOf
  simp only [Int.toNat_natCast, e, List.getElem_map, nth, List.getElem?_eq_getElem h, Option.getD_some]
  rw [UInt8.toNat_ofNat']
  simp
  omega

set_option maxHeartbeats 4000000 in
theorem bclone_nil2 (w : World) (c : Nat) : Calls Tryd.prog 33 #[.slice none 0 c] w fun e w' => e = .returned (.slice none 0 0) ∧ w' = w := by
  have qT : ∀ (w : World) (n c : Nat), (binOp .eql 36 (.slice none n c) (.slice none 0 0)).run Tryd.prog w = .ok (.bool true) w := fun w n c => Lib.run_eql_slice_nil w 36 5 none n c 0 0 Tryd.underlying36
  go_enter Tryd.func33, Tryd.ntmps33
  go_wp2
  go_ret
  exact ⟨rfl, rfl⟩

set_option maxHeartbeats 2000000 in
theorem uletters_calls2 (w : World) (a : Addr) (cap : Nat) (T : List Nat) (h : Byt w (some a) cap T) (hlen : T.length ≤ 100000000) :
    Calls Tryd.prog 27 #[.slice (some a) T.length cap] w fun e w' => ∃ (B : Nat) (ao' : Option Addr) (cap' : Nat), e = .returned (.func (.func 54) #[] #[.pointer (some ⟨B, 0, none⟩)]) ∧ Boxed w' B 36 (.slice ao' T.length cap') ∧ Byt w' ao' cap' T ∧ Below w.heap.size w w' := by
  have HC := hide (bclone_calls w a cap T h hlen)
  clear h
  go_enter Tryd.func27, Tryd.ntmps27
  go_wp2_with fail
  refine HC.out.mono ?_
  rintro e w1 ⟨ao', cap', rfl, hB, hb⟩
  have HB := hide hB
  have KB := hide hb
  clear hB hb
  go_wp2_with fail
  refine (letters_calls _ _ _ _).mono ?_
  rintro e w2 ⟨rfl, rfl⟩
  go_wp2
  go_ret
  exact ⟨w1.heap.size, ao', cap', rfl, Boxed.new w1 _ _, HB.out.below (bel _ _), bafter KB.out (bel _ _) (Nat.le_refl _)⟩

/-- Which of so many is picked. -/
theorem pick_in (n : Int) (m : Nat) (hm : m ≤ 1000000) (h1 : 1 ≤ m) : ∃ C : Nat, wrap64 ((IntKind.u64.wrap n).tmod (m : Int)) = (C : Int) ∧ C < m := by
  have h0 : 0 ≤ IntKind.u64.wrap n := by simp [IntKind.wrap, IntKind.signed, IntKind.bits]; omega
  rw [Int.tmod_eq_emod_of_nonneg h0]
  have h2 := Int.emod_nonneg (IntKind.u64.wrap n) (show (m : Int) ≠ 0 by omega)
  have h3 := Int.emod_lt_of_pos (IntKind.u64.wrap n) (show (0 : Int) < (m : Int) by omega)
  refine ⟨(IntKind.u64.wrap n % (m : Int)).toNat, ?_, by omega⟩
  unfold wrap64
  omega
set_option maxHeartbeats 2000000 in
theorem pick_calls (w : World) (n : Int) (m : Nat) (hm : m ≤ 1000000) (h1 : 1 ≤ m) :
    Calls Tryd.prog 28 #[.int .i64 n, .int .i64 (m : Int)] w fun e w' => (∃ C : Nat, e = .returned (.int .i64 (C : Int)) ∧ wrap64 ((IntKind.u64.wrap n).tmod (m : Int)) = (C : Int) ∧ C < m) ∧ w' = w := by
  obtain ⟨C, hC, hlt⟩ := pick_in n m hm h1
  have HC := hide hC
  have HLT := hide hlt
  have n1 : ¬ (m : Int) = 0 := by omega
  have n2 : IntKind.u64.wrap (m : Int) = (m : Int) := by simp [IntKind.wrap, IntKind.signed, IntKind.bits]; omega
  clear hlt hC
  go_enter Tryd.func28, Tryd.ntmps28
  go_wp2
  go_ret
  exact ⟨⟨C, by simp only [HC.out]; rfl, HC.out, HLT.out⟩, rfl⟩

end Go.Proofs.YthhpfdjcggfhaaaDoor
