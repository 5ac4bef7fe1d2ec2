/- The reference's Tokens. -/
import Derived.Test.YtehflaenehehhaaLRSize
import Derived.Test.YtehflaenehehhaaLParted
namespace Go.Proofs.Ytehflaenehehhaa
set_option linter.unusedVariables false
set_option linter.unusedSimpArgs false
set_option maxRecDepth 100000
open Go Go.RowKit Go.Shelf Go.Lib

theorem infoRTok : (Try.prog.info? 36).map (fun i => (i.zero, i.size, i.bytes)) = some (some (.agg #[.int .i64 0, .string ⟨#[]⟩, .int .i64 0, .int .i64 0]), 4, 40) := by kernel_rfl

/-- What either Tokens tells. -/
def TokR2 (W : World) (T : List Nat) (N : Nat) (v : Value) (a e : Int) : Prop :=
  (∃ k, k < N ∧ (∀ j, j < k → faultAt T j = 0) ∧ faultAt T k ≠ 0 ∧ v = .slice none 0 0 ∧ a = ((posP T k : Nat) : Int) ∧ e = faultAt T k) ∨
  ((∀ j, j < N → faultAt T j = 0) ∧ a = 0 ∧ e = 0 ∧ ToksIn W v T (toksL T N ++ [(0, T.length, T.length)]))
theorem TokR.two {W : World} {T : List Nat} {N : Nat} {v : Value} {a e : Int} (h : TokR W T N v a e) : TokR2 W T N v a e := by
  rcases h with h | ⟨h1, h2, h3, n₀, h4⟩
  · exact .inl h
  · exact .inr ⟨h1, h2, h3, toksIn_of h4⟩

/-- Where the reference stands: at a piece's beginning, or within blanks or a remark. -/
def Stand (T : List Nat) (N k q : Nat) : Prop := q = posP T k ∨ (k < N ∧ posP T k ≤ q ∧ q < posP T (k + 1) ∧ (kindAt T (posP T k) = -1 ∨ kindAt T (posP T k) = -2))

theorem fault_none {T : List Nat} {k : Nat} (h : kindAt T (posP T k) = -1 ∨ kindAt T (posP T k) = -2) : faultAt T k = 0 := by
  unfold faultAt faultL
  rw [if_neg (by omega), if_neg (by omega), if_neg (by omega)]

theorem faults_more {T : List Nat} {k : Nat} (h : ∀ j, j < k → faultAt T j = 0) (hk : faultAt T k = 0) : ∀ j, j < k + 1 → faultAt T j = 0 := fun j hj => by
  rcases Nat.lt_succ_iff_lt_or_eq.1 hj with g | g
  · exact h j g
  · rw [g]; exact hk

theorem stand_step {T : List Nat} (hs : ∀ x ∈ T, x < 256) {N : Nat} (h1 : ∀ k, k < N → posP T k < T.length) {k q : Nat} (hk : k < N) (h : Stand T N k q) (hm : markB T q = true) (hf : ∀ j, j < k → faultAt T j = 0) :
    ∃ k', k' ≤ N ∧ Stand T N k' (q + 1) ∧ toksL T k' = toksL T k ∧ ∀ j, j < k' → faultAt T j = 0 := by
  have hz := (size_bounds (h1 k hk)).1
  have e : posP T (k + 1) = posP T k + sizeAt T (posP T k) := rfl
  have hq : posP T k ≤ q ∧ q < posP T (k + 1) := by
    rcases h with h | ⟨_, h2, h3, _⟩
    · omega
    · exact ⟨h2, h3⟩
  have hkd : kindAt T (posP T k) = -1 ∨ kindAt T (posP T k) = -2 := by
    have := marks_at hs h1 hk hq.1 hq.2
    rw [hm] at this
    exact of_decide_eq_true this.symm
  by_cases g : q + 1 = posP T (k + 1)
  · exact ⟨k + 1, hk, .inl g, toksL_no (by omega), faults_more hf (fault_none hkd)⟩
  · exact ⟨k, by omega, .inr ⟨hk, by omega, by omega, hkd⟩, rfl, hf⟩

theorem stand_token {T : List Nat} (hs : ∀ x ∈ T, x < 256) {N : Nat} (h1 : ∀ k, k < N → posP T k < T.length) {k q : Nat} (hk : k < N) (h : Stand T N k q) (hm : markB T q = false) :
    q = posP T k ∧ ¬ (kindAt T (posP T k) = -1 ∨ kindAt T (posP T k) = -2) := by
  have hz := (size_bounds (h1 k hk)).1
  have e : posP T (k + 1) = posP T k + sizeAt T (posP T k) := rfl
  have hq : posP T k ≤ q ∧ q < posP T (k + 1) := by
    rcases h with h | ⟨_, h2, h3, _⟩
    · omega
    · exact ⟨h2, h3⟩
  have := marks_at hs h1 hk hq.1 hq.2
  rw [hm] at this
  have hn := of_decide_eq_false this.symm
  rcases h with h | ⟨_, _, _, h4⟩
  · exact ⟨h, hn⟩
  · exact absurd h4 hn

/-- A token's piece: a name or word, a number, a sign, or what may not be. -/
theorem token_cases {T : List Nat} {p : Nat} (h : ¬ (kindAt T p = -1 ∨ kindAt T p = -2)) :
    (letterB (nth T p) = true ∧ kindAt T p = (if isW (strOf ((T.drop p).take (runL nameB (T.drop p)))) then 2 else 1) ∧ sizeAt T p = runL nameB (T.drop p)) ∨
    (letterB (nth T p) = false ∧ digitB (nth T p) = true ∧ kindAt T p = 3 ∧ sizeAt T p = runL digitB (T.drop p)) ∨
    (letterB (nth T p) = false ∧ digitB (nth T p) = false ∧ 0 < signL (T.drop p) ∧ kindAt T p = 4 ∧ sizeAt T p = signL (T.drop p)) ∨
    (letterB (nth T p) = false ∧ digitB (nth T p) = false ∧ signL (T.drop p) = 0 ∧ kindAt T p = -3 ∧ sizeAt T p = 1) := by
  have e0 : nth (T.drop p) 0 = nth T p := by rw [nth_drop, Nat.add_zero]
  revert h
  unfold kindAt sizeAt firstL
  rw [e0]
  by_cases g1 : blankB (nth T p) = true
  · rw [if_pos g1]; intro h; exact absurd (.inl rfl) h
  rw [if_neg g1]
  by_cases g2 : remB (T.drop p) = true
  · rw [if_pos g2]; intro h; exact absurd (.inr rfl) h
  rw [if_neg g2]
  intro _
  by_cases g3 : letterB (nth T p) = true
  · rw [if_pos g3]; exact .inl ⟨g3, rfl, rfl⟩
  rw [if_neg g3]
  have g3' : letterB (nth T p) = false := by simpa using g3
  by_cases g4 : digitB (nth T p) = true
  · rw [if_pos g4]; exact .inr (.inl ⟨g3', g4, rfl, rfl⟩)
  rw [if_neg g4]
  have g4' : digitB (nth T p) = false := by simpa using g4
  by_cases g5 : 0 < signL (T.drop p)
  · rw [if_pos g5]; exact .inr (.inr (.inl ⟨g3', g4', g5, rfl, rfl⟩))
  · rw [if_neg g5]; exact .inr (.inr (.inr ⟨g3', g4', by omega, rfl, rfl⟩))

theorem isW_short {s : ByteArray} (h : isW s = true) : s.data.toList.length ≤ 6 := by
  unfold isW at h
  rw [List.any_eq_true] at h
  obtain ⟨l, hl, he⟩ := h
  rw [eq_of_beq he]
  have : ∀ l ∈ wordsL, l.length ≤ 6 := by decide
  exact this l hl

/-- Behind an append. -/
theorem rpushed {n₀ : Nat} {W W1 : World} {v v' : Value} {T : List Nat} {k : Nat} {kd : Int} {P Q : Nat} {o : Obj} {LN : Nat} (hLN : (toksL T k).length = LN) (hown : W.ownsRow n₀ 36 4 v LN (tkcells T (toksL T k))) (hn : n₀ ≤ W.heap.size)
    (hown' : W1.ownsRow n₀ 36 4 v' (LN + 1) (tkcells T (toksL T k) ++ [.int .i64 kd, .string (strOf ((T.drop P).take (Q - P))), .int .i64 (P : Int), .int .i64 (Q : Int)])) (hg : (W.alloc o).grownBy W1 v.ownBlock)
    (hP : posP T k = P) (hQ : posP T (k + 1) = Q) (hk : kindAt T (posP T k) = kd) (hpos : 0 < kd) : W1.ownsRow n₀ 36 4 v' (toksL T (k + 1)).length (tkcells T (toksL T (k + 1))) ∧ ∀ {w0 : World}, Below n₀ w0 W → Below n₀ w0 W1 := by
  refine ⟨?_, fun hB0 => ?_⟩
  · rw [toksL_yes (by rw [hk]; exact hpos), tkcells_snoc, List.length_append, hLN, hk, hP, hQ]
    exact hown'
  · exact (hB0.alloc hn o).grown hg (by simp; omega) (fun j hj => by have := (hown.lt j hj).1; omega)

theorem run_stop {p : Nat → Bool} {T : List Nat} {P Q : Nat} (hQ : P + runL p (T.drop P) = Q) : (∀ t, P ≤ t → t < Q → p (nth T t) = true) ∧ (Q < T.length → p (nth T Q) = false) := by
  obtain ⟨r1, r2⟩ := runL_is p (T.drop P)
  refine ⟨fun t h1 h2 => ?_, fun h => ?_⟩
  · have := r1 (t - P) (by omega)
    rwa [nth_drop, show P + (t - P) = t by omega] at this
  · have := r2 (by rw [drop_len]; omega)
    rwa [nth_drop, hQ] at this

set_option maxHeartbeats 16000000 in
theorem rtokens_calls (w : World) (ao : Option Addr) (cap : Nat) (T : List Nat) (N : Nat) (h : Byts w (.slice ao T.length cap) T) (h1 : ∀ k, k < N → posP T k < T.length) (h2 : posP T N = T.length) (hlen : T.length ≤ 100000) (hcap : T.length ≤ cap) :
    Calls Try.prog 11 #[.slice ao T.length cap] w fun e w' => ∃ v a er, e = .returned (.tuple #[v, .int .i64 a, .int .i64 er]) ∧ TokR2 w' T N v a er ∧ Below w.heap.size w w' := by
  obtain ⟨i0, hi, hz0, hz1, hz2⟩ := info_parts infoRTok
  have H := hide h
  have H1 := hide h1
  have H2 := hide h2
  clear h h1 h2
  go_enter Try.func11, Try.ntmps11
  go_wp2_with fail
  refine (rmarks_calls w ao cap T H.out hlen hcap).mono ?_
  rintro e w1 ⟨rv, rfl, ⟨mb, mc, rfl, hmc, hmk⟩, hb1⟩
  have HMK := hide hmk
  have HB1 := hide hb1
  have HT1 := hide (H.out.below hb1)
  clear hmk hb1
  go_wp2
  go_loopw [6, 7] (fun l i wr => ∃ k q : Nat, k ≤ N ∧ i = .int .i64 (q : Int) ∧ wr.ownsRow w1.heap.size 36 4 l (toksL T k).length (tkcells T (toksL T k)) ∧ Stand T N k q ∧ q ≤ T.length ∧ (∀ j, j < k → faultAt T j = 0) ∧ Below w1.heap.size w1 wr) (fun _ i _ => T.length - (RowKit.intOf i).toNat)
  case atStart => exact ⟨0, 0, Nat.zero_le _, rfl, World.ownsRow_nil _ _ _ _, .inl rfl, Nat.zero_le _, fun j hj => by omega, Below.refl _ _⟩
  case round =>
    obtain ⟨k, q, hk, rfl, hown, hst, hqT, hfa, hB⟩ := hrel
    have HOWN := hide hown
    have HST := hide hst
    have HFA := hide hfa
    have HB := hide hB
    clear hown hst hfa hB
    have hkl : (toksL T k).length ≤ 100000 := by
      have := toksL_le T k
      have := posP_ge H1.out N (Nat.le_refl _)
      rw [H2.out] at this
      omega
    generalize hLN : (toksL T k).length = LN at *
    have HLN := hide hLN
    clear hLN
    by_cases hlt : q < T.length
    · have hkN : k < N := by
        rcases Nat.lt_or_ge k N with g | g
        · exact g
        · obtain rfl : k = N := by omega
          rcases HST.out with e | ⟨e, _⟩
          · have := H2.out; omega
          · omega
      have cm : wr.cell? ⟨mb, q, none⟩ = some (.int .i64 (markAt T q)) := (HB.out.cell (p := ⟨mb, q, none⟩) (block_lt (HMK.out q hlt))).trans (HMK.out q hlt)
      have dq : (q : Int) < (T.length : Int) := by omega
      have dq0 : (0 : Int) ≤ (q : Int) := by omega
      cases hm : markB T q with
      | true =>
        rw [show markAt T q = 1 by unfold markAt; rw [hm]; rfl] at cm
        obtain ⟨k', e1, e2, e3, e4⟩ := stand_step H.out.small H1.out hkN HST.out hm HFA.out
        have G := hide (And.intro e1 (And.intro e2 (And.intro e3 e4)))
        clear e1 e2 e3 e4 hm
        go_wp2
        go_roundw
        case rel =>
          obtain ⟨e1, e2, e3, e4⟩ := G.out
          refine ⟨k', q + 1, e1, by go_num, ?_, e2, by omega, e4, HB.out⟩
          rw [e3, HLN.out]
          exact HOWN.out
        case measure => simp [RowKit.intOf]; omega
      | false =>
        rw [show markAt T q = 0 by unfold markAt; rw [hm]; rfl] at cm
        obtain ⟨hq, hnk⟩ := stand_token H.out.small H1.out hkN HST.out hm
        obtain ⟨b, off, rfl⟩ : ∃ b off, ao = some ⟨b, off, none⟩ := by
          obtain ⟨_, _, e, _, hcs⟩ := H.out
          cases e
          obtain ⟨b, off, e, _⟩ := hcs 0 (by omega)
          exact ⟨b, off, e⟩
        have hps : posP T (k + 1) = posP T k + sizeAt T (posP T k) := rfl
        obtain ⟨sb1, sb2⟩ := size_bounds (H1.out k hkN)
        rw [← hq] at hps hnk sb1 sb2
        have hcases := token_cases hnk
        have HFQ : Hid (faultAt T k = faultL (kindAt T q) (sizeAt T q)) := by show _ = _; rw [hq]; rfl
        have HMA : Hid (∀ t, q ≤ t → t < q + sizeAt T q → markAt T t = 0) := fun t t1 t2 => by
          have := marks_at H.out.small H1.out hkN (i := t) (by omega) (by omega)
          rw [← hq] at this
          unfold markAt
          rw [this, decide_eq_false hnk]
          rfl
        have HQ := hide hq.symm
        have HPS := hide hps
        clear hq hps hnk hm HST
        have cellT : ∀ t, t < T.length → wr.cell? ⟨b, off + t, none⟩ = some (.int .u8 ((nth T t : Nat) : Int)) := fun t ht => by
          obtain ⟨_, _, e, _, hcs⟩ := HT1.out.below HB.out
          cases e
          obtain ⟨_, _, e, hc⟩ := hcs t ht
          cases e
          exact hc
        have cellM : ∀ t, t < T.length → wr.cell? ⟨mb, t, none⟩ = some (.int .i64 (markAt T t)) := fun t ht => (HB.out.cell (p := ⟨mb, t, none⟩) (block_lt (HMK.out t ht))).trans (HMK.out t ht)
        have cx := cellT q hlt
        have CT := hide cellT
        have CM := hide cellM
        have HBY := hide (HT1.out.below HB.out)
        have HCM := hide cm
        have hn1 : w1.heap.size ≤ wr.heap.size := HB.out.size
        clear cellT cellM
        have hT100 : Hid (T.length ≤ 100000) := hlen
        rcases hcases with ⟨gl, hkd, hz⟩ | ⟨gl, gd, hkd, hz⟩ | ⟨gl, gd, gs, hkd, hz⟩ | ⟨gl, gd, gs, hkd, hz⟩
        · obtain ⟨Q, hQ⟩ : ∃ Q, q + sizeAt T q = Q := ⟨_, rfl⟩
          have HRS := hide (run_stop (p := nameB) (T := T) (P := q) (Q := Q) (by rw [← hz]; exact hQ))
          have HKD := hide hkd
          have HQE : Hid (posP T (k + 1) = Q) := by show _ = _; rw [HPS.out]; exact hQ
          have HZQ : Hid (sizeAt T q = Q - q) := by show _ = _; omega
          have hRZ : Hid (runL nameB (T.drop q) = Q - q) := by show _ = _; omega
          have hqQ : q < Q := by omega
          have hQT : Q ≤ T.length := by omega
          rw [hQ] at HMA
          have gx : 97 ≤ nth T q ∧ nth T q ≤ 122 := by unfold letterB at gl; simpa using gl
          have g1 : (97 : Int) ≤ ((nth T q : Nat) : Int) := by omega
          have g2 : ((nth T q : Nat) : Int) ≤ 122 := by omega
          clear gl gx
          have G1 := hide cx
          clear hkd hz hQ sb1 sb2 HPS
          generalize nth T q = x at *
          generalize wr = wo at *
          clear wr
          go_wp2
          go_loopw [8] (fun tv wr => ∃ t : Nat, q ≤ t ∧ t ≤ Q ∧ tv = .int .i64 (t : Int) ∧ wr = wo) (fun tv _ => Q - (RowKit.intOf tv).toNat)
          case atStart => exact ⟨q, Nat.le_refl _, by omega, rfl, rfl⟩
          case round =>
            obtain ⟨t, t1, t2, rfl, hwr⟩ := hrel
            rw [hwr]
            clear hwr
            by_cases gt : t < Q
            · have ct := CT.out t (by omega)
              have cmt := CM.out t (by omega)
              rw [HMA.out t t1 gt] at cmt
              have hnb := HRS.out.1 t t1 gt
              have dt : (t : Int) < (T.length : Int) := by omega
              have dt0 : (0 : Int) ≤ (t : Int) := by omega
              generalize nth T t = y at ct hnb
              have HNB := hide hnb
              clear hnb
              go_wp2_with fail
              refine (goesOn_calls _ y).mono ?_
              rintro e w9 ⟨rfl, hw⟩
              rw [hw, HNB.out]
              clear hw
              go_wp2
              go_roundw
              case rel => exact ⟨t + 1, by omega, by omega, by go_num, trivial⟩
              case measure => simp [RowKit.intOf]; omega
            · have et : t = Q := by omega
              rw [et]
              clear et gt t1 t2 t
              have q1 : (q : Int) ≤ (Q : Int) := by omega
              have q2 : (Q : Int) ≤ (cap : Int) := by omega
              have q6 : ¬ cap = q := by omega
              have q7 : ((Q : Int) == (q : Int)) = false := beq_eq_false_iff_ne.2 (by omega)
              obtain ⟨Z, hZ⟩ : ∃ Z, Q - q = Z := ⟨_, rfl⟩
              have hsub : (Q : Int) - (q : Int) = (Z : Int) := by omega
              have HZZ := hide hZ
              clear hZ
              have hcv := conv_byts (HBY.out.cut (cap' := cap - q) (p := q) (m := Q - q) (by omega))
              rcases Nat.lt_or_ge Q T.length with gT | gT
              · have ct := CT.out Q gT
                have cmt := CM.out Q gT
                have hnb := HRS.out.2 gT
                have dt : (Q : Int) < (T.length : Int) := by omega
                have dt0 : (0 : Int) ≤ (Q : Int) := by omega
                generalize nth T Q = y at ct hnb
                cases hmk : markB T Q with
                | true =>
                  rw [show markAt T Q = 1 by unfold markAt; rw [hmk]; rfl] at cmt
                  clear hmk hnb
                  go_wp2_with fail
                  refine (rIsWord_calls wo _).mono ?_
                  rintro e w3 ⟨rfl, hb3⟩
                  have HB3 := hide (bafter HB.out hb3 (Nat.le_refl _))
                  have HOWN3 := hide (ownsRow_keep HOWN.out hb3)
                  replace hcv := conv_byts ((HBY.out.below hb3).cut (cap' := cap - q) (p := q) (m := Q - q) (by omega))
                  clear hb3
                  have HK1 : Hid (kindAt T q = if isW (strOf ((T.drop q).take (Q - q))) then 2 else 1) := by
                    show _ = _
                    rw [HKD.out, hRZ.out]
                  cases hw : isW (strOf ((T.drop q).take (Q - q))) with
                  | true =>
                    have HW6 : Hid (Z ≤ 6) := by
                      have r := isW_short hw
                      rw [strOf_list, List.length_map, List.length_take, List.length_drop] at r
                      have := HZZ.out
                      show _ ≤ _
                      omega
                    have z6 := HW6.out
                    have dz : ¬ (24 : Int) < (Z : Int) := by omega
                    have HKD2 : Hid (kindAt T q = 2) := by show _ = _; rw [HK1.out, hw]; rfl
                    clear hw
                    have HONE : Hid (∀ u ∈ ([.int .i64 2, .string (strOf ((T.drop q).take (Q - q))), .int .i64 (q : Int), .int .i64 (Q : Int)] : List Value), u.oneCell' = true) := fun u hu => by
                      simp at hu
                      rcases hu with rfl | rfl | rfl | rfl <;> rfl
                    have HKK : Hid (kindAt T (posP T k) = 2) := by show _ = _; rw [HQ.out]; exact HKD2.out
                    have HF0 : Hid (faultAt T k = 0) := by show _ = _; rw [HFQ.out, HKD2.out]; rfl
                    have hsz : w1.heap.size ≤ w3.heap.size := HB3.out.size
                    go_wp2_with (at_builtin; go_must (refine wpList_append_own _ rfl (.tmp 118) (.tmp 128) 28 rfl w1.heap.size 36 i0 (.agg #[.int .i64 0, .string ⟨#[]⟩, .int .i64 0, .int .i64 0]) 4 40 Try.underlying28 hi hz0 hz1 hz2 rfl (by decide) _ LN (tkcells T (toksL T k)) rfl (by exact World.ownsRow.alloc HOWN3.out _) ⟨w3.heap.size, 0, none⟩ 1 1 [.int .i64 2, .string (strOf ((T.drop q).take (Q - q))), .int .i64 (q : Int), .int .i64 (Q : Int)] rfl rfl (by exact World.news_of_block (World.alloc_heap_new _ _)) HONE.out (by unfold maxLen; omega) (by omega) (by simp; omega) ?_; intro v' w2 hown' hgrow hnil))
                    have hp2 := rpushed (kd := 2) (P := q) (Q := Q) HLN.out HOWN3.out hsz hown' hgrow HQ.out HQE.out HKK.out (by decide)
                    go_roundw
                    case rel => exact ⟨k + 1, Q, by omega, rfl, hp2.1, .inl HQE.out.symm, by omega, faults_more HFA.out HF0.out, hp2.2 HB3.out⟩
                    case measure => (simp [RowKit.intOf]; omega)
                  | false =>
                    have HKD1 : Hid (kindAt T q = 1) := by show _ = _; rw [HK1.out, hw]; rfl
                    clear hw
                    by_cases g24 : 24 < Z
                    · have dz : (24 : Int) < (Z : Int) := by omega
                      have HFB : Hid (faultAt T k = 3) := by show _ = _; rw [HFQ.out, HKD1.out, HZQ.out, HZZ.out]; simp [faultL, g24]
                      have HBB := hide HB3.out
                      go_wp2
                      go_ret3
                      refine ⟨_, _, _, rfl, .inl ⟨k, hkN, HFA.out, by rw [HFB.out]; decide, rfl, by rw [HQ.out], by rw [HFB.out]⟩, HB1.out.trans (HBB.out.mono HB1.out.size)⟩
                    · have dz : ¬ (24 : Int) < (Z : Int) := by omega
                      have HONE : Hid (∀ u ∈ ([.int .i64 1, .string (strOf ((T.drop q).take (Q - q))), .int .i64 (q : Int), .int .i64 (Q : Int)] : List Value), u.oneCell' = true) := fun u hu => by
                        simp at hu
                        rcases hu with rfl | rfl | rfl | rfl <;> rfl
                      have HKK : Hid (kindAt T (posP T k) = 1) := by show _ = _; rw [HQ.out]; exact HKD1.out
                      have HF0 : Hid (faultAt T k = 0) := by show _ = _; rw [HFQ.out, HKD1.out, HZQ.out, HZZ.out]; simp [faultL, g24]
                      have hsz : w1.heap.size ≤ w3.heap.size := HB3.out.size
                      go_wp2_with (at_builtin; go_must (refine wpList_append_own _ rfl (.tmp 118) (.tmp 128) 28 rfl w1.heap.size 36 i0 (.agg #[.int .i64 0, .string ⟨#[]⟩, .int .i64 0, .int .i64 0]) 4 40 Try.underlying28 hi hz0 hz1 hz2 rfl (by decide) _ LN (tkcells T (toksL T k)) rfl (by exact World.ownsRow.alloc HOWN3.out _) ⟨w3.heap.size, 0, none⟩ 1 1 [.int .i64 1, .string (strOf ((T.drop q).take (Q - q))), .int .i64 (q : Int), .int .i64 (Q : Int)] rfl rfl (by exact World.news_of_block (World.alloc_heap_new _ _)) HONE.out (by unfold maxLen; omega) (by omega) (by simp; omega) ?_; intro v' w2 hown' hgrow hnil))
                      have hp2 := rpushed (kd := 1) (P := q) (Q := Q) HLN.out HOWN3.out hsz hown' hgrow HQ.out HQE.out HKK.out (by decide)
                      go_roundw
                      case rel => exact ⟨k + 1, Q, by omega, rfl, hp2.1, .inl HQE.out.symm, by omega, faults_more HFA.out HF0.out, hp2.2 HB3.out⟩
                      case measure => (simp [RowKit.intOf]; omega)
                | false =>
                  rw [show markAt T Q = 0 by unfold markAt; rw [hmk]; rfl] at cmt
                  clear hmk
                  have HNB := hide hnb
                  clear hnb
                  go_wp2_with fail
                  refine (goesOn_calls _ y).mono ?_
                  rintro e w9 ⟨rfl, hw⟩
                  rw [hw, HNB.out]
                  clear hw HNB
                  go_wp2_with fail
                  refine (rIsWord_calls wo _).mono ?_
                  rintro e w3 ⟨rfl, hb3⟩
                  have HB3 := hide (bafter HB.out hb3 (Nat.le_refl _))
                  have HOWN3 := hide (ownsRow_keep HOWN.out hb3)
                  replace hcv := conv_byts ((HBY.out.below hb3).cut (cap' := cap - q) (p := q) (m := Q - q) (by omega))
                  clear hb3
                  have HK1 : Hid (kindAt T q = if isW (strOf ((T.drop q).take (Q - q))) then 2 else 1) := by
                    show _ = _
                    rw [HKD.out, hRZ.out]
                  cases hw : isW (strOf ((T.drop q).take (Q - q))) with
                  | true =>
                    have HW6 : Hid (Z ≤ 6) := by
                      have r := isW_short hw
                      rw [strOf_list, List.length_map, List.length_take, List.length_drop] at r
                      have := HZZ.out
                      show _ ≤ _
                      omega
                    have z6 := HW6.out
                    have dz : ¬ (24 : Int) < (Z : Int) := by omega
                    have HKD2 : Hid (kindAt T q = 2) := by show _ = _; rw [HK1.out, hw]; rfl
                    clear hw
                    have HONE : Hid (∀ u ∈ ([.int .i64 2, .string (strOf ((T.drop q).take (Q - q))), .int .i64 (q : Int), .int .i64 (Q : Int)] : List Value), u.oneCell' = true) := fun u hu => by
                      simp at hu
                      rcases hu with rfl | rfl | rfl | rfl <;> rfl
                    have HKK : Hid (kindAt T (posP T k) = 2) := by show _ = _; rw [HQ.out]; exact HKD2.out
                    have HF0 : Hid (faultAt T k = 0) := by show _ = _; rw [HFQ.out, HKD2.out]; rfl
                    have hsz : w1.heap.size ≤ w3.heap.size := HB3.out.size
                    go_wp2_with (at_builtin; go_must (refine wpList_append_own _ rfl (.tmp 118) (.tmp 128) 28 rfl w1.heap.size 36 i0 (.agg #[.int .i64 0, .string ⟨#[]⟩, .int .i64 0, .int .i64 0]) 4 40 Try.underlying28 hi hz0 hz1 hz2 rfl (by decide) _ LN (tkcells T (toksL T k)) rfl (by exact World.ownsRow.alloc HOWN3.out _) ⟨w3.heap.size, 0, none⟩ 1 1 [.int .i64 2, .string (strOf ((T.drop q).take (Q - q))), .int .i64 (q : Int), .int .i64 (Q : Int)] rfl rfl (by exact World.news_of_block (World.alloc_heap_new _ _)) HONE.out (by unfold maxLen; omega) (by omega) (by simp; omega) ?_; intro v' w2 hown' hgrow hnil))
                    have hp2 := rpushed (kd := 2) (P := q) (Q := Q) HLN.out HOWN3.out hsz hown' hgrow HQ.out HQE.out HKK.out (by decide)
                    go_roundw
                    case rel => exact ⟨k + 1, Q, by omega, rfl, hp2.1, .inl HQE.out.symm, by omega, faults_more HFA.out HF0.out, hp2.2 HB3.out⟩
                    case measure => (simp [RowKit.intOf]; omega)
                  | false =>
                    have HKD1 : Hid (kindAt T q = 1) := by show _ = _; rw [HK1.out, hw]; rfl
                    clear hw
                    by_cases g24 : 24 < Z
                    · have dz : (24 : Int) < (Z : Int) := by omega
                      have HFB : Hid (faultAt T k = 3) := by show _ = _; rw [HFQ.out, HKD1.out, HZQ.out, HZZ.out]; simp [faultL, g24]
                      have HBB := hide HB3.out
                      go_wp2
                      go_ret3
                      refine ⟨_, _, _, rfl, .inl ⟨k, hkN, HFA.out, by rw [HFB.out]; decide, rfl, by rw [HQ.out], by rw [HFB.out]⟩, HB1.out.trans (HBB.out.mono HB1.out.size)⟩
                    · have dz : ¬ (24 : Int) < (Z : Int) := by omega
                      have HONE : Hid (∀ u ∈ ([.int .i64 1, .string (strOf ((T.drop q).take (Q - q))), .int .i64 (q : Int), .int .i64 (Q : Int)] : List Value), u.oneCell' = true) := fun u hu => by
                        simp at hu
                        rcases hu with rfl | rfl | rfl | rfl <;> rfl
                      have HKK : Hid (kindAt T (posP T k) = 1) := by show _ = _; rw [HQ.out]; exact HKD1.out
                      have HF0 : Hid (faultAt T k = 0) := by show _ = _; rw [HFQ.out, HKD1.out, HZQ.out, HZZ.out]; simp [faultL, g24]
                      have hsz : w1.heap.size ≤ w3.heap.size := HB3.out.size
                      go_wp2_with (at_builtin; go_must (refine wpList_append_own _ rfl (.tmp 118) (.tmp 128) 28 rfl w1.heap.size 36 i0 (.agg #[.int .i64 0, .string ⟨#[]⟩, .int .i64 0, .int .i64 0]) 4 40 Try.underlying28 hi hz0 hz1 hz2 rfl (by decide) _ LN (tkcells T (toksL T k)) rfl (by exact World.ownsRow.alloc HOWN3.out _) ⟨w3.heap.size, 0, none⟩ 1 1 [.int .i64 1, .string (strOf ((T.drop q).take (Q - q))), .int .i64 (q : Int), .int .i64 (Q : Int)] rfl rfl (by exact World.news_of_block (World.alloc_heap_new _ _)) HONE.out (by unfold maxLen; omega) (by omega) (by simp; omega) ?_; intro v' w2 hown' hgrow hnil))
                      have hp2 := rpushed (kd := 1) (P := q) (Q := Q) HLN.out HOWN3.out hsz hown' hgrow HQ.out HQE.out HKK.out (by decide)
                      go_roundw
                      case rel => exact ⟨k + 1, Q, by omega, rfl, hp2.1, .inl HQE.out.symm, by omega, faults_more HFA.out HF0.out, hp2.2 HB3.out⟩
                      case measure => (simp [RowKit.intOf]; omega)
              · have dt : ¬ (Q : Int) < (T.length : Int) := by omega
                go_wp2_with fail
                refine (rIsWord_calls wo _).mono ?_
                rintro e w3 ⟨rfl, hb3⟩
                have HB3 := hide (bafter HB.out hb3 (Nat.le_refl _))
                have HOWN3 := hide (ownsRow_keep HOWN.out hb3)
                replace hcv := conv_byts ((HBY.out.below hb3).cut (cap' := cap - q) (p := q) (m := Q - q) (by omega))
                clear hb3
                have HK1 : Hid (kindAt T q = if isW (strOf ((T.drop q).take (Q - q))) then 2 else 1) := by
                  show _ = _
                  rw [HKD.out, hRZ.out]
                cases hw : isW (strOf ((T.drop q).take (Q - q))) with
                | true =>
                  have HW6 : Hid (Z ≤ 6) := by
                    have r := isW_short hw
                    rw [strOf_list, List.length_map, List.length_take, List.length_drop] at r
                    have := HZZ.out
                    show _ ≤ _
                    omega
                  have z6 := HW6.out
                  have dz : ¬ (24 : Int) < (Z : Int) := by omega
                  have HKD2 : Hid (kindAt T q = 2) := by show _ = _; rw [HK1.out, hw]; rfl
                  clear hw
                  have HONE : Hid (∀ u ∈ ([.int .i64 2, .string (strOf ((T.drop q).take (Q - q))), .int .i64 (q : Int), .int .i64 (Q : Int)] : List Value), u.oneCell' = true) := fun u hu => by
                    simp at hu
                    rcases hu with rfl | rfl | rfl | rfl <;> rfl
                  have HKK : Hid (kindAt T (posP T k) = 2) := by show _ = _; rw [HQ.out]; exact HKD2.out
                  have HF0 : Hid (faultAt T k = 0) := by show _ = _; rw [HFQ.out, HKD2.out]; rfl
                  have hsz : w1.heap.size ≤ w3.heap.size := HB3.out.size
                  go_wp2_with (at_builtin; go_must (refine wpList_append_own _ rfl (.tmp 118) (.tmp 128) 28 rfl w1.heap.size 36 i0 (.agg #[.int .i64 0, .string ⟨#[]⟩, .int .i64 0, .int .i64 0]) 4 40 Try.underlying28 hi hz0 hz1 hz2 rfl (by decide) _ LN (tkcells T (toksL T k)) rfl (by exact World.ownsRow.alloc HOWN3.out _) ⟨w3.heap.size, 0, none⟩ 1 1 [.int .i64 2, .string (strOf ((T.drop q).take (Q - q))), .int .i64 (q : Int), .int .i64 (Q : Int)] rfl rfl (by exact World.news_of_block (World.alloc_heap_new _ _)) HONE.out (by unfold maxLen; omega) (by omega) (by simp; omega) ?_; intro v' w2 hown' hgrow hnil))
                  have hp2 := rpushed (kd := 2) (P := q) (Q := Q) HLN.out HOWN3.out hsz hown' hgrow HQ.out HQE.out HKK.out (by decide)
                  go_roundw
                  case rel => exact ⟨k + 1, Q, by omega, rfl, hp2.1, .inl HQE.out.symm, by omega, faults_more HFA.out HF0.out, hp2.2 HB3.out⟩
                  case measure => (simp [RowKit.intOf]; omega)
                | false =>
                  have HKD1 : Hid (kindAt T q = 1) := by show _ = _; rw [HK1.out, hw]; rfl
                  clear hw
                  by_cases g24 : 24 < Z
                  · have dz : (24 : Int) < (Z : Int) := by omega
                    have HFB : Hid (faultAt T k = 3) := by show _ = _; rw [HFQ.out, HKD1.out, HZQ.out, HZZ.out]; simp [faultL, g24]
                    have HBB := hide HB3.out
                    go_wp2
                    go_ret3
                    refine ⟨_, _, _, rfl, .inl ⟨k, hkN, HFA.out, by rw [HFB.out]; decide, rfl, by rw [HQ.out], by rw [HFB.out]⟩, HB1.out.trans (HBB.out.mono HB1.out.size)⟩
                  · have dz : ¬ (24 : Int) < (Z : Int) := by omega
                    have HONE : Hid (∀ u ∈ ([.int .i64 1, .string (strOf ((T.drop q).take (Q - q))), .int .i64 (q : Int), .int .i64 (Q : Int)] : List Value), u.oneCell' = true) := fun u hu => by
                      simp at hu
                      rcases hu with rfl | rfl | rfl | rfl <;> rfl
                    have HKK : Hid (kindAt T (posP T k) = 1) := by show _ = _; rw [HQ.out]; exact HKD1.out
                    have HF0 : Hid (faultAt T k = 0) := by show _ = _; rw [HFQ.out, HKD1.out, HZQ.out, HZZ.out]; simp [faultL, g24]
                    have hsz : w1.heap.size ≤ w3.heap.size := HB3.out.size
                    go_wp2_with (at_builtin; go_must (refine wpList_append_own _ rfl (.tmp 118) (.tmp 128) 28 rfl w1.heap.size 36 i0 (.agg #[.int .i64 0, .string ⟨#[]⟩, .int .i64 0, .int .i64 0]) 4 40 Try.underlying28 hi hz0 hz1 hz2 rfl (by decide) _ LN (tkcells T (toksL T k)) rfl (by exact World.ownsRow.alloc HOWN3.out _) ⟨w3.heap.size, 0, none⟩ 1 1 [.int .i64 1, .string (strOf ((T.drop q).take (Q - q))), .int .i64 (q : Int), .int .i64 (Q : Int)] rfl rfl (by exact World.news_of_block (World.alloc_heap_new _ _)) HONE.out (by unfold maxLen; omega) (by omega) (by simp; omega) ?_; intro v' w2 hown' hgrow hnil))
                    have hp2 := rpushed (kd := 1) (P := q) (Q := Q) HLN.out HOWN3.out hsz hown' hgrow HQ.out HQE.out HKK.out (by decide)
                    go_roundw
                    case rel => exact ⟨k + 1, Q, by omega, rfl, hp2.1, .inl HQE.out.symm, by omega, faults_more HFA.out HF0.out, hp2.2 HB3.out⟩
                    case measure => (simp [RowKit.intOf]; omega)
        · obtain ⟨Q, hQ⟩ : ∃ Q, q + sizeAt T q = Q := ⟨_, rfl⟩
          have HRS := hide (run_stop (p := digitB) (T := T) (P := q) (Q := Q) (by rw [← hz]; exact hQ))
          have HKD := hide hkd
          have HQE : Hid (posP T (k + 1) = Q) := by show _ = _; rw [HPS.out]; exact hQ
          have HZQ : Hid (sizeAt T q = Q - q) := by show _ = _; omega
          have hRZ : Hid (runL digitB (T.drop q) = Q - q) := by show _ = _; omega
          have hqQ : q < Q := by omega
          have hQT : Q ≤ T.length := by omega
          rw [hQ] at HMA
          have gx : 48 ≤ nth T q ∧ nth T q ≤ 57 := by unfold digitB at gd; simpa using gd
          have g0 : ¬ (97 : Int) ≤ ((nth T q : Nat) : Int) := by omega
          have g1 : (48 : Int) ≤ ((nth T q : Nat) : Int) := by omega
          have g2 : ((nth T q : Nat) : Int) ≤ 57 := by omega
          clear gl gd gx
          have G1 := hide cx
          clear hkd hz hQ sb1 sb2 HPS
          generalize nth T q = x at *
          generalize wr = wo at *
          clear wr
          go_wp2
          go_loopw [8] (fun tv wr => ∃ t : Nat, q ≤ t ∧ t ≤ Q ∧ tv = .int .i64 (t : Int) ∧ wr = wo) (fun tv _ => Q - (RowKit.intOf tv).toNat)
          case atStart => exact ⟨q, Nat.le_refl _, by omega, rfl, rfl⟩
          case round =>
            obtain ⟨t, t1, t2, rfl, hwr⟩ := hrel
            rw [hwr]
            clear hwr
            by_cases gt : t < Q
            · have ct := CT.out t (by omega)
              have cmt := CM.out t (by omega)
              rw [HMA.out t t1 gt] at cmt
              have hnb := HRS.out.1 t t1 gt
              have dt : (t : Int) < (T.length : Int) := by omega
              have dt0 : (0 : Int) ≤ (t : Int) := by omega
              generalize nth T t = y at ct hnb
              have hy : 48 ≤ y ∧ y ≤ 57 := by unfold digitB at hnb; simpa using hnb
              have y1 : (48 : Int) ≤ (y : Int) := by omega
              have y2 : (y : Int) ≤ 57 := by omega
              clear hnb hy
              go_wp2
              go_roundw
              case rel => exact ⟨t + 1, by omega, by omega, by go_num, trivial⟩
              case measure => simp [RowKit.intOf]; omega
            · have et : t = Q := by omega
              rw [et]
              clear et gt t1 t2 t
              have q1 : (q : Int) ≤ (Q : Int) := by omega
              have q2 : (Q : Int) ≤ (cap : Int) := by omega
              have q6 : ¬ cap = q := by omega
              have q7 : ((Q : Int) == (q : Int)) = false := beq_eq_false_iff_ne.2 (by omega)
              obtain ⟨Z, hZ⟩ : ∃ Z, Q - q = Z := ⟨_, rfl⟩
              have hsub : (Q : Int) - (q : Int) = (Z : Int) := by omega
              have HZZ := hide hZ
              clear hZ
              have hcv := conv_byts (HBY.out.cut (cap' := cap - q) (p := q) (m := Q - q) (by omega))
              by_cases g40 : 40 < Z
              · have dz : (40 : Int) < (Z : Int) := by omega
                rcases Nat.lt_or_ge Q T.length with gT | gT
                · have ct := CT.out Q gT
                  have cmt := CM.out Q gT
                  have hnb := HRS.out.2 gT
                  have dt : (Q : Int) < (T.length : Int) := by omega
                  have dt0 : (0 : Int) ≤ (Q : Int) := by omega
                  generalize nth T Q = y at ct hnb
                  cases hmk : markB T Q with
                  | true =>
                    rw [show markAt T Q = 1 by unfold markAt; rw [hmk]; rfl] at cmt
                    clear hmk hnb
                    have HFB : Hid (faultAt T k = 3) := by show _ = _; rw [HFQ.out, HKD.out, HZQ.out, HZZ.out]; simp [faultL, g40]
                    have HBB := hide HB.out
                    go_wp2
                    go_ret3
                    refine ⟨_, _, _, rfl, .inl ⟨k, hkN, HFA.out, by rw [HFB.out]; decide, rfl, by rw [HQ.out], by rw [HFB.out]⟩, HB1.out.trans (HBB.out.mono HB1.out.size)⟩
                  | false =>
                    rw [show markAt T Q = 0 by unfold markAt; rw [hmk]; rfl] at cmt
                    clear hmk
                    rcases (by unfold digitB at hnb; simp at hnb; omega : y < 48 ∨ (48 ≤ y ∧ 57 < y)) with hy | hy
                    · have y1 : ¬ (48 : Int) ≤ (y : Int) := by omega
                      clear hnb hy
                      have HFB : Hid (faultAt T k = 3) := by show _ = _; rw [HFQ.out, HKD.out, HZQ.out, HZZ.out]; simp [faultL, g40]
                      have HBB := hide HB.out
                      go_wp2
                      go_ret3
                      refine ⟨_, _, _, rfl, .inl ⟨k, hkN, HFA.out, by rw [HFB.out]; decide, rfl, by rw [HQ.out], by rw [HFB.out]⟩, HB1.out.trans (HBB.out.mono HB1.out.size)⟩
                    · have y1 : (48 : Int) ≤ (y : Int) := by omega
                      have y2 : ¬ (y : Int) ≤ 57 := by omega
                      clear hnb hy
                      have HFB : Hid (faultAt T k = 3) := by show _ = _; rw [HFQ.out, HKD.out, HZQ.out, HZZ.out]; simp [faultL, g40]
                      have HBB := hide HB.out
                      go_wp2
                      go_ret3
                      refine ⟨_, _, _, rfl, .inl ⟨k, hkN, HFA.out, by rw [HFB.out]; decide, rfl, by rw [HQ.out], by rw [HFB.out]⟩, HB1.out.trans (HBB.out.mono HB1.out.size)⟩
                · have dt : ¬ (Q : Int) < (T.length : Int) := by omega
                  have HFB : Hid (faultAt T k = 3) := by show _ = _; rw [HFQ.out, HKD.out, HZQ.out, HZZ.out]; simp [faultL, g40]
                  have HBB := hide HB.out
                  go_wp2
                  go_ret3
                  refine ⟨_, _, _, rfl, .inl ⟨k, hkN, HFA.out, by rw [HFB.out]; decide, rfl, by rw [HQ.out], by rw [HFB.out]⟩, HB1.out.trans (HBB.out.mono HB1.out.size)⟩
              · have dz : ¬ (40 : Int) < (Z : Int) := by omega
                rcases Nat.lt_or_ge Q T.length with gT | gT
                · have ct := CT.out Q gT
                  have cmt := CM.out Q gT
                  have hnb := HRS.out.2 gT
                  have dt : (Q : Int) < (T.length : Int) := by omega
                  have dt0 : (0 : Int) ≤ (Q : Int) := by omega
                  generalize nth T Q = y at ct hnb
                  cases hmk : markB T Q with
                  | true =>
                    rw [show markAt T Q = 1 by unfold markAt; rw [hmk]; rfl] at cmt
                    clear hmk hnb
                    have HONE : Hid (∀ u ∈ ([.int .i64 3, .string (strOf ((T.drop q).take (Q - q))), .int .i64 (q : Int), .int .i64 (Q : Int)] : List Value), u.oneCell' = true) := fun u hu => by
                      simp at hu
                      rcases hu with rfl | rfl | rfl | rfl <;> rfl
                    have HKK : Hid (kindAt T (posP T k) = 3) := by show _ = _; rw [HQ.out]; exact HKD.out
                    have HF0 : Hid (faultAt T k = 0) := by show _ = _; rw [HFQ.out, HKD.out, HZQ.out, HZZ.out]; simp [faultL, g40]
                    have hsz : w1.heap.size ≤ wo.heap.size := HB.out.size
                    go_wp2_with (at_builtin; go_must (refine wpList_append_own _ rfl (.tmp 118) (.tmp 128) 28 rfl w1.heap.size 36 i0 (.agg #[.int .i64 0, .string ⟨#[]⟩, .int .i64 0, .int .i64 0]) 4 40 Try.underlying28 hi hz0 hz1 hz2 rfl (by decide) _ LN (tkcells T (toksL T k)) rfl (by exact World.ownsRow.alloc HOWN.out _) ⟨wo.heap.size, 0, none⟩ 1 1 [.int .i64 3, .string (strOf ((T.drop q).take (Q - q))), .int .i64 (q : Int), .int .i64 (Q : Int)] rfl rfl (by exact World.news_of_block (World.alloc_heap_new _ _)) HONE.out (by unfold maxLen; omega) (by omega) (by simp; omega) ?_; intro v' w2 hown' hgrow hnil))
                    have hp2 := rpushed (kd := 3) (P := q) (Q := Q) HLN.out HOWN.out hsz hown' hgrow HQ.out HQE.out HKK.out (by decide)
                    go_roundw
                    case rel => exact ⟨k + 1, Q, by omega, rfl, hp2.1, .inl HQE.out.symm, by omega, faults_more HFA.out HF0.out, hp2.2 HB.out⟩
                    case measure => (simp [RowKit.intOf]; omega)
                  | false =>
                    rw [show markAt T Q = 0 by unfold markAt; rw [hmk]; rfl] at cmt
                    clear hmk
                    rcases (by unfold digitB at hnb; simp at hnb; omega : y < 48 ∨ (48 ≤ y ∧ 57 < y)) with hy | hy
                    · have y1 : ¬ (48 : Int) ≤ (y : Int) := by omega
                      clear hnb hy
                      have HONE : Hid (∀ u ∈ ([.int .i64 3, .string (strOf ((T.drop q).take (Q - q))), .int .i64 (q : Int), .int .i64 (Q : Int)] : List Value), u.oneCell' = true) := fun u hu => by
                        simp at hu
                        rcases hu with rfl | rfl | rfl | rfl <;> rfl
                      have HKK : Hid (kindAt T (posP T k) = 3) := by show _ = _; rw [HQ.out]; exact HKD.out
                      have HF0 : Hid (faultAt T k = 0) := by show _ = _; rw [HFQ.out, HKD.out, HZQ.out, HZZ.out]; simp [faultL, g40]
                      have hsz : w1.heap.size ≤ wo.heap.size := HB.out.size
                      go_wp2_with (at_builtin; go_must (refine wpList_append_own _ rfl (.tmp 118) (.tmp 128) 28 rfl w1.heap.size 36 i0 (.agg #[.int .i64 0, .string ⟨#[]⟩, .int .i64 0, .int .i64 0]) 4 40 Try.underlying28 hi hz0 hz1 hz2 rfl (by decide) _ LN (tkcells T (toksL T k)) rfl (by exact World.ownsRow.alloc HOWN.out _) ⟨wo.heap.size, 0, none⟩ 1 1 [.int .i64 3, .string (strOf ((T.drop q).take (Q - q))), .int .i64 (q : Int), .int .i64 (Q : Int)] rfl rfl (by exact World.news_of_block (World.alloc_heap_new _ _)) HONE.out (by unfold maxLen; omega) (by omega) (by simp; omega) ?_; intro v' w2 hown' hgrow hnil))
                      have hp2 := rpushed (kd := 3) (P := q) (Q := Q) HLN.out HOWN.out hsz hown' hgrow HQ.out HQE.out HKK.out (by decide)
                      go_roundw
                      case rel => exact ⟨k + 1, Q, by omega, rfl, hp2.1, .inl HQE.out.symm, by omega, faults_more HFA.out HF0.out, hp2.2 HB.out⟩
                      case measure => (simp [RowKit.intOf]; omega)
                    · have y1 : (48 : Int) ≤ (y : Int) := by omega
                      have y2 : ¬ (y : Int) ≤ 57 := by omega
                      clear hnb hy
                      have HONE : Hid (∀ u ∈ ([.int .i64 3, .string (strOf ((T.drop q).take (Q - q))), .int .i64 (q : Int), .int .i64 (Q : Int)] : List Value), u.oneCell' = true) := fun u hu => by
                        simp at hu
                        rcases hu with rfl | rfl | rfl | rfl <;> rfl
                      have HKK : Hid (kindAt T (posP T k) = 3) := by show _ = _; rw [HQ.out]; exact HKD.out
                      have HF0 : Hid (faultAt T k = 0) := by show _ = _; rw [HFQ.out, HKD.out, HZQ.out, HZZ.out]; simp [faultL, g40]
                      have hsz : w1.heap.size ≤ wo.heap.size := HB.out.size
                      go_wp2_with (at_builtin; go_must (refine wpList_append_own _ rfl (.tmp 118) (.tmp 128) 28 rfl w1.heap.size 36 i0 (.agg #[.int .i64 0, .string ⟨#[]⟩, .int .i64 0, .int .i64 0]) 4 40 Try.underlying28 hi hz0 hz1 hz2 rfl (by decide) _ LN (tkcells T (toksL T k)) rfl (by exact World.ownsRow.alloc HOWN.out _) ⟨wo.heap.size, 0, none⟩ 1 1 [.int .i64 3, .string (strOf ((T.drop q).take (Q - q))), .int .i64 (q : Int), .int .i64 (Q : Int)] rfl rfl (by exact World.news_of_block (World.alloc_heap_new _ _)) HONE.out (by unfold maxLen; omega) (by omega) (by simp; omega) ?_; intro v' w2 hown' hgrow hnil))
                      have hp2 := rpushed (kd := 3) (P := q) (Q := Q) HLN.out HOWN.out hsz hown' hgrow HQ.out HQE.out HKK.out (by decide)
                      go_roundw
                      case rel => exact ⟨k + 1, Q, by omega, rfl, hp2.1, .inl HQE.out.symm, by omega, faults_more HFA.out HF0.out, hp2.2 HB.out⟩
                      case measure => (simp [RowKit.intOf]; omega)
                · have dt : ¬ (Q : Int) < (T.length : Int) := by omega
                  have HONE : Hid (∀ u ∈ ([.int .i64 3, .string (strOf ((T.drop q).take (Q - q))), .int .i64 (q : Int), .int .i64 (Q : Int)] : List Value), u.oneCell' = true) := fun u hu => by
                    simp at hu
                    rcases hu with rfl | rfl | rfl | rfl <;> rfl
                  have HKK : Hid (kindAt T (posP T k) = 3) := by show _ = _; rw [HQ.out]; exact HKD.out
                  have HF0 : Hid (faultAt T k = 0) := by show _ = _; rw [HFQ.out, HKD.out, HZQ.out, HZZ.out]; simp [faultL, g40]
                  have hsz : w1.heap.size ≤ wo.heap.size := HB.out.size
                  go_wp2_with (at_builtin; go_must (refine wpList_append_own _ rfl (.tmp 118) (.tmp 128) 28 rfl w1.heap.size 36 i0 (.agg #[.int .i64 0, .string ⟨#[]⟩, .int .i64 0, .int .i64 0]) 4 40 Try.underlying28 hi hz0 hz1 hz2 rfl (by decide) _ LN (tkcells T (toksL T k)) rfl (by exact World.ownsRow.alloc HOWN.out _) ⟨wo.heap.size, 0, none⟩ 1 1 [.int .i64 3, .string (strOf ((T.drop q).take (Q - q))), .int .i64 (q : Int), .int .i64 (Q : Int)] rfl rfl (by exact World.news_of_block (World.alloc_heap_new _ _)) HONE.out (by unfold maxLen; omega) (by omega) (by simp; omega) ?_; intro v' w2 hown' hgrow hnil))
                  have hp2 := rpushed (kd := 3) (P := q) (Q := Q) HLN.out HOWN.out hsz hown' hgrow HQ.out HQE.out HKK.out (by decide)
                  go_roundw
                  case rel => exact ⟨k + 1, Q, by omega, rfl, hp2.1, .inl HQE.out.symm, by omega, faults_more HFA.out HF0.out, hp2.2 HB.out⟩
                  case measure => (simp [RowKit.intOf]; omega)
        · obtain ⟨Q, hQ⟩ : ∃ Q, q + sizeAt T q = Q := ⟨_, rfl⟩
          have hs2 : signL (T.drop q) ≤ 2 := by unfold signL; split <;> (try split) <;> omega
          have HPM : Hid (twoB (T.drop q) = true → markAt T (q + 1) = 0) := fun h2 => HMA.out (q + 1) (by omega) (by rw [hz]; unfold signL; rw [if_pos h2]; omega)
          have HKD := hide hkd
          have HQE : Hid (posP T (k + 1) = Q) := by show _ = _; rw [HPS.out]; exact hQ
          have hqQ : q < Q := by omega
          have hQT : Q ≤ T.length := by omega
          have q1 : (q : Int) ≤ (Q : Int) := by omega
          have q2 : (Q : Int) ≤ (cap : Int) := by omega
          have q6 : ¬ cap = q := by omega
          have q7 : ((Q : Int) == (q : Int)) = false := beq_eq_false_iff_ne.2 (by omega)
          obtain ⟨Z, hZ⟩ : ∃ Z, Q - q = Z := ⟨_, rfl⟩
          have hsub : (Q : Int) - (q : Int) = (Z : Int) := by omega
          have hQ2 : (q : Int) + ((signL (T.drop q) : Nat) : Int) = (Q : Int) := by omega
          have dz : ¬ (2 : Int) < (Z : Int) := by omega
          clear hkd hz hQ sb1 sb2 HPS hZ gs hs2
          have HSZ := hide (rsize_calls wr b off cap T q mb mc HBY.out hlt hlen hcap CM.out HPM.out hmc)
          have hxr : nth T q < 48 ∨ (58 ≤ nth T q ∧ nth T q < 97) ∨ 122 < nth T q := by
            unfold letterB at gl
            unfold digitB at gd
            simp at gl gd
            omega
          clear gl gd HPM
          generalize nth T q = x at *
          rcases hxr with gx | gx | gx
          · have g0 : ¬ (97 : Int) ≤ (x : Int) := by omega
            have g1 : ¬ (48 : Int) ≤ (x : Int) := by omega
            clear gx
            go_wp2_with fail
            refine HSZ.out.mono ?_
            rintro e w3 ⟨rfl, hb3⟩
            have HB3 := hide (bafter HB.out hb3 (Nat.le_refl _))
            have HOWN3 := hide (ownsRow_keep HOWN.out hb3)
            have hcv := conv_byts ((HBY.out.below hb3).cut (cap' := cap - q) (p := q) (m := Q - q) (by omega))
            clear hb3 HSZ
            have HONE : Hid (∀ u ∈ ([.int .i64 4, .string (strOf ((T.drop q).take (Q - q))), .int .i64 (q : Int), .int .i64 (Q : Int)] : List Value), u.oneCell' = true) := fun u hu => by
              simp at hu
              rcases hu with rfl | rfl | rfl | rfl <;> rfl
            have HKK : Hid (kindAt T (posP T k) = 4) := by show _ = _; rw [HQ.out]; exact HKD.out
            have HF0 : Hid (faultAt T k = 0) := by show _ = _; rw [HFQ.out, HKD.out]; rfl
            have hsz : w1.heap.size ≤ w3.heap.size := HB3.out.size
            go_wp2_with (at_builtin; go_must (refine wpList_append_own _ rfl (.tmp 118) (.tmp 128) 28 rfl w1.heap.size 36 i0 (.agg #[.int .i64 0, .string ⟨#[]⟩, .int .i64 0, .int .i64 0]) 4 40 Try.underlying28 hi hz0 hz1 hz2 rfl (by decide) _ LN (tkcells T (toksL T k)) rfl (by exact World.ownsRow.alloc HOWN3.out _) ⟨w3.heap.size, 0, none⟩ 1 1 [.int .i64 4, .string (strOf ((T.drop q).take (Q - q))), .int .i64 (q : Int), .int .i64 (Q : Int)] rfl rfl (by exact World.news_of_block (World.alloc_heap_new _ _)) HONE.out (by unfold maxLen; omega) (by omega) (by simp; omega) ?_; intro v' w2 hown' hgrow hnil))
            have hp2 := rpushed (kd := 4) (P := q) (Q := Q) HLN.out HOWN3.out hsz hown' hgrow HQ.out HQE.out HKK.out (by decide)
            go_roundw
            case rel => exact ⟨k + 1, Q, by omega, rfl, hp2.1, .inl HQE.out.symm, by omega, faults_more HFA.out HF0.out, hp2.2 HB3.out⟩
            case measure => (simp [RowKit.intOf]; omega)
          · have g0 : ¬ (97 : Int) ≤ (x : Int) := by omega
            have g1 : (48 : Int) ≤ (x : Int) := by omega
            have g2 : ¬ (x : Int) ≤ 57 := by omega
            clear gx
            go_wp2_with fail
            refine HSZ.out.mono ?_
            rintro e w3 ⟨rfl, hb3⟩
            have HB3 := hide (bafter HB.out hb3 (Nat.le_refl _))
            have HOWN3 := hide (ownsRow_keep HOWN.out hb3)
            have hcv := conv_byts ((HBY.out.below hb3).cut (cap' := cap - q) (p := q) (m := Q - q) (by omega))
            clear hb3 HSZ
            have HONE : Hid (∀ u ∈ ([.int .i64 4, .string (strOf ((T.drop q).take (Q - q))), .int .i64 (q : Int), .int .i64 (Q : Int)] : List Value), u.oneCell' = true) := fun u hu => by
              simp at hu
              rcases hu with rfl | rfl | rfl | rfl <;> rfl
            have HKK : Hid (kindAt T (posP T k) = 4) := by show _ = _; rw [HQ.out]; exact HKD.out
            have HF0 : Hid (faultAt T k = 0) := by show _ = _; rw [HFQ.out, HKD.out]; rfl
            have hsz : w1.heap.size ≤ w3.heap.size := HB3.out.size
            go_wp2_with (at_builtin; go_must (refine wpList_append_own _ rfl (.tmp 118) (.tmp 128) 28 rfl w1.heap.size 36 i0 (.agg #[.int .i64 0, .string ⟨#[]⟩, .int .i64 0, .int .i64 0]) 4 40 Try.underlying28 hi hz0 hz1 hz2 rfl (by decide) _ LN (tkcells T (toksL T k)) rfl (by exact World.ownsRow.alloc HOWN3.out _) ⟨w3.heap.size, 0, none⟩ 1 1 [.int .i64 4, .string (strOf ((T.drop q).take (Q - q))), .int .i64 (q : Int), .int .i64 (Q : Int)] rfl rfl (by exact World.news_of_block (World.alloc_heap_new _ _)) HONE.out (by unfold maxLen; omega) (by omega) (by simp; omega) ?_; intro v' w2 hown' hgrow hnil))
            have hp2 := rpushed (kd := 4) (P := q) (Q := Q) HLN.out HOWN3.out hsz hown' hgrow HQ.out HQE.out HKK.out (by decide)
            go_roundw
            case rel => exact ⟨k + 1, Q, by omega, rfl, hp2.1, .inl HQE.out.symm, by omega, faults_more HFA.out HF0.out, hp2.2 HB3.out⟩
            case measure => (simp [RowKit.intOf]; omega)
          · have g0 : (97 : Int) ≤ (x : Int) := by omega
            have g1 : ¬ (x : Int) ≤ 122 := by omega
            have g2 : (48 : Int) ≤ (x : Int) := by omega
            have g3 : ¬ (x : Int) ≤ 57 := by omega
            clear gx
            go_wp2_with fail
            refine HSZ.out.mono ?_
            rintro e w3 ⟨rfl, hb3⟩
            have HB3 := hide (bafter HB.out hb3 (Nat.le_refl _))
            have HOWN3 := hide (ownsRow_keep HOWN.out hb3)
            have hcv := conv_byts ((HBY.out.below hb3).cut (cap' := cap - q) (p := q) (m := Q - q) (by omega))
            clear hb3 HSZ
            have HONE : Hid (∀ u ∈ ([.int .i64 4, .string (strOf ((T.drop q).take (Q - q))), .int .i64 (q : Int), .int .i64 (Q : Int)] : List Value), u.oneCell' = true) := fun u hu => by
              simp at hu
              rcases hu with rfl | rfl | rfl | rfl <;> rfl
            have HKK : Hid (kindAt T (posP T k) = 4) := by show _ = _; rw [HQ.out]; exact HKD.out
            have HF0 : Hid (faultAt T k = 0) := by show _ = _; rw [HFQ.out, HKD.out]; rfl
            have hsz : w1.heap.size ≤ w3.heap.size := HB3.out.size
            go_wp2_with (at_builtin; go_must (refine wpList_append_own _ rfl (.tmp 118) (.tmp 128) 28 rfl w1.heap.size 36 i0 (.agg #[.int .i64 0, .string ⟨#[]⟩, .int .i64 0, .int .i64 0]) 4 40 Try.underlying28 hi hz0 hz1 hz2 rfl (by decide) _ LN (tkcells T (toksL T k)) rfl (by exact World.ownsRow.alloc HOWN3.out _) ⟨w3.heap.size, 0, none⟩ 1 1 [.int .i64 4, .string (strOf ((T.drop q).take (Q - q))), .int .i64 (q : Int), .int .i64 (Q : Int)] rfl rfl (by exact World.news_of_block (World.alloc_heap_new _ _)) HONE.out (by unfold maxLen; omega) (by omega) (by simp; omega) ?_; intro v' w2 hown' hgrow hnil))
            have hp2 := rpushed (kd := 4) (P := q) (Q := Q) HLN.out HOWN3.out hsz hown' hgrow HQ.out HQE.out HKK.out (by decide)
            go_roundw
            case rel => exact ⟨k + 1, Q, by omega, rfl, hp2.1, .inl HQE.out.symm, by omega, faults_more HFA.out HF0.out, hp2.2 HB3.out⟩
            case measure => (simp [RowKit.intOf]; omega)
        · have HPM : Hid (twoB (T.drop q) = true → markAt T (q + 1) = 0) := fun h2 => by unfold signL at gs; rw [if_pos h2] at gs; cases gs
          have HKD := hide hkd
          have hs0 : ((signL (T.drop q) : Nat) : Int) = 0 := by omega
          have q7 : ((q : Int) == (q : Int)) = true := by simp
          clear hkd hz sb1 sb2 HPS gs
          have HSZ := hide (rsize_calls wr b off cap T q mb mc HBY.out hlt hlen hcap CM.out HPM.out hmc)
          have hxr : nth T q < 48 ∨ (58 ≤ nth T q ∧ nth T q < 97) ∨ 122 < nth T q := by
            unfold letterB at gl
            unfold digitB at gd
            simp at gl gd
            omega
          clear gl gd HPM
          generalize nth T q = x at *
          rcases hxr with gx | gx | gx
          · have g0 : ¬ (97 : Int) ≤ (x : Int) := by omega
            have g1 : ¬ (48 : Int) ≤ (x : Int) := by omega
            clear gx
            go_wp2_with fail
            refine HSZ.out.mono ?_
            rintro e w3 ⟨rfl, hb3⟩
            have HB3 := hide (bafter HB.out hb3 (Nat.le_refl _))
            have HOWN3 := hide (ownsRow_keep HOWN.out hb3)
            clear hb3 HSZ
            have HFB : Hid (faultAt T k = 20) := by show _ = _; rw [HFQ.out, HKD.out]; rfl
            have HBB := hide HB3.out
            go_wp2
            go_ret3
            refine ⟨_, _, _, rfl, .inl ⟨k, hkN, HFA.out, by rw [HFB.out]; decide, rfl, by rw [HQ.out], by rw [HFB.out]⟩, HB1.out.trans (HBB.out.mono HB1.out.size)⟩
          · have g0 : ¬ (97 : Int) ≤ (x : Int) := by omega
            have g1 : (48 : Int) ≤ (x : Int) := by omega
            have g2 : ¬ (x : Int) ≤ 57 := by omega
            clear gx
            go_wp2_with fail
            refine HSZ.out.mono ?_
            rintro e w3 ⟨rfl, hb3⟩
            have HB3 := hide (bafter HB.out hb3 (Nat.le_refl _))
            have HOWN3 := hide (ownsRow_keep HOWN.out hb3)
            clear hb3 HSZ
            have HFB : Hid (faultAt T k = 20) := by show _ = _; rw [HFQ.out, HKD.out]; rfl
            have HBB := hide HB3.out
            go_wp2
            go_ret3
            refine ⟨_, _, _, rfl, .inl ⟨k, hkN, HFA.out, by rw [HFB.out]; decide, rfl, by rw [HQ.out], by rw [HFB.out]⟩, HB1.out.trans (HBB.out.mono HB1.out.size)⟩
          · have g0 : (97 : Int) ≤ (x : Int) := by omega
            have g1 : ¬ (x : Int) ≤ 122 := by omega
            have g2 : (48 : Int) ≤ (x : Int) := by omega
            have g3 : ¬ (x : Int) ≤ 57 := by omega
            clear gx
            go_wp2_with fail
            refine HSZ.out.mono ?_
            rintro e w3 ⟨rfl, hb3⟩
            have HB3 := hide (bafter HB.out hb3 (Nat.le_refl _))
            have HOWN3 := hide (ownsRow_keep HOWN.out hb3)
            clear hb3 HSZ
            have HFB : Hid (faultAt T k = 20) := by show _ = _; rw [HFQ.out, HKD.out]; rfl
            have HBB := hide HB3.out
            go_wp2
            go_ret3
            refine ⟨_, _, _, rfl, .inl ⟨k, hkN, HFA.out, by rw [HFB.out]; decide, rfl, by rw [HQ.out], by rw [HFB.out]⟩, HB1.out.trans (HBB.out.mono HB1.out.size)⟩
    · have et : q = T.length := by omega
      subst et
      have hkN : k = N := by
        rcases Nat.lt_or_ge k N with g | g
        · exfalso
          have a1 := H1.out k g
          have a2 := (size_bounds a1).2
          have a3 : posP T (k + 1) = posP T k + sizeAt T (posP T k) := rfl
          rcases HST.out with e | ⟨_, _, e, _⟩ <;> omega
        · omega
      have dq : ¬ ((T.length : Nat) : Int) < ((T.length : Nat) : Int) := by omega
      have HKN := hide hkN
      have hsz : w1.heap.size ≤ wr.heap.size := HB.out.size
      clear hkN HST hqT hlt
      have HONE : Hid (∀ u ∈ ([.int .i64 0, .string ⟨#[]⟩, .int .i64 ((T.length : Nat) : Int), .int .i64 ((T.length : Nat) : Int)] : List Value), u.oneCell' = true) := fun u hu => by
        simp at hu
        rcases hu with rfl | rfl | rfl | rfl <;> rfl
      go_wp2_with (at_builtin; go_must (refine wpList_append_own _ rfl (.tmp 131) (.tmp 137) 28 rfl w1.heap.size 36 i0 (.agg #[.int .i64 0, .string ⟨#[]⟩, .int .i64 0, .int .i64 0]) 4 40 Try.underlying28 hi hz0 hz1 hz2 rfl (by decide) _ LN (tkcells T (toksL T k)) rfl (by exact World.ownsRow.alloc HOWN.out _) ⟨wr.heap.size, 0, none⟩ 1 1 [.int .i64 0, .string ⟨#[]⟩, .int .i64 ((T.length : Nat) : Int), .int .i64 ((T.length : Nat) : Int)] rfl rfl (by exact World.news_of_block (World.alloc_heap_new _ _)) HONE.out (by unfold maxLen; omega) (by omega) (by simp; omega) ?_; intro v' w2 hown' hgrow hnil))
      go_ret3
      have hBB := (HB.out.alloc hsz _).grown hgrow (by simp; omega) (fun j hj => by have := (HOWN.out.lt j hj).1; omega)
      refine ⟨_, _, _, rfl, .inr ⟨by rw [← HKN.out]; exact HFA.out, rfl, rfl, toksIn_of (n₀ := w1.heap.size) (e := 36) ?_⟩, HB1.out.trans (hBB.mono HB1.out.size)⟩
      rw [← HKN.out, List.length_append, tkcells_snoc, HLN.out]
      have e : tokCells T (0, T.length, T.length) = [.int .i64 0, .string ⟨#[]⟩, .int .i64 ((T.length : Nat) : Int), .int .i64 ((T.length : Nat) : Int)] := by simp [tokCells, tokText, strOf]
      rw [e]
      exact hown'

end Go.Proofs.Ytehflaenehehhaa
