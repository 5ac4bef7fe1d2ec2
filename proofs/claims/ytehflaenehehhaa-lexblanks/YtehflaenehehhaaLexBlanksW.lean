/- The law LexBlanks, walked. -/
import Derived.Test.YtehflaenehehhaaLJoin
namespace Go.Proofs.Ytehflaenehehhaa
set_option linter.unusedVariables false
set_option linter.unusedSimpArgs false
set_option maxRecDepth 100000
open Go Go.RowKit Go.Shelf Go.Lib

theorem natsOf_append (a b : ByteArray) : natsOf (a ++ b) = natsOf a ++ natsOf b := by
  unfold natsOf
  rw [← List.map_append]
  simp
theorem natsOf_strOf {A : List Nat} (h : ∀ x ∈ A, x < 256) : natsOf (strOf A) = A := by
  unfold natsOf
  rw [strOf_list, List.map_map]
  conv => rhs; rw [← List.map_id A]
  apply List.map_congr_left
  intro x hx
  have := h x hx
  simp
  omega

def sM (R : List Nat) : ByteArray := ((⟨#[10, 9, 32, 47, 47]⟩ : ByteArray) ++ strOf R) ++ (⟨#[10, 32]⟩ : ByteArray)
def sT (A R B : List Nat) : ByteArray := (strOf A ++ sM R) ++ strOf B
theorem natsOf_sM {R : List Nat} (h : ∀ x ∈ R, x < 256) : natsOf (sM R) = midL R := by
  unfold sM
  rw [natsOf_append, natsOf_append, natsOf_strOf h]
  simp [natsOf, midL]
theorem natsOf_sT {A R B : List Nat} (hA : ∀ x ∈ A, x < 256) (hR : ∀ x ∈ R, x < 256) (hB : ∀ x ∈ B, x < 256) : natsOf (sT A R B) = A ++ (midL R ++ B) := by
  unfold sT
  rw [natsOf_append, natsOf_append, natsOf_strOf hA, natsOf_strOf hB, natsOf_sM hR, List.append_assoc]

theorem zlist {LA LB : List Tok} {s0 b n : Nat} (h : n = s0 + b) : (LA ++ LB.map (shiftT s0)) ++ [((0 : Int), n, n)] = LA ++ (LB ++ [((0 : Int), b, b)]).map (shiftT s0) := by
  rw [h]
  simp [shiftT]

theorem run_all {R : List Nat} (h : ∀ j, j < R.length → nth R j ≠ 10) : runL lineB R = R.length := by
  refine runL_all.2 (fun j hj => ?_)
  unfold lineB
  simp [h j hj]

set_option maxHeartbeats 8000000 in
theorem lexblanks_calls (w : World) (a1 : Option Addr) (c1 : Nat) (A : List Nat) (hA : Byts w (.slice a1 A.length c1) A) (hc1 : A.length ≤ c1) (ha1 : a1 = none → c1 = 0)
    (a2 : Option Addr) (c2 : Nat) (B : List Nat) (hB : Byts w (.slice a2 B.length c2) B) (hc2 : B.length ≤ c2) (ha2 : a2 = none → c2 = 0)
    (a3 : Option Addr) (c3 : Nat) (R : List Nat) (hR : Byts w (.slice a3 R.length c3) R) (hc3 : R.length ≤ c3) (ha3 : a3 = none → c3 = 0) :
    Calls Try.prog 8 #[.slice a1 A.length c1, .slice a2 B.length c2, .slice a3 R.length c3] w fun e w' => e = .returned (.bool true) ∧ Below w.heap.size w w' := by
  have HA := hide hA
  have HB := hide hB
  have HR := hide hR
  clear hA hB hR ha1 ha2 ha3
  by_cases hsm : A.length ≤ 800 ∧ B.length ≤ 800 ∧ R.length ≤ 100
  case neg =>
    rcases (by omega : 800 < A.length ∨ (A.length ≤ 800 ∧ 800 < B.length) ∨ (A.length ≤ 800 ∧ B.length ≤ 800 ∧ 100 < R.length)) with g | ⟨g1, g⟩ | ⟨g1, g2, g⟩
    · have d1 : decide ((800 : Int) < (A.length : Int)) = true := decide_eq_true (by omega)
      go_enter Try.func8, Try.ntmps8
      go_wp2_with fail
      refine (parted_calls w).mono ?_
      rintro e W1 ⟨rfl, hb1⟩
      have K1 := hide hb1
      clear hb1
      go_wp2_with fail
      refine (parted_calls W1).mono ?_
      rintro e W2 ⟨rfl, hb2⟩
      go_wp2
      go_ret
      exact ⟨rfl, bafter K1.out hb2 (Nat.le_refl _)⟩
    · have d1 : decide ((800 : Int) < (A.length : Int)) = false := decide_eq_false (by omega)
      have d2 : decide ((800 : Int) < (B.length : Int)) = true := decide_eq_true (by omega)
      go_enter Try.func8, Try.ntmps8
      go_wp2_with fail
      refine (parted_calls w).mono ?_
      rintro e W1 ⟨rfl, hb1⟩
      have K1 := hide hb1
      clear hb1
      go_wp2_with fail
      refine (parted_calls W1).mono ?_
      rintro e W2 ⟨rfl, hb2⟩
      go_wp2
      go_ret
      exact ⟨rfl, bafter K1.out hb2 (Nat.le_refl _)⟩
    · have d1 : decide ((800 : Int) < (A.length : Int)) = false := decide_eq_false (by omega)
      have d2 : decide ((800 : Int) < (B.length : Int)) = false := decide_eq_false (by omega)
      have d3 : decide ((100 : Int) < (R.length : Int)) = true := decide_eq_true (by omega)
      go_enter Try.func8, Try.ntmps8
      go_wp2_with fail
      refine (parted_calls w).mono ?_
      rintro e W1 ⟨rfl, hb1⟩
      have K1 := hide hb1
      clear hb1
      go_wp2_with fail
      refine (parted_calls W1).mono ?_
      rintro e W2 ⟨rfl, hb2⟩
      go_wp2
      go_ret
      exact ⟨rfl, bafter K1.out hb2 (Nat.le_refl _)⟩
  case pos =>
    obtain ⟨lA, lB, lR⟩ := hsm
    have d1 : ¬ (800 : Int) < (A.length : Int) := by omega
    have d2 : ¬ (800 : Int) < (B.length : Int) := by omega
    have d3 : ¬ (100 : Int) < (R.length : Int) := by omega
    go_enter Try.func8, Try.ntmps8
    go_wp2_with fail
    refine (parted_calls w).mono ?_
    rintro e W1 ⟨rfl, hb1⟩
    have K1 := hide hb1
    clear hb1
    go_wp2
    go_loopw [7] (fun i wr => ∃ k : Nat, k ≤ R.length ∧ i = .int .i64 (k : Int) ∧ (∀ j, j < k → nth R j ≠ 10) ∧ wr = W1) (fun i _ => R.length - (RowKit.intOf i).toNat)
    case atStart => exact ⟨0, Nat.zero_le _, rfl, fun j hj => by omega, rfl⟩
    case round =>
      obtain ⟨k, hk, rfl, h3, hwr⟩ := hrel
      rw [hwr]
      clear hwr
      have H3 := hide h3
      clear h3
      by_cases hlt : k < R.length
      · obtain ⟨_, _, e, _, hcs⟩ := HR.out.below K1.out
        cases e
        obtain ⟨b, off, rfl, hc⟩ := hcs k hlt
        have dk : (k : Int) < (R.length : Int) := by omega
        have dk0 : (0 : Int) ≤ (k : Int) := by omega
        clear hcs
        by_cases g : nth R k = 10
        · rw [g] at hc
          go_wp2
          go_ret
          exact ⟨rfl, K1.out⟩
        · have dg : (((nth R k : Nat) : Int) == 10) = false := beq_eq_false_iff_ne.2 (by omega)
          have HG := hide g
          clear g
          generalize hX : nth R k = x at *
          have HX := hide hX
          clear hX
          go_wp2
          go_roundw
          case rel =>
            refine ⟨k + 1, by omega, by go_num, fun j hj => ?_, trivial⟩
            rcases Nat.lt_succ_iff_lt_or_eq.1 hj with g | g
            · exact H3.out j g
            · rw [g, HX.out]; exact HG.out
          case measure => simp [RowKit.intOf]; omega
      · obtain rfl : k = R.length := by omega
        have dk : ¬ ((R.length : Nat) : Int) < ((R.length : Nat) : Int) := by omega
        have HRL := hide (run_all H3.out)
        clear H3 hlt hk
        obtain ⟨NA, na1, na2⟩ := pieces_count A
        obtain ⟨NB, nb1, nb2⟩ := pieces_count B
        have hNA : NA ≤ 800 := by have := posP_ge na1 NA (Nat.le_refl _); omega
        have hNB : NB ≤ 800 := by have := posP_ge nb1 NB (Nat.le_refl _); omega
        have NA1 := hide na1
        have NA2 := hide na2
        have NB1 := hide nb1
        have NB2 := hide nb2
        clear na1 na2 nb1 nb2
        go_wp2_with fail
        refine (tokens_calls W1 a1 c1 A NA (HA.out.below K1.out) NA1.out NA2.out (by omega) hc1).mono ?_
        rintro e W2 ⟨vx, ax, ex, rfl, hTx, hb2⟩
        have HTX := hide hTx.two
        have K2 := hide (bafter K1.out hb2 (Nat.le_refl _))
        clear hTx hb2 K1
        go_wp2_with fail
        refine (tokens_calls W2 a2 c2 B NB (HB.out.below K2.out) NB1.out NB2.out (by omega) hc2).mono ?_
        rintro e W3 ⟨vy, ay, ey, rfl, hTy, hb3⟩
        have HTY := hide hTy.two
        have HTX3 : Hid (TokR2 W3 A NA vx ax ex) := by
          rcases HTX.out with h | ⟨h1, h2, h3, h4⟩
          · exact .inl h
          · exact .inr ⟨h1, h2, h3, h4.below hb3⟩
        have K3 := hide (bafter K2.out hb3 (Nat.le_refl _))
        clear hTy hb3 K2 HTX
        rcases HTX3.out with ⟨kx, _, _, hfx, rfl, rfl, rfl⟩ | ⟨hfA, rfl, rfl, hIx⟩
        · have hx : (faultAt A kx != 0) = true := by simp [hfx]
          clear hfx
          generalize faultAt A kx = fe at *
          go_wp2
          go_ret
          exact ⟨rfl, K3.out⟩
        rcases HTY.out with ⟨ky, _, _, hfy, rfl, rfl, rfl⟩ | ⟨hfB, rfl, rfl, hIy⟩
        · have hy : (faultAt B ky != 0) = true := by simp [hfy]
          clear hfy
          generalize faultAt B ky = fe at *
          go_wp2
          go_ret
          exact ⟨rfl, K3.out⟩
        clear HTX3 HTY
        obtain ⟨LA, tA, eA⟩ := toks_of HA.out.small NA1.out NA2.out hfA NA 0 (by omega)
        obtain ⟨LB, tB, eB⟩ := toks_of HB.out.small NB1.out NB2.out hfB NB 0 (by omega)
        rw [toksL_zero, List.nil_append] at eA eB
        rw [eA] at hIx
        rw [eB] at hIy
        have hLA : LA.length ≤ 800 := by rw [← eA]; have := toksL_le A NA; omega
        have hLB : LB.length ≤ 800 := by rw [← eB]; have := toksL_le B NB; omega
        obtain ⟨nT, tT⟩ := toks_between (R := R) HRL.out tA tB
        have TA := hide (toks_in tA)
        have TB := hide (toks_in tB)
        have HTT := hide tT
        have HIX := hide hIx
        have HIY := hide hIy
        clear tA tB tT hIx hIy eA eB hfA hfB NA1 NA2 NB1 NB2
        have hcvA := conv_byts (HA.out.below K3.out)
        have hcvB := conv_byts (HB.out.below K3.out)
        have hcvR := conv_byts (HR.out.below K3.out)
        obtain ⟨s, hs⟩ : ∃ s, s = sT A R B := ⟨_, rfl⟩
        have hsn : natsOf s = A ++ (midL R ++ B) := by rw [hs]; exact natsOf_sT HA.out.small HR.out.small HB.out.small
        have hsz : s.size = A.length + (R.length + 7 + B.length) := by rw [← natsOf_length, hsn]; simp [midL_length]
        have hmz : (sM R).size = R.length + 7 := by rw [← natsOf_length, natsOf_sM HR.out.small, midL_length]
        have hcv := run_bytes_of_string (P := Try.prog) W3 9 22 5 s Try.underlying9 Try.underlying22 Try.underlying5
        have hby := byts_row W3.drew s (grownCap W3 s.size 0 5) ((bytesRow s (grownCap W3 s.size 0 5)).size, (bytesRow s (grownCap W3 s.size 0 5)).size + 1)
        have hcap : s.size ≤ grownCap W3 s.size 0 5 := grownCap_ge _ _ _ _
        have hb4 : Below W3.heap.size W3 (W3.drew.alloc (.cells (bytesRow s (grownCap W3 s.size 0 5)) 5 ((bytesRow s (grownCap W3 s.size 0 5)).size, (bytesRow s (grownCap W3 s.size 0 5)).size + 1))) := (Below.refl _ W3).drew.alloc (Nat.le_refl _) _
        generalize W3.drew.alloc (.cells (bytesRow s (grownCap W3 s.size 0 5)) 5 ((bytesRow s (grownCap W3 s.size 0 5)).size, (bytesRow s (grownCap W3 s.size 0 5)).size + 1)) = W4 at *
        generalize grownCap W3 s.size 0 5 = cap at *
        have HBY := hide hby
        have K4 := hide hb4
        have HSN := hide hsn
        have HSZ := hide hsz
        have HMZ := hide hmz
        have HS := hide hs
        clear hby hb4 hsn hs hsz hmz
        have q1 : ((⟨#[10, 9, 32, 47, 47]⟩ : ByteArray) ++ strOf R) ++ (⟨#[10, 32]⟩ : ByteArray) = sM R := rfl
        have q2 : (strOf A ++ sM R) ++ strOf B = s := HS.out.symm
        have zA : (strOf A).size ≤ 800 := by rw [← natsOf_length, natsOf_strOf HA.out.small]; exact lA
        have zB : (strOf B).size ≤ 800 := by rw [← natsOf_length, natsOf_strOf HB.out.small]; exact lB
        have zR : (strOf R).size ≤ 100 := by rw [← natsOf_length, natsOf_strOf HR.out.small]; exact lR
        have zM : (sM R).size ≤ 107 := by rw [HMZ.out]; omega
        generalize strOf A = sA at *
        generalize strOf R = sR at *
        generalize strOf B = sB at *
        generalize sM R = sm at *
        go_wp2_with fail
        obtain ⟨NT, nt1, nt2⟩ := pieces_count (natsOf s)
        have hsl := natsOf_length s
        refine (show Calls Try.prog 10 #[.slice (some ⟨W3.heap.size, 0, none⟩) s.size cap] W4 _ by rw [← hsl]; exact tokens_calls W4 _ cap (natsOf s) NT (by rw [hsl]; exact HBY.out) nt1 nt2 (by rw [hsl, HSZ.out]; omega) (by rw [hsl]; exact hcap)).mono ?_
        rintro e W5 ⟨vz, az, ez, rfl, hTz, hb5⟩
        have hall := toks_are nt1 nt2 nT 0 _ (Nat.zero_le _) (by rw [HSN.out]; exact HTT.out)
        rcases hTz.two with ⟨kz, hkz, _, hfz, _⟩ | ⟨_, rfl, rfl, hIz⟩
        · exact absurd (hall.1 kz (Nat.zero_le _) hkz) hfz
        rw [hall.2, toksL_zero, List.nil_append, zlist (s0 := A.length + (midL R).length) (b := B.length) (by rw [HSN.out]; simp; omega)] at hIz
        have K35 : Below W3.heap.size W3 W5 := bafter K4.out hb5 (Nat.le_refl _)
        have K5 := hide (bafter K3.out K35 (Nat.le_refl _))
        have hIx5 := HIX.out.below K35
        have hIy5 := HIY.out.below K35
        have TXA : Hid (∀ t ∈ LA, tokText (natsOf s) t = tokText A t) := fun t ht => by rw [HSN.out]; exact text_left (TA.out t ht).1 (TA.out t ht).2
        have TXB : Hid (∀ t, tokText (natsOf s) (shiftT (A.length + (midL R).length) t) = tokText B t) := fun t => by
          rw [HSN.out, ← List.append_assoc, ← List.length_append]
          exact text_right
        have hmid : (midL R).length = sm.size := by rw [midL_length, HMZ.out]
        rw [hmid] at hIz TXB
        clear hTz hb5 hall nt1 nt2 HTT HIX HIY K35 hsl HBY K4 HSZ HSN hmid hcv hcvA hcvB hcvR q1 q2 HS
        obtain ⟨aox, cx, rfl, hcx, hsx⟩ := hIx5
        obtain ⟨aoy, cy, rfl, hcy, hsy⟩ := hIy5
        obtain ⟨aoz, cz, rfl, hcz, hsz⟩ := hIz
        have SX := hide hsx
        have SY := hide hsy
        have SZ := hide hsz
        clear hsx hsy hsz
        have hlx : (LA ++ [((0 : Int), A.length, A.length)]).length = LA.length + 1 := by simp
        have hly : (LB ++ [((0 : Int), B.length, B.length)]).length = LB.length + 1 := by simp
        have hlz : (LA ++ (LB ++ [((0 : Int), B.length, B.length)]).map (shiftT (A.length + sm.size))).length = LA.length + (LB.length + 1) := by simp
        generalize (LA ++ [((0 : Int), A.length, A.length)]).length = lx at *
        generalize hYL : (LB ++ [((0 : Int), B.length, B.length)]) = YL at *
        have hYin : Hid (∀ t ∈ YL, t.2.1 ≤ 1000000) := by
          intro t ht
          rw [← hYL] at ht
          rcases List.mem_append.1 ht with e | e
          · have := (TB.out t e).1; have := (TB.out t e).2; omega
          · simp at e; rw [e]; show B.length ≤ _; omega
        clear hYL
        generalize hyl0 : YL.length = ly at *
        have HYL := hide hyl0
        clear hyl0
        generalize hzl0 : (LA ++ YL.map (shiftT (A.length + sm.size))).length = lz at *
        clear hzl0
        have hne : (((lz : Nat) : Int) != ((lx : Nat) : Int) + ((ly : Nat) : Int) - 1) = false := by
          simp
          omega
        have HL : Hid (lx = LA.length + 1 ∧ ly = LB.length + 1 ∧ lz = LA.length + (LB.length + 1)) := ⟨hlx, hly, hlz⟩
        have bx : lx ≤ 801 := by omega
        have bx1 : 1 ≤ lx := by omega
        have bY : ly ≤ 801 := by omega
        have bz : lz + 1 = lx + ly := by omega
        have BZ := hide bz
        clear hlx hly hlz bz
        go_wp2
        clear hne
        go_loopw [18] (fun i wr => ∃ j : Nat, j ≤ lx - 1 ∧ i = .int .i64 (j : Int) ∧ Below W5.heap.size W5 wr) (fun i _ => lx - (RowKit.intOf i).toNat)
        case atStart => exact ⟨0, Nat.zero_le _, rfl, Below.refl _ _⟩
        case round =>
          obtain ⟨j, hj, rfl, hB5⟩ := hrel
          have HB5 := hide hB5
          clear hB5
          by_cases hlt : j < lx - 1
          · have hjA : j < LA.length := by have := HL.out; omega
            obtain ⟨t, ht⟩ : ∃ t, LA[j]? = some t := ⟨_, List.getElem?_eq_getElem hjA⟩
            obtain ⟨b1, rfl, x0, x1, x2, x3⟩ := SX.out j t (by rw [List.getElem?_append_left hjA]; exact ht)
            obtain ⟨b2, rfl, y0, y1, y2, y3⟩ := SZ.out j t (by rw [List.getElem?_append_left hjA]; exact ht)
            rw [TXA.out t (List.mem_of_getElem? ht)] at y1
            clear SX SZ SY ht
            replace x0 : wr.cell? ⟨b1, j * 4, none⟩ = _ := (HB5.out.cell (p := ⟨b1, j * 4, none⟩) (block_lt x0)).trans x0
            replace x1 : wr.cell? ⟨b1, j * 4 + 1, none⟩ = _ := (HB5.out.cell (p := ⟨b1, j * 4 + 1, none⟩) (block_lt x1)).trans x1
            replace x2 : wr.cell? ⟨b1, j * 4 + 2, none⟩ = _ := (HB5.out.cell (p := ⟨b1, j * 4 + 2, none⟩) (block_lt x2)).trans x2
            replace x3 : wr.cell? ⟨b1, j * 4 + 3, none⟩ = _ := (HB5.out.cell (p := ⟨b1, j * 4 + 3, none⟩) (block_lt x3)).trans x3
            replace y0 : wr.cell? ⟨b2, j * 4, none⟩ = _ := (HB5.out.cell (p := ⟨b2, j * 4, none⟩) (block_lt y0)).trans y0
            replace y1 : wr.cell? ⟨b2, j * 4 + 1, none⟩ = _ := (HB5.out.cell (p := ⟨b2, j * 4 + 1, none⟩) (block_lt y1)).trans y1
            replace y2 : wr.cell? ⟨b2, j * 4 + 2, none⟩ = _ := (HB5.out.cell (p := ⟨b2, j * 4 + 2, none⟩) (block_lt y2)).trans y2
            replace y3 : wr.cell? ⟨b2, j * 4 + 3, none⟩ = _ := (HB5.out.cell (p := ⟨b2, j * 4 + 3, none⟩) (block_lt y3)).trans y3
            have dj : (j : Int) < (lx : Int) - 1 := by omega
            have dj1 : (j : Int) < (lx : Int) := by omega
            have dj2 : (j : Int) < (lz : Int) := by have := BZ.out; have := HL.out; omega
            have dj0 : (0 : Int) ≤ (j : Int) := by omega
            generalize tokText A t = su at *
            generalize t.1 = kd at *
            generalize ((t.2.1 : Nat) : Int) = pf at *
            generalize ((t.2.2 : Nat) : Int) = pt at *
            go_wp2
            go_quiet (fail)
            go_wp2
            go_roundw
            case rel => exact ⟨j + 1, by omega, by go_num, bdrewN HB5.out _⟩
            case measure => simp [RowKit.intOf]; omega
          · have dj : ¬ (j : Int) < (lx : Int) - 1 := by omega
            have HB6 := hide (bafter K5.out HB5.out (Nat.le_refl _))
            generalize wr = wo at *
            clear wr SX TXA
            go_wp2
            go_loopw [19] (fun i wr => ∃ j : Nat, j ≤ ly ∧ i = .int .i64 (j : Int) ∧ Below wo.heap.size wo wr) (fun i _ => ly - (RowKit.intOf i).toNat)
            case atStart => exact ⟨0, Nat.zero_le _, rfl, Below.refl _ _⟩
            case round =>
              obtain ⟨j, hj, rfl, hBr⟩ := hrel
              have HBR := hide (bafter HB5.out hBr (Nat.le_refl _))
              have HBO := hide hBr
              clear hBr
              by_cases hlt2 : j < ly
              · obtain ⟨t, ht⟩ : ∃ t, YL[j]? = some t := ⟨_, List.getElem?_eq_getElem (by rw [HYL.out]; exact hlt2)⟩
                obtain ⟨m, hm⟩ : ∃ m, lx - 1 + j = m := ⟨_, rfl⟩
                obtain ⟨b1, rfl, x0, x1, x2, x3⟩ := SY.out j t ht
                obtain ⟨b2, rfl, y0, y1, y2, y3⟩ := SZ.out m (shiftT (A.length + sm.size) t) (by
                  rw [← hm, List.getElem?_append_right (by have := HL.out; omega), List.getElem?_map, show lx - 1 + j - LA.length = j by have := HL.out; omega, ht]
                  rfl)
                rw [TXB.out t] at y1
                have hpb : t.2.1 ≤ 1000000 := hYin.out t (List.mem_of_getElem? ht)
                simp only [shiftT] at y0 y2 y3
                clear SZ SY ht
                replace x0 : wr.cell? ⟨b1, j * 4, none⟩ = _ := (HBR.out.cell (p := ⟨b1, j * 4, none⟩) (block_lt x0)).trans x0
                replace x1 : wr.cell? ⟨b1, j * 4 + 1, none⟩ = _ := (HBR.out.cell (p := ⟨b1, j * 4 + 1, none⟩) (block_lt x1)).trans x1
                replace x2 : wr.cell? ⟨b1, j * 4 + 2, none⟩ = _ := (HBR.out.cell (p := ⟨b1, j * 4 + 2, none⟩) (block_lt x2)).trans x2
                replace y0 : wr.cell? ⟨b2, m * 4, none⟩ = _ := (HBR.out.cell (p := ⟨b2, m * 4, none⟩) (block_lt y0)).trans y0
                replace y1 : wr.cell? ⟨b2, m * 4 + 1, none⟩ = _ := (HBR.out.cell (p := ⟨b2, m * 4 + 1, none⟩) (block_lt y1)).trans y1
                replace y2 : wr.cell? ⟨b2, m * 4 + 2, none⟩ = _ := (HBR.out.cell (p := ⟨b2, m * 4 + 2, none⟩) (block_lt y2)).trans y2
                replace y3 : wr.cell? ⟨b2, m * 4 + 3, none⟩ = _ := (HBR.out.cell (p := ⟨b2, m * 4 + 3, none⟩) (block_lt y3)).trans y3
                have hmi : (lx : Int) - 1 + (j : Int) = (m : Int) := by omega
                have dm : (m : Int) < (lz : Int) := by have := BZ.out; omega
                have dm0 : (0 : Int) ≤ (m : Int) := by omega
                have dj2 : (j : Int) < (ly : Int) := by omega
                have dj0 : (0 : Int) ≤ (j : Int) := by omega
                generalize tokText B t = su at *
                generalize t.1 = kd at *
                generalize t.2.1 = pf at *
                generalize hPT : A.length + sm.size + t.2.2 = pt at *
                generalize hPF : A.length + sm.size + pf = qf at *
                clear hPT x3 hm
                have kA := bel wr (.cells #[.int .i64 kd, .string su, .int .i64 ((qf : Nat) : Int), .int .i64 ((pt : Nat) : Int)] 34)
                have HX := hide (show (wr.alloc (.cells #[.int .i64 kd, .string su, .int .i64 ((qf : Nat) : Int), .int .i64 ((pt : Nat) : Int)] 34)).cell? ⟨b1, j * 4, none⟩ = _ ∧ (wr.alloc (.cells #[.int .i64 kd, .string su, .int .i64 ((qf : Nat) : Int), .int .i64 ((pt : Nat) : Int)] 34)).cell? ⟨b1, j * 4 + 1, none⟩ = _ ∧ (wr.alloc (.cells #[.int .i64 kd, .string su, .int .i64 ((qf : Nat) : Int), .int .i64 ((pt : Nat) : Int)] 34)).cell? ⟨b1, j * 4 + 2, none⟩ = _ from ⟨(kA.cell (p := ⟨b1, j * 4, none⟩) (block_lt x0)).trans x0, (kA.cell (p := ⟨b1, j * 4 + 1, none⟩) (block_lt x1)).trans x1, (kA.cell (p := ⟨b1, j * 4 + 2, none⟩) (block_lt x2)).trans x2⟩)
                have HN := hide (fun i => World.cell?_alloc_mark wr #[.int .i64 kd, .string su, .int .i64 ((qf : Nat) : Int), .int .i64 ((pt : Nat) : Int)] 34 (0, 0) i)
                have HBW := hide (bafter HBO.out kA (Nat.le_refl _))
                have HPF := hide hPF
                clear kA x0 x1 x2 hPF
                go_wp2
                obtain ⟨x0, x1, x2⟩ := HX.out
                have n0 := HN.out 0
                have n1 := HN.out 1
                have n2 := HN.out 2
                simp only [List.getElem?_toArray, List.getElem?_cons_zero, List.getElem?_cons_succ] at n0 n1 n2
                generalize hwq : wr.alloc (.cells #[.int .i64 kd, .string su, .int .i64 ((qf : Nat) : Int), .int .i64 ((pt : Nat) : Int)] 34) = wq at *
                generalize hbx : wr.heap.size = Bx at *
                clear hwq hbx HX HN y0 y1 y2 y3 HBR HBO wr
                have v1 : IntKind.i64.wrap ((pf : Int) + (A.length : Int)) = (pf : Int) + (A.length : Int) := wrap_int (by omega) (by omega)
                have v2 : IntKind.i64.wrap ((pf : Int) + (A.length : Int) + (sm.size : Int)) = (qf : Int) := by rw [wrap_int (by omega) (by omega)]; have := HPF.out; omega
                go_quiet (fail)
                go_wp2
                go_roundw
                case rel => exact ⟨j + 1, by omega, by go_num, bdrewN HBW.out _⟩
                case measure => simp [RowKit.intOf]; omega
              · obtain rfl : j = ly := by omega
                have dj2 : ¬ (j : Int) < (j : Int) := by omega
                go_wp2
                go_ret
                exact ⟨rfl, HB6.out.trans (HBO.out.mono HB6.out.size)⟩

end Go.Proofs.Ytehflaenehehhaa
