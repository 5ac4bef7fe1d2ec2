/- The letters of bytes, one behind the other; the iterator of them hands them over. -/
import Derived.Test.YtbdpmpepmjpadaaGreatDoorURange
namespace Go.Proofs.YtbdpmpepmjpadaaGreatDoor
set_option linter.unusedVariables false
set_option linter.unusedSimpArgs false
open Go Go.RowKit Go.Shelf Go.Lib

/-- The letter at a place, as the iterator tells it; how many bytes it takes; where the k-th begins. -/
def runeAt (T : List Nat) (p : Nat) : Int := if (decL (T.drop p)).1 = 65533 ∧ (decL (T.drop p)).2 = 1 then -1 else (((decL (T.drop p)).1 : Nat) : Int)
def sizeAt (T : List Nat) (p : Nat) : Nat := (decL (T.drop p)).2
def posL (T : List Nat) : Nat → Nat
  | 0 => 0
  | k + 1 => posL T k + sizeAt T (posL T k)

theorem decN_bounds {n b0 b1 b2 b3 : Nat} (hn : 1 ≤ n) (h0 : b0 < 256) : 1 ≤ (decodeN n b0 b1 b2 b3).2 ∧ (decodeN n b0 b1 b2 b3).2 ≤ n ∧ (decodeN n b0 b1 b2 b3).1 ≤ 1114111 := by
  unfold decodeN
  repeat' split
  all_goals (simp only [] ; omega)

theorem size_bounds {T : List Nat} (hT : ∀ x ∈ T, x < 256) {p : Nat} (hp : p < T.length) : 1 ≤ sizeAt T p ∧ p + sizeAt T p ≤ T.length ∧ (decL (T.drop p)).1 ≤ 1114111 := by
  have hl : (T.drop p).length = T.length - p := List.length_drop
  have hd : decL (T.drop p) = decodeN (T.drop p).length (nth (T.drop p) 0) (nth (T.drop p) 1) (nth (T.drop p) 2) (nth (T.drop p) 3) := by
    unfold decL
    rw [if_neg (by omega)]
  have hb := decN_bounds (n := (T.drop p).length) (b0 := nth (T.drop p) 0) (b1 := nth (T.drop p) 1) (b2 := nth (T.drop p) 2) (b3 := nth (T.drop p) 3) (by omega) (nth_lt (fun x hx => hT x (List.mem_of_mem_drop hx)) 0)
  unfold sizeAt
  rw [hd]
  omega

theorem letters_count {T : List Nat} (hT : ∀ x ∈ T, x < 256) : ∃ N, (∀ k, k < N → posL T k < T.length) ∧ posL T N = T.length := by
  have key : ∀ m k, T.length - posL T k = m → posL T k ≤ T.length → (∀ j, j < k → posL T j < T.length) → ∃ N, (∀ j, j < N → posL T j < T.length) ∧ posL T N = T.length := by
    intro m
    induction m using Nat.strongRecOn with
    | _ m ih =>
      intro k hm hk hj
      by_cases he : posL T k = T.length
      · exact ⟨k, hj, he⟩
      · obtain ⟨h1, h2, _⟩ := size_bounds hT (p := posL T k) (by omega)
        have e : posL T (k + 1) = posL T k + sizeAt T (posL T k) := rfl
        refine ih (T.length - posL T (k + 1)) (by omega) (k + 1) rfl (by omega) (fun j hj' => ?_)
        rcases Nat.lt_succ_iff_lt_or_eq.1 hj' with h | h
        · exact hj j h
        · rw [h]; omega
  exact key _ 0 rfl (Nat.zero_le _) (fun j hj => by omega)

theorem nth_drop (T : List Nat) (p j : Nat) : nth (T.drop p) j = nth T (p + j) := by
  unfold nth
  rw [List.getElem?_drop]

theorem Byts.drop {W : World} {b off cap cap' : Nat} {T : List Nat} (h : Byts W (.slice (some ⟨b, off, none⟩) T.length cap) T) {p n : Nat} (hp : p ≤ T.length) (hn : n = T.length - p) : Byts W (.slice (some ⟨b, off + p, none⟩) n cap') (T.drop p) := by
  obtain ⟨ao, c, e, h1, h2⟩ := h
  cases e
  refine ⟨some ⟨b, off + p, none⟩, cap', by rw [List.length_drop, hn], fun x hx => h1 x (List.mem_of_mem_drop hx), fun j hj => ?_⟩
  rw [List.length_drop] at hj
  obtain ⟨b', off', e, hc⟩ := h2 (p + j) (by omega)
  cases e
  refine ⟨b, off + p, rfl, ?_⟩
  rw [nth_drop, Nat.add_assoc]
  exact hc

/-- What the iterator must know of memory. -/
def LetKnow (Bs : Nat) (ao : Option Addr) (cap : Nat) (T : List Nat) (W : World) : Prop := W.cell? ⟨Bs, 0, none⟩ = some (.slice ao T.length cap) ∧ Byts W (.slice ao T.length cap) T ∧ Utf8Tabs 0 1 W

set_option maxRecDepth 100000 in
set_option maxHeartbeats 2000000 in
theorem letters_hands (Bs : Nat) (ao : Option Addr) (cap : Nat) (T : List Nat) (N : Nat) (h1 : ∀ k, k < N → posL T k < T.length) (h2 : posL T N = T.length) (hlen : T.length ≤ 4611686018427387904) (hcap : T.length ≤ cap) :
    HandsB Tryz.prog 87 #[.pointer (some ⟨Bs, 0, none⟩)] N (fun k => #[.int .i64 ((posL T k : Nat) : Int), .int .i32 (runeAt T (posL T k))]) (fun _ W => LetKnow Bs ao cap T W) := by
  intro l J Jx W hKn hSt hY h0
  refine callsIn_of_wp Tryz.func87 rfl trivial ?_ rfl
  simp only [Tryz.ntmps87, List.size_toArray, List.length_cons, List.length_nil, Nat.reduceAdd, Nat.reduceSub, Array.replicate_succ, Array.replicate_zero, List.push_toArray, List.append_toArray, List.nil_append, List.cons_append]
  gi_wp2
  gi_loopw [3] (fun i wr => ∃ k : Nat, k ≤ N ∧ i = .int .i64 ((posL T k : Nat) : Int) ∧ J k wr) (fun i _ => T.length - (RowKit.intOf i).toNat)
  case atStart => exact ⟨0, Nat.zero_le _, rfl, h0⟩
  case round =>
    obtain ⟨k, hk, rfl, hJ⟩ := hrel
    obtain ⟨hc, hB, hU⟩ := hKn k _ hJ
    by_cases hlt : k < N
    · have hp := h1 k hlt
      have hps : posL T (k + 1) = posL T k + sizeAt T (posL T k) := rfl
      obtain ⟨ao', cap', e, hb, hcell⟩ := id hB
      cases e
      obtain ⟨b, off, rfl, _⟩ := hcell 0 (by omega)
      obtain ⟨s1, s2, s3⟩ := size_bounds hb hp
      have HB := hide hB
      have HU := hide hU
      have HKn := hide hKn
      have HSt := hide hSt
      have HY := hide hY
      have HJ := hide hJ
      have hps' := hps
      have H1 := hide h1
      clear hcell hB hU hKn hSt hY hJ hb hps h1 h2 h0
      have hr1 : runeAt T (posL T k) = if (decL (T.drop (posL T k))).1 = 65533 ∧ (decL (T.drop (posL T k))).2 = 1 then -1 else (((decL (T.drop (posL T k))).1 : Nat) : Int) := rfl
      have HR := hide hr1
      clear hr1
      generalize hP : posL T k = P at *
      have dlt : (P : Int) < (T.length : Int) := by omega
      have dle : (P : Int) ≤ (T.length : Int) := by omega
      have dge : (0 : Int) ≤ (P : Int) := by omega
      have dcap : (T.length : Int) ≤ (cap : Int) := by omega
      gi_wp2_with fail
      refine ⟨trivial, ?_⟩
      refine (callsIn_wide.2 (drune_calls _ _ (T.drop P) (HB.out.drop (by omega) rfl) HU.out)).mono ?_
      rintro e W2 ⟨rfl, hb2⟩
      have hJ2 := HSt.out k _ _ HJ.out hb2
      have hy0 := HY.out k W2 hlt hJ2
      rw [hP] at hy0
      have hr0 := HR.out
      have hS : sizeAt T P = (decL (T.drop P)).2 := rfl
      obtain ⟨R0, hR0⟩ : ∃ R0, R0 = (decL (T.drop P)).1 := ⟨_, rfl⟩
      obtain ⟨S0, hS0'⟩ : ∃ S0, S0 = (decL (T.drop P)).2 := ⟨_, rfl⟩
      rw [← hR0, ← hS0'] at hr0 ⊢
      rw [← hR0] at s3
      have hS0 : sizeAt T P = S0 := hS.trans hS0'.symm
      rw [hS0] at s1 s2
      obtain ⟨Z, hZ⟩ : ∃ Z, P + S0 = Z := ⟨_, rfl⟩
      have hZZ : (P : Int) + (S0 : Int) = (Z : Int) := by omega
      have hZb : Z ≤ 4611686018427387904 := by omega
      have hpz : Hid (posL T (k + 1) = Z) := by show _ = _; rw [hps', hS0, hZ]
      have hlZ : P < Z ∧ P < T.length := ⟨by omega, by omega⟩
      have HlZ := hide hlZ
      clear hps' hZ hlZ
      clear HKn HSt HY HJ HB HU HR hS hR0 hS0' hb2 H1 hc
      by_cases hbad : R0 = 65533
      · by_cases hone : S0 = 1
        · rw [if_pos ⟨hbad, hone⟩] at hr0
          rw [hr0] at hy0
          have hone' : ((S0 : Int) == 1) = true := by rw [hone]; rfl
          clear hone
          subst hbad
          obtain ⟨fn, tmps, assign, body, hy, hR⟩ := hy0
          gi_wp2
          refine hR.mono ?_
          rintro e W3 (⟨rfl, hJ3⟩ | ⟨rfl, hJx3⟩)
          · gi_wp2
            go_roundw
            case rel => exact ⟨k + 1, by omega, by rw [hpz.out], hJ3⟩
            case measure => (have hh := HlZ.out; simp [RowKit.intOf]; omega)
          · gi_wp2
            refine bodyPost_ret (results_none rfl _ _ _) rfl ?_
            exact ⟨⟨_, rfl⟩, .inr ⟨k, hlt, hJx3⟩⟩
        · rw [if_neg (fun h => hone h.2)] at hr0
          rw [hr0] at hy0
          have hone' : ((S0 : Int) == 1) = false := beq_eq_false_iff_ne.2 (by omega)
          subst hbad
          rw [show ((65533 : Nat) : Int) = 65533 from rfl] at hy0
          obtain ⟨fn, tmps, assign, body, hy, hR⟩ := hy0
          gi_wp2
          refine hR.mono ?_
          rintro e W3 (⟨rfl, hJ3⟩ | ⟨rfl, hJx3⟩)
          · gi_wp2
            go_roundw
            case rel => exact ⟨k + 1, by omega, by rw [hpz.out], hJ3⟩
            case measure => (have hh := HlZ.out; simp [RowKit.intOf]; omega)
          · gi_wp2
            refine bodyPost_ret (results_none rfl _ _ _) rfl ?_
            exact ⟨⟨_, rfl⟩, .inr ⟨k, hlt, hJx3⟩⟩
      · rw [if_neg (fun h => hbad h.1)] at hr0
        rw [hr0] at hy0
        have hbad' : ((R0 : Int) == 65533) = false := beq_eq_false_iff_ne.2 (by omega)
        obtain ⟨fn, tmps, assign, body, hy, hR⟩ := hy0
        gi_wp2
        refine hR.mono ?_
        rintro e W3 (⟨rfl, hJ3⟩ | ⟨rfl, hJx3⟩)
        · gi_wp2
          go_roundw
          case rel => exact ⟨k + 1, by omega, by rw [hpz.out], hJ3⟩
          case measure => (have hh := HlZ.out; simp [RowKit.intOf]; omega)
        · gi_wp2
          refine bodyPost_ret (results_none rfl _ _ _) rfl ?_
          exact ⟨⟨_, rfl⟩, .inr ⟨k, hlt, hJx3⟩⟩
    · obtain rfl : k = N := by omega
      have dge : ¬ ((posL T k : Nat) : Int) < (T.length : Int) := by omega
      clear hB hU hKn
      gi_wp2
      go_end0
      exact ⟨⟨_, rfl⟩, .inl hJ⟩

end Go.Proofs.YtbdpmpepmjpadaaGreatDoor
