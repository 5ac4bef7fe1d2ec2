/- Frame: bytes.Trim of blanks and tabs. -/
import Derived.Test.YtnflbplhokodjaaDoorFMem
import Derived.Test.YtnflbplhokodjaaDoorUSet
namespace Go.Proofs.YtnflbplhokodjaaDoor
set_option linter.unusedVariables false
set_option linter.unusedSimpArgs false
set_option maxRecDepth 1000000
open Go Go.RowKit Go.Shelf Go.Lib

def blankStr : ByteArray := ⟨#[32, 9]⟩
theorem blankStr_size : blankStr.size = 2 := rfl
theorem blankStr_list : blankStr.data.toList = [32, 9] := rfl
theorem blankL : ∀ (j : Nat) b, blankStr.data.toList[j]? = some b → b.toNat < 128 := by
  intro j b h
  rw [blankStr_list] at h
  match j, h with
  | 0, h => simp at h; subst h; decide
  | 1, h => simp at h; subst h; decide
  | j + 2, h => simp at h
theorem blankEmp : blankStr.toList.isEmpty = false := by rw [toList_data, blankStr_list]; rfl
theorem blankOne : ((blankStr.size : Int) == 1) = false := by decide
theorem bset_all : ∀ x : Fin 256, ([32, 9] : List UInt8).contains (UInt8.ofNat x.val) = blankF x.val := by decide
theorem bset_at {x : Nat} (hx : x < 256) : (setCells blankStr.data.toList)[x]? = some (.bool (blankF x)) := by
  have h := setCells_at blankStr.data.toList (UInt8.ofNat x)
  have e : (UInt8.ofNat x).toNat = x := by simp; omega
  rw [e] at h
  rw [h, blankStr_list, bset_all ⟨x, hx⟩]

def trimR (T : List Nat) : List Nat := (T.reverse.dropWhile blankF).reverse
theorem trim_both (T : List Nat) : trimR (T.dropWhile blankF) = trimF T := rfl
theorem trimR_nil : trimR [] = [] := rfl
theorem trimR_snoc (l : List Nat) (x : Nat) : trimR (l ++ [x]) = if blankF x then trimR l else l ++ [x] := by
  unfold trimR
  rw [List.reverse_append]
  simp only [List.reverse_cons, List.reverse_nil, List.nil_append, List.singleton_append, List.dropWhile]
  cases blankF x <;> simp
theorem take_snoc {T : List Nat} {k : Nat} (h : k < T.length) : T.take (k + 1) = T.take k ++ [nth T k] := by
  rw [List.take_add_one]
  simp [nth, h]
/-- From both sides: the order is nothing. -/
theorem trim_comm (T : List Nat) : (trimR T).dropWhile blankF = trimF T := by
  rw [← trim_both]
  induction T with
  | nil => rfl
  | cons x l ih =>
    have hR : trimR (x :: l) = if trimR l = [] then (if blankF x then [] else [x]) else x :: trimR l := by
      unfold trimR
      rw [List.reverse_cons, List.dropWhile_append]
      cases hq : l.reverse.dropWhile blankF with
      | nil => cases hb : blankF x <;> simp [List.dropWhile, hb]
      | cons y m => simp
    cases hb : blankF x with
    | true =>
      have e1 : (x :: l).dropWhile blankF = l.dropWhile blankF := by simp [List.dropWhile, hb]
      rw [e1, hR]
      by_cases hn : trimR l = []
      · rw [if_pos hn, if_pos hb, ← ih, hn]
      · rw [if_neg hn, ← ih]
        simp [List.dropWhile, hb]
    | false =>
      have e1 : (x :: l).dropWhile blankF = x :: l := by simp [List.dropWhile, hb]
      rw [e1, hR]
      by_cases hn : trimR l = []
      · rw [if_pos hn]
        simp [List.dropWhile, hb]
      · rw [if_neg hn]
        simp [List.dropWhile, hb]

set_option maxHeartbeats 2000000 in
theorem trimRight_calls (w : World) (ao : Option Addr) (cap sb : Nat) (T : List Nat) (h : Byts w (.slice ao T.length cap) T) (hcap : T.length ≤ cap) (hlen : T.length ≤ 1000000000)
    (hset : ∀ x, x < 256 → w.cell? ⟨sb, x, none⟩ = some (.bool (blankF x))) :
    Calls Tryd.prog 61 #[.slice ao T.length cap, .pointer (some ⟨sb, 0, none⟩)] w fun e w' => ∃ k, k ≤ T.length ∧ T.take k = trimR T ∧ e = .returned (.slice ao k cap) ∧ w' = w := by
  have H := hide h
  have HS := hide hset
  clear hset
  go_enter Tryd.func61, Tryd.ntmps61
  go_wp2
  go_loopg [0] T.length (fun g s0 wx => ∃ k : Nat, k ≤ g ∧ k ≤ T.length ∧ s0 = .slice ao k cap ∧ trimR (T.take k) = trimR T ∧ wx = w)
  case atStart => exact ⟨T.length, Nat.le_refl _, Nat.le_refl _, rfl, by rw [List.take_length], rfl⟩
  case round =>
    obtain ⟨k, hkg, hk, rfl, hpre, hwr⟩ := hrel
    rw [hwr]
    clear hwr
    have HP := hide hpre
    clear hpre
    by_cases h0 : k = 0
    · subst h0
      clear h hkg
      go_wp2
      go_ret
      exact ⟨0, Nat.zero_le _, by rw [← HP.out]; rfl, rfl, rfl⟩
    · obtain ⟨j, rfl⟩ : ∃ j, k = j + 1 := ⟨k - 1, by omega⟩
      obtain ⟨ao', c', e', hb, hc⟩ := h
      cases e'
      obtain ⟨b, off, rfl, hcell⟩ := hc j (by omega)
      have hx := nth_lt hb j
      have HX := hide (take_snoc (T := T) (k := j) (by omega))
      have hset := HS.out (nth T j) hx
      clear hc hb
      have HC := hide (contains_calls w sb (nth T j) _ hx hset)
      clear hset
      generalize nth T j = x at *
      have d1 : (0 : Int) < ((j + 1 : Nat) : Int) := by omega
      have e1 : ((j + 1 : Nat) : Int) - 1 = (j : Int) := by omega
      have d2 : (0 : Int) ≤ (j : Int) := by omega
      have d3 : (j : Int) < ((j + 1 : Nat) : Int) := by omega
      have q1 := fun W : World => cut_front W (some ⟨b, off, none⟩) (j + 1) cap j (by omega)
      have HK := hide hk
      have HG := hide hkg
      have hjb : j ≤ 1000000000 := by omega
      clear hk hkg h0
      go_wp2_with fail
      refine HC.out.mono ?_
      rintro e w1 ⟨rfl, hw⟩
      rw [hw]
      clear hw
      cases hbl : blankF x with
      | false =>
        go_wp2
        go_ret
        refine ⟨j + 1, HK.out, ?_, rfl, rfl⟩
        rw [← HP.out, HX.out, trimR_snoc, hbl]
        simp
      | true =>
        go_wp2
        go_roundg (gk - 1)
        case measure => have := HG.out; omega
        case rel =>
          refine ⟨j, by have := HG.out; omega, by have := HK.out; omega, rfl, ?_, rfl⟩
          rw [← HP.out, HX.out, trimR_snoc, hbl]
          simp

set_option maxHeartbeats 2000000 in
theorem trimLeft_calls (w : World) (ao : Option Addr) (cap sb : Nat) (T : List Nat) (h : Byts w (.slice ao T.length cap) T) (hcap : T.length ≤ cap) (hlen : T.length ≤ 1000000000)
    (hset : ∀ x, x < 256 → w.cell? ⟨sb, x, none⟩ = some (.bool (blankF x))) :
    Calls Tryd.prog 60 #[.slice ao T.length cap, .pointer (some ⟨sb, 0, none⟩)] w fun e w' => ∃ ao' cap', e = .returned (.slice ao' (T.dropWhile blankF).length cap') ∧ Byts w (.slice ao' (T.dropWhile blankF).length cap') (T.dropWhile blankF) ∧ w' = w := by
  have HS := hide hset
  have H := hide h
  have HC0 := hide hcap
  have HL := hide hlen
  clear hset h hcap hlen
  go_enter Tryd.func60, Tryd.ntmps60
  go_wp2
  go_loopg [0] T.length (fun g s0 wx => ∃ (T' : List Nat) (a' : Option Addr) (c' : Nat), T'.length ≤ g ∧ T'.length ≤ c' ∧ T'.length ≤ 1000000000 ∧ s0 = .slice a' T'.length c' ∧ Byts w (.slice a' T'.length c') T' ∧ T'.dropWhile blankF = T.dropWhile blankF ∧ wx = w)
  case atStart => exact ⟨T, ao, cap, Nat.le_refl _, HC0.out, HL.out, rfl, H.out, rfl, rfl⟩
  case round =>
    obtain ⟨T', a', c', hg, hcap, hlen, rfl, hB, hpre, hwr⟩ := hrel
    rw [hwr]
    clear hwr
    have HP := hide hpre
    have HG := hide hg
    clear hpre hg
    cases T' with
    | nil =>
      clear hB
      go_wp2
      go_ret
      have e : T.dropWhile blankF = [] := HP.out.symm
      rw [e]
      exact ⟨none, 0, rfl, ⟨none, 0, rfl, fun x hx => by simp at hx, fun j hj => by simp at hj⟩, rfl⟩
    | cons x l =>
      have HB := hide hB
      obtain ⟨ao', c'', e', hb, hc⟩ := hB
      cases e'
      obtain ⟨b, off, rfl, hcell⟩ := hc 0 (by simp)
      have hx : x < 256 := hb x (by simp)
      have e0 : nth (x :: l) 0 = x := rfl
      rw [e0, Nat.add_zero] at hcell
      have HC := hide (contains_calls w sb x _ hx (HS.out x hx))
      clear hc hb e0
      have hl : (x :: l).length = l.length + 1 := rfl
      have HR := hide (HB.out.rest (f := 1) (by simp) hcap)
      have q1 : ∀ W : World, (Instr.slice 25 (.slice (some ⟨b, off, none⟩) (x :: l).length c') (some (.int .i64 1)) none none).run Tryd.prog W = .ok (.slice (if c' = 1 then some (⟨b, off, none⟩ : Addr) else (some (⟨b, off, none⟩ : Addr)).map (·.add 1)) ((x :: l).length - 1) (c' - 1)) W := fun W => cut_rest W (some ⟨b, off, none⟩) (x :: l).length c' 1 (by simp) hcap
      generalize hn : (x :: l).length = n at *
      have d1 : (0 : Int) < (n : Int) := by omega
      generalize hA : (if c' = 1 then some (⟨b, off, none⟩ : Addr) else (some (⟨b, off, none⟩ : Addr)).map (·.add 1)) = aR at *
      have HN := hide hn
      have HL1 := hide hl
      have HCC := hide hcap
      have HLE := hide hlen
      clear hn hl hcap hlen hA
      go_wp2_with fail
      refine HC.out.mono ?_
      rintro e w1 ⟨rfl, hw⟩
      rw [hw]
      clear hw
      cases hbl : blankF x with
      | false =>
        have hnz : ((n : Int) == 0) = false := beq_eq_false_iff_ne.2 (by omega)
        go_wp2
        go_ret
        have e : T.dropWhile blankF = x :: l := by rw [← HP.out]; simp [List.dropWhile, hbl]
        rw [e, HN.out]
        exact ⟨some ⟨b, off, none⟩, c', rfl, HB.out, rfl⟩
      | true =>
        go_wp2
        go_roundg (gk - 1)
        case measure => have := HG.out; have := HN.out; have := HL1.out; omega
        case rel =>
          have e1 : n - 1 = l.length := by have := HL1.out; omega
          refine ⟨l, aR, c' - 1, by have := HG.out; have := HN.out; have := HL1.out; omega, by have := HCC.out; have := HL1.out; omega, by have := HLE.out; have := HL1.out; omega, by rw [e1], ?_, ?_, rfl⟩
          · have := HR.out
            rw [e1] at this
            exact this
          · rw [← HP.out]
            simp [List.dropWhile, hbl]

set_option maxHeartbeats 4000000 in
theorem trim_calls (w : World) (ao : Option Addr) (cap : Nat) (T : List Nat) (h : Byts w (.slice ao T.length cap) T) (hcap : T.length ≤ cap) (hlen : T.length ≤ 1000000000) :
    Calls Tryd.prog 48 #[.slice ao T.length cap, .string blankStr] w fun e w' => ∃ ao' cap', e = .returned (.slice ao' (trimF T).length cap') ∧ Byts w' (.slice ao' (trimF T).length cap') (trimF T) ∧ Below w.heap.size w w' := by
  by_cases h0 : T.length = 0
  · obtain rfl : T = [] := List.length_eq_zero_iff.1 h0
    clear h
    show Calls Tryd.prog 48 #[.slice ao 0 cap, .string blankStr] w _
    go_enter Tryd.func48, Tryd.ntmps48
    go_wp2
    go_ret
    exact ⟨none, 0, rfl, ⟨none, 0, rfl, fun x hx => by simp [trimF] at hx, fun j hj => by simp [trimF] at hj⟩, Below.refl _ _⟩
  · have H := hide h
    have hn0 : ((T.length : Int) == 0) = false := beq_eq_false_iff_ne.2 (by omega)
    have hemp := blankEmp
    have hn1 := blankOne
    have hz := zeroSet
    have hsz := setCells_size blankStr.data.toList
    have hM := hide (makeSet_calls w blankStr (by rw [blankStr_size]; omega) blankL)
    have HS := hide (fun x (hx : x < 256) => bset_at hx)
    have hst := run_storeCells_new (P := Tryd.prog) (w.alloc (.cells (setCells blankStr.data.toList) 91)) 91 (Array.replicate 256 (.bool false)) (setCells blankStr.data.toList) (by rw [hsz]; exact sizeSet) (by rw [hsz]; simp) (setCells_one _)
    simp only [World.size_alloc] at hst
    generalize hC : setCells blankStr.data.toList = C at *
    clear hC h h0
    go_enter Tryd.func48, Tryd.ntmps48
    go_wp2_with (go_at_call 59; refine hM.out.mono ?_; rintro e w' ⟨rfl, hw⟩; rw [hw]; clear hw)
    try (simp only [hst, Result.andThen]; rw [Oper.upon_skip]; go_wp2_with fail)
    clear hM hst
    have hB0 : Below w.heap.size w ((w.alloc (.cells C 91)).alloc (.cells C 91)) := ((Below.refl _ w).alloc (Nat.le_refl _) _).alloc (by simp) _
    have KB := hide hB0
    have HC : ∀ x, x < 256 → ((w.alloc (.cells C 91)).alloc (.cells C 91)).cell? ⟨w.heap.size + 1, x, none⟩ = some (.bool (blankF x)) := fun x hx => by
      rw [World.cell?_alloc_at _ _ _ _ (by simp), HS.out x hx]
    have HT := H.out.below hB0
    generalize (w.alloc (.cells C 91)).alloc (.cells C 91) = w2 at *
    refine (trimRight_calls w2 ao cap (w.heap.size + 1) T HT hcap hlen HC).mono ?_
    rintro e w3 ⟨k, hk, hkT, rfl, hw⟩
    rw [hw]
    clear hw
    have hlk : (T.take k).length = k := by simp; omega
    have HF := HT.front hk
    have HLc := trimLeft_calls w2 ao cap (w.heap.size + 1) (T.take k) (by rw [hlk]; exact HF) (by rw [hlk]; omega) (by rw [hlk]; omega) HC
    rw [hlk, hkT, trim_comm] at HLc
    have HL := hide HLc
    clear HLc HF HT HC hlk hkT
    go_wp2_with fail
    refine HL.out.mono ?_
    rintro e w4 ⟨a4, c4, rfl, hB4, hw⟩
    rw [hw]
    clear hw
    have HB4 := hide hB4
    clear hB4
    go_wp2
    go_ret
    exact ⟨a4, c4, rfl, HB4.out, KB.out⟩

end Go.Proofs.YtnflbplhokodjaaDoor
