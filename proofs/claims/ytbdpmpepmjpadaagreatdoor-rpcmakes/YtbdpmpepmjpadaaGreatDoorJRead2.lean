/- Json: the reader: take, takes, ended; number. -/
import Derived.Test.YtbdpmpepmjpadaaGreatDoorJRead
namespace Go.Proofs.YtbdpmpepmjpadaaGreatDoor
set_option linter.unusedVariables false
set_option linter.unusedSimpArgs false
set_option maxRecDepth 100000
open Go Go.RowKit Go.Shelf Go.Lib

/-- What the reader answers: it stands at q behind it. -/
def AtJ (w : World) (R : Nat) (sv : Value) (q d : Nat) (w' : World) : Prop := RdJ w' R sv q d ∧ Fr R none w w'

set_option maxHeartbeats 2000000 in
theorem take_ok (w : World) (R p d : Nat) (c : Nat) (ao : Option Addr) (cap : Nat) (T : List Nat) (hr : RdJ w R (.slice ao T.length cap) p d) (hT : TxJ w R ao cap T) (hp : p < T.length) (hc : nth T p = c) :
    Calls Tryz.prog 90 #[.pointer (some ⟨R, 0, none⟩), .int .u8 (c : Int)] w fun e w' => e = .returned (.tuple #[]) ∧ AtJ w R (.slice ao T.length cap) (p + 1) d w' := by
  have HN := hide (next_some w R p d ao cap T hr hT hp)
  rw [hc] at HN
  obtain ⟨p1, hp1⟩ : ∃ p1, p + 1 = p1 := ⟨_, rfl⟩
  rw [hp1]
  have e1 : (p : Int) + 1 = (p1 : Int) := by omega
  have g1 : (p1 : Int) ≤ 1000000000 := by have := hT.len; omega
  have dc : ((c : Int) != (c : Int)) = false := by simp
  have HR := hide hr
  clear hr hT hc hp1
  go_enter Tryz.func90, Tryz.ntmps90
  go_wp2_with fail
  refine HN.out.mono ?_
  rintro e w1 ⟨rfl, hB⟩
  have hr1 := HR.out.below hB
  have c1 : w1.cell? ⟨R, 1, none⟩ = some (.int .i64 (p : Int)) := hr1.cell 1
  have f1 : w1.frozen? ⟨R, 1, none⟩ = false := hr1.frozen 1
  have lR := hr1.lt
  have H1 : Hid (AtJ w R (.slice ao T.length cap) p1 d (w1.setCell ⟨R, 1, none⟩ (.int .i64 (p1 : Int)))) := ⟨hr1.sets, (Fr.of hB).set 1 _⟩
  clear hB hr1
  go_wp2
  go_end0
  exact ⟨rfl, H1.out⟩

set_option maxHeartbeats 2000000 in
theorem take_bad (w : World) (R p d : Nat) (c : Nat) (ao : Option Addr) (cap : Nat) (T : List Nat) (hr : RdJ w R (.slice ao T.length cap) p d) (hT : TxJ w R ao cap T) (hp : p < T.length) (hc : nth T p ≠ c) :
    Calls Tryz.prog 90 #[.pointer (some ⟨R, 0, none⟩), .int .u8 (c : Int)] w fun e w' => PanJ p 6 e ∧ Below w.heap.size w w' := by
  have HN := hide (next_some w R p d ao cap T hr hT hp)
  have HW : Hid (∀ W, Below w.heap.size w W → Calls Tryz.prog 89 #[.pointer (some ⟨R, 0, none⟩), .int .i64 (p : Int)] W fun e w' => PanJ p 6 e ∧ w' = W) := fun W hW => by
    have h := wrong_calls W R p p d ao cap T (hr.below hW)
    rw [show wrongE T p = 6 from if_neg (by omega)] at h
    exact h
  generalize nth T p = x at *
  have dc : ((x : Int) != (c : Int)) = true := by simp; omega
  have HR := hide hr
  clear hr hT hc
  go_enter Tryz.func90, Tryz.ntmps90
  go_wp2_with fail
  refine HN.out.mono ?_
  rintro e w1 ⟨rfl, hB⟩
  have hr1 := HR.out.below hB
  have c1 : w1.cell? ⟨R, 1, none⟩ = some (.int .i64 (p : Int)) := hr1.cell 1
  have lR := hr1.lt
  have HB := hide hB
  clear hB hr1
  go_wp2_with fail
  refine (HW.out _ HB.out).mono ?_
  rintro e w2 ⟨he, hw⟩
  rw [hw, show e = _ from he]
  clear hw he
  go_wp2
  exact ⟨rfl, rfl, HB.out⟩

set_option maxHeartbeats 2000000 in
theorem take_end (w : World) (R d : Nat) (c : Nat) (ao : Option Addr) (cap : Nat) (T : List Nat) (hr : RdJ w R (.slice ao T.length cap) T.length d) :
    Calls Tryz.prog 90 #[.pointer (some ⟨R, 0, none⟩), .int .u8 (c : Int)] w fun e w' => PanJ T.length 11 e ∧ Below w.heap.size w w' := by
  have HN := hide (next_none w R d ao cap T hr)
  clear hr
  go_enter Tryz.func90, Tryz.ntmps90
  go_wp2_with fail
  refine HN.out.mono ?_
  rintro e w1 ⟨he, hB⟩
  have HB := hide hB
  rw [show e = _ from he]
  clear hB he
  go_wp2
  exact ⟨rfl, rfl, HB.out⟩

set_option maxHeartbeats 2000000 in
theorem takes_yes (w : World) (R p d : Nat) (c : Nat) (ao : Option Addr) (cap : Nat) (T : List Nat) (hr : RdJ w R (.slice ao T.length cap) p d) (hT : TxJ w R ao cap T) (hp : p < T.length) (hc : nth T p = c) :
    Calls Tryz.prog 91 #[.pointer (some ⟨R, 0, none⟩), .int .u8 (c : Int)] w fun e w' => e = .returned (.bool true) ∧ AtJ w R (.slice ao T.length cap) (p + 1) d w' := by
  have HN := hide (next_some w R p d ao cap T hr hT hp)
  rw [hc] at HN
  obtain ⟨p1, hp1⟩ : ∃ p1, p + 1 = p1 := ⟨_, rfl⟩
  rw [hp1]
  have e1 : (p : Int) + 1 = (p1 : Int) := by omega
  have g1 : (p1 : Int) ≤ 1000000000 := by have := hT.len; omega
  have dc : ((c : Int) != (c : Int)) = false := by simp
  have HR := hide hr
  clear hr hT hc hp1
  go_enter Tryz.func91, Tryz.ntmps91
  go_wp2_with fail
  refine HN.out.mono ?_
  rintro e w1 ⟨rfl, hB⟩
  have hr1 := HR.out.below hB
  have c1 : w1.cell? ⟨R, 1, none⟩ = some (.int .i64 (p : Int)) := hr1.cell 1
  have f1 : w1.frozen? ⟨R, 1, none⟩ = false := hr1.frozen 1
  have lR := hr1.lt
  have H1 : Hid (AtJ w R (.slice ao T.length cap) p1 d (w1.setCell ⟨R, 1, none⟩ (.int .i64 (p1 : Int)))) := ⟨hr1.sets, (Fr.of hB).set 1 _⟩
  clear hB hr1
  go_wp2
  go_ret
  exact ⟨rfl, H1.out⟩

set_option maxHeartbeats 2000000 in
theorem takes_no (w : World) (R p d : Nat) (c : Nat) (ao : Option Addr) (cap : Nat) (T : List Nat) (hr : RdJ w R (.slice ao T.length cap) p d) (hT : TxJ w R ao cap T) (hp : p < T.length) (hc : nth T p ≠ c) :
    Calls Tryz.prog 91 #[.pointer (some ⟨R, 0, none⟩), .int .u8 (c : Int)] w fun e w' => e = .returned (.bool false) ∧ Below w.heap.size w w' := by
  have HN := hide (next_some w R p d ao cap T hr hT hp)
  generalize nth T p = x at *
  have dc : ((x : Int) != (c : Int)) = true := by simp; omega
  clear hr hT hc
  go_enter Tryz.func91, Tryz.ntmps91
  go_wp2_with fail
  refine HN.out.mono ?_
  rintro e w1 ⟨rfl, hB⟩
  have HB := hide hB
  clear hB
  go_wp2
  go_ret
  exact ⟨rfl, HB.out⟩

set_option maxHeartbeats 2000000 in
theorem takes_end (w : World) (R d : Nat) (c : Nat) (ao : Option Addr) (cap : Nat) (T : List Nat) (hr : RdJ w R (.slice ao T.length cap) T.length d) :
    Calls Tryz.prog 91 #[.pointer (some ⟨R, 0, none⟩), .int .u8 (c : Int)] w fun e w' => PanJ T.length 11 e ∧ Below w.heap.size w w' := by
  have HN := hide (next_none w R d ao cap T hr)
  clear hr
  go_enter Tryz.func91, Tryz.ntmps91
  go_wp2_with fail
  refine HN.out.mono ?_
  rintro e w1 ⟨he, hB⟩
  have HB := hide hB
  rw [show e = _ from he]
  clear hB he
  go_wp2
  exact ⟨rfl, rfl, HB.out⟩

/-- What ended tells: an error at a place; or whether all ends there, and where one goes on. -/
inductive EnR where
  | bad (p : Nat) (e : Int)
  | yes (p : Nat)
  | no (p : Nat)
def endL (T : List Nat) (c p : Nat) (first : Bool) : EnR :=
  if blEnd T p = T.length then .bad T.length 11
  else if nth T (blEnd T p) = c then .yes (blEnd T p + 1)
  else if first then .no (blEnd T p)
  else if nth T (blEnd T p) = 44 then .no (blEnd T (blEnd T p + 1))
  else .bad (blEnd T p) 6
/-- As ended answers it. -/
def EndJ (r : EnR) (w : World) (R : Nat) (sv : Value) (d : Nat) (e : Ending) (w' : World) : Prop := match r with
  | .bad p n => PanJ p n e ∧ Fr R none w w'
  | .yes p => e = .returned (.bool true) ∧ AtJ w R sv p d w'
  | .no p => e = .returned (.bool false) ∧ AtJ w R sv p d w'

set_option maxHeartbeats 4000000 in
theorem ended_calls (w : World) (R p d : Nat) (c : Nat) (first : Bool) (ao : Option Addr) (cap : Nat) (T : List Nat) (hr : RdJ w R (.slice ao T.length cap) p d) (hT : TxJ w R ao cap T) (hp : p ≤ T.length) :
    Calls Tryz.prog 93 #[.pointer (some ⟨R, 0, none⟩), .int .u8 (c : Int), .bool first] w fun e w' => EndJ (endL T c p first) w R (.slice ao T.length cap) d e w' := by
  have HS := hide (skipBlanks_calls w R p d ao cap T hr hT hp)
  have HT := hide hT
  obtain ⟨q, hq⟩ : ∃ q, blEnd T p = q := ⟨_, rfl⟩
  rw [hq] at HS
  obtain ⟨N, hN⟩ : ∃ N, endL T c p first = N := ⟨_, rfl⟩
  rw [hN]
  have HE : Hid (N = if q = T.length then .bad T.length 11 else if nth T q = c then .yes (q + 1) else if first then .no q else if nth T q = 44 then .no (blEnd T (q + 1)) else .bad q 6) := by
    rw [← hN]
    unfold endL Hid
    rw [hq]
  clear hT hr hq hN
  go_enter Tryz.func93, Tryz.ntmps93
  go_wp2_with fail
  refine HS.out.mono ?_
  rintro e w1 ⟨rfl, hr1, hle, hf1⟩
  have HR1 := hide hr1
  have HF1 := hide hf1
  have hT1 := hide (HT.out.fr hf1)
  have HLE := hide hle
  clear hr1 hf1 hle
  by_cases h1 : q = T.length
  · replace HE := HE.out
    rw [if_pos h1] at HE
    replace HE := hide HE
    subst h1
    obtain rfl := HE.out
    clear HE
    go_wp2_with fail
    refine (takes_end w1 R d c ao cap T HR1.out).mono ?_
    rintro e w2 ⟨he, hB⟩
    have HB := hide hB
    rw [show e = _ from he]
    clear hB he
    go_wp2
    exact ⟨rfl, rfl, HF1.out.then HB.out⟩
  · replace HE := HE.out
    rw [if_neg h1] at HE
    replace HE := hide HE
    have HQ : Hid (q < T.length) := by have := HLE.out; unfold Hid; omega
    clear h1
    by_cases h2 : nth T q = c
    · replace HE := HE.out
      rw [if_pos h2] at HE
      replace HE := hide HE
      have H2 := hide h2
      clear h2
      obtain rfl := HE.out
      clear HE
      go_wp2_with fail
      refine (takes_yes w1 R q d c ao cap T HR1.out hT1.out HQ.out H2.out).mono ?_
      rintro e w2 ⟨rfl, hA⟩
      have HA := hide hA
      clear hA
      go_wp2
      go_ret
      exact ⟨rfl, HA.out.1, HF1.out.trans HA.out.2 (.inl rfl)⟩
    · replace HE := HE.out
      rw [if_neg h2] at HE
      replace HE := hide HE
      have H2 := hide h2
      clear h2
      go_wp2_with fail
      refine (takes_no w1 R q d c ao cap T HR1.out hT1.out HQ.out H2.out).mono ?_
      rintro e w2 ⟨rfl, hB⟩
      have HR2 := hide (HR1.out.below hB)
      have HT2 := hide (hT1.out.fr (Fr.of hB))
      have HF2 := hide (HF1.out.then hB)
      clear hB
      cases first with
      | true =>
        replace HE := HE.out
        rw [if_pos rfl] at HE
        replace HE := hide HE
        obtain rfl := HE.out
        clear HE
        go_wp2
        go_ret
        exact ⟨rfl, HR2.out, HF2.out⟩
      | false =>
        replace HE := HE.out
        rw [if_neg (by simp)] at HE
        replace HE := hide HE
        by_cases h3 : nth T q = 44
        · replace HE := HE.out
          rw [if_pos h3] at HE
          replace HE := hide HE
          have H3 := hide h3
          clear h3
          obtain rfl := HE.out
          clear HE
          go_wp2_with fail
          refine (take_ok w2 R q d 44 ao cap T HR2.out HT2.out HQ.out H3.out).mono ?_
          rintro e w3 ⟨rfl, hA⟩
          have HA := hide hA
          clear hA
          go_wp2_with fail
          refine (skipBlanks_calls w3 R (q + 1) d ao cap T HA.out.1 (HT2.out.fr HA.out.2) HQ.out).mono ?_
          rintro e w4 ⟨rfl, hr4, hle, hf4⟩
          have HX : Hid (AtJ w R (.slice ao T.length cap) (blEnd T (q + 1)) d w4) := ⟨hr4, (HF2.out.trans HA.out.2 (.inl rfl)).trans hf4 (.inl rfl)⟩
          clear hr4 hle hf4
          go_wp2
          go_ret
          exact ⟨rfl, HX.out⟩
        · replace HE := HE.out
          rw [if_neg h3] at HE
          replace HE := hide HE
          have H3 := hide h3
          clear h3
          obtain rfl := HE.out
          clear HE
          go_wp2_with fail
          refine (take_bad w2 R q d 44 ao cap T HR2.out HT2.out HQ.out H3.out).mono ?_
          rintro e w3 ⟨he, hB⟩
          have HB := hide hB
          rw [show e = _ from he]
          clear hB he
          go_wp2
          exact ⟨rfl, rfl, HF2.out.then HB.out⟩

end Go.Proofs.YtbdpmpepmjpadaaGreatDoor
