/- Json: the reader: wrong, next, skipBlanks, take, takes, ended; number. -/
import Derived.Test.YtbdpmpepmjpadaaGreatDoorJMem
import Derived.Test.YtbdpmpepmjpadaaGreatDoorJNum
import Derived.BigQuiet
import Derived.Deep.CutRange
namespace Go.Proofs.YtbdpmpepmjpadaaGreatDoor
set_option linter.unusedVariables false
set_option linter.unusedSimpArgs false
set_option maxRecDepth 100000
open Go Go.RowKit Go.Shelf Go.Lib

/-- A reader: its text, how far it is read, how many are open. -/
def RdJ (w : World) (R : Nat) (sv : Value) (p d : Nat) : Prop := BoxC w R 101 #[sv, .int .i64 (p : Int), .int .i64 (d : Int)]
/-- What the reader is given up with. -/
def faultV (p : Nat) (e : Int) : Value := .iface 97 (.agg #[.int .i64 (p : Int), .int .i64 e])
/-- A fault, told by a panic. -/
def PanJ (p : Nat) (e : Int) (n : Ending) : Prop := n = .panicked [{ v := faultV p e, recovered := false }]
def wrongE (T : List Nat) (p : Nat) : Int := if p = T.length then 11 else 6

theorem bdrewN {n : Nat} {w W : World} (h : Below n w W) (k : Nat) : Below n w (W.drewN k) := by
  induction k with
  | zero => exact h
  | succ k ih => exact ih.drew

set_option maxHeartbeats 2000000 in
theorem wrong_calls (w : World) (R p q d : Nat) (ao : Option Addr) (cap : Nat) (T : List Nat) (hr : RdJ w R (.slice ao T.length cap) q d) :
    Calls Tryz.prog 89 #[.pointer (some ⟨R, 0, none⟩), .int .i64 (p : Int)] w fun e w' => PanJ p (wrongE T p) e ∧ w' = w := by
  have c0 : w.cell? ⟨R, 0, none⟩ = some (.slice ao T.length cap) := hr.cell 0
  have lR := hr.lt
  clear hr
  by_cases hp : p = T.length
  · have HE : Hid (wrongE T p = 11) := if_pos hp
    have d1 : ((p : Int) == (T.length : Int)) = true := by rw [hp]; simp
    rw [HE.out]
    clear hp
    go_enter Tryz.func89, Tryz.ntmps89
    go_wp2
    exact ⟨rfl, rfl, rfl⟩
  · have HE : Hid (wrongE T p = 6) := if_neg hp
    have d1 : ((p : Int) == (T.length : Int)) = false := beq_eq_false_iff_ne.2 (by omega)
    rw [HE.out]
    clear hp
    go_enter Tryz.func89, Tryz.ntmps89
    go_wp2
    exact ⟨rfl, rfl, rfl⟩

/-- What is there to read: bytes that lie apart from the reader. -/
structure TxJ (w : World) (R : Nat) (ao : Option Addr) (cap : Nat) (T : List Nat) : Prop where
  byts : Byts w (.slice ao T.length cap) T
  off : ∀ a, ao = some a → a.block ≠ R
  len : T.length ≤ 1000000
  cap : T.length ≤ cap
theorem TxJ.fr {w w' : World} {R : Nat} {ao : Option Addr} {cap : Nat} {T : List Nat} (h : TxJ w R ao cap T) (k : Fr R none w w') : TxJ w' R ao cap T :=
  ⟨h.byts.fr k (fun a e => ⟨h.off a e, by simp⟩), h.off, h.len, h.cap⟩
theorem RdJ.sets {w : World} {R p d q : Nat} {sv : Value} (h : RdJ w R sv p d) : RdJ (w.setCell ⟨R, 1, none⟩ (.int .i64 (q : Int))) R sv q d := BoxC.set h 1 _
theorem RdJ.below {w w' : World} {R p d : Nat} {sv : Value} (h : RdJ w R sv p d) (hb : Below w.heap.size w w') : RdJ w' R sv p d := BoxC.below h hb

set_option maxHeartbeats 2000000 in
theorem next_some (w : World) (R p d : Nat) (ao : Option Addr) (cap : Nat) (T : List Nat) (hr : RdJ w R (.slice ao T.length cap) p d) (hT : TxJ w R ao cap T) (hp : p < T.length) :
    Calls Tryz.prog 64 #[.pointer (some ⟨R, 0, none⟩)] w fun e w' => e = .returned (.int .u8 ((nth T p : Nat) : Int)) ∧ Below w.heap.size w w' := by
  have c0 : w.cell? ⟨R, 0, none⟩ = some (.slice ao T.length cap) := hr.cell 0
  have c1 : w.cell? ⟨R, 1, none⟩ = some (.int .i64 (p : Int)) := hr.cell 1
  have lR := hr.lt
  obtain ⟨ao', cap', e, hb, hc⟩ := hT.byts
  cases e
  obtain ⟨b, off, rfl, cx⟩ := hc p hp
  have d1 : ((p : Int) == (T.length : Int)) = false := beq_eq_false_iff_ne.2 (by omega)
  have d2 : (p : Int) < (T.length : Int) := by omega
  have d0 : (0 : Int) ≤ (p : Int) := by omega
  generalize nth T p = x at *
  clear hr hT hp hc hb
  go_enter Tryz.func64, Tryz.ntmps64
  go_wp2
  go_quiet (fail)
  go_wp2
  go_quiet (fail)
  go_wp2
  go_ret
  exact ⟨rfl, bdrewN (bdrewN (Below.refl _ _) _) _⟩

set_option maxHeartbeats 2000000 in
theorem next_none (w : World) (R d : Nat) (ao : Option Addr) (cap : Nat) (T : List Nat) (hr : RdJ w R (.slice ao T.length cap) T.length d) :
    Calls Tryz.prog 64 #[.pointer (some ⟨R, 0, none⟩)] w fun e w' => PanJ T.length 11 e ∧ Below w.heap.size w w' := by
  have c0 : w.cell? ⟨R, 0, none⟩ = some (.slice ao T.length cap) := hr.cell 0
  have c1 : w.cell? ⟨R, 1, none⟩ = some (.int .i64 (T.length : Int)) := hr.cell 1
  have HW : Hid (∀ W, Below w.heap.size w W → Calls Tryz.prog 89 #[.pointer (some ⟨R, 0, none⟩), .int .i64 (T.length : Int)] W fun e w' => PanJ T.length 11 e ∧ w' = W) := fun W hW => by
    have h := wrong_calls W R T.length T.length d ao cap T (hr.below hW)
    rw [show wrongE T T.length = 11 from if_pos rfl] at h
    exact h
  have lR := hr.lt
  have d1 : ((T.length : Int) == (T.length : Int)) = true := by simp
  clear hr
  go_enter Tryz.func64, Tryz.ntmps64
  go_wp2
  go_quiet (fail)
  go_wp2_with fail
  refine (HW.out _ (bdrewN (Below.refl _ _) _)).mono ?_
  rintro e w1 ⟨he, hw⟩
  rw [hw, show e = _ from he]
  clear hw he
  go_wp2
  exact ⟨rfl, rfl, bdrewN (Below.refl _ _) _⟩

/-- Where the blanks end that begin at a place. -/
def blS : List UInt8 := [32, 9, 10, 13]
def blF (T : List Nat) : Nat → Nat → Nat
  | 0, p => p
  | n + 1, p => if hasB T p blS then blF T n (p + 1) else p
def blEnd (T : List Nat) (p : Nat) : Nat := blF T T.length p
theorem blF_is {T : List Nat} {q : Nat} (hq : hasB T q blS = false) : ∀ (n p : Nat), p ≤ q → q ≤ n + p → (∀ j, p ≤ j → j < q → hasB T j blS = true) → blF T n p = q := by
  intro n
  induction n with
  | zero =>
    intro p h1 h2 h3
    show p = q
    omega
  | succ n ih =>
    intro p h1 h2 h3
    show (if hasB T p blS then blF T n (p + 1) else p) = q
    by_cases e : p = q
    · rw [e, hq]; rfl
    · rw [h3 p (Nat.le_refl _) (by omega)]
      exact ih (p + 1) (by omega) (by omega) (fun j h4 h5 => h3 j (by omega) h5)
theorem blEnd_is {T : List Nat} {p q : Nat} (h1 : p ≤ q) (h3 : ∀ j, p ≤ j → j < q → hasB T j blS = true) (hq : hasB T q blS = false) : blEnd T p = q := by
  refine blF_is hq T.length p h1 ?_ h3
  by_cases e : p = q
  · omega
  · have := hasB_lt (h3 (q - 1) (by omega) (by omega))
    omega
/-- Where a reader stands. -/
def rdAt (W : World) (R : Nat) : Nat := match W.cell? ⟨R, 1, none⟩ with
  | some (.int _ i) => i.toNat
  | _ => 0
theorem RdJ.at {w : World} {R p d : Nat} {sv : Value} (h : RdJ w R sv p d) : rdAt w R = p := by
  unfold rdAt
  rw [show w.cell? ⟨R, 1, none⟩ = some (.int .i64 (p : Int)) from h.cell 1]
  simp

set_option maxHeartbeats 4000000 in
theorem skipBlanks_calls (w : World) (R p d : Nat) (ao : Option Addr) (cap : Nat) (T : List Nat) (hr : RdJ w R (.slice ao T.length cap) p d) (hT : TxJ w R ao cap T) (hp : p ≤ T.length) :
    Calls Tryz.prog 49 #[.pointer (some ⟨R, 0, none⟩)] w fun e w' => e = .returned (.tuple #[]) ∧ RdJ w' R (.slice ao T.length cap) (blEnd T p) d ∧ blEnd T p ≤ T.length ∧ Fr R none w w' := by
  go_enter Tryz.func49, Tryz.ntmps49
  go_wp2
  go_loopg [] (T.length - p) (fun g wr => ∃ k : Nat, p ≤ k ∧ k ≤ T.length ∧ g = T.length - k ∧ (∀ j, p ≤ j → j < k → hasB T j blS = true) ∧ RdJ wr R (.slice ao T.length cap) k d ∧ Fr R none w wr)
  case atStart => exact ⟨p, Nat.le_refl _, hp, rfl, fun j h1 h2 => by omega, hr, Fr.refl _ _ _⟩
  case round =>
    obtain ⟨k, hk0, hk, hgk, h3, hrk, hf⟩ := hrel
    have HGK := hide hgk
    clear hgk
    have hTk := hT.fr hf
    have c0 : wr.cell? ⟨R, 0, none⟩ = some (.slice ao T.length cap) := hrk.cell 0
    have c1 : wr.cell? ⟨R, 1, none⟩ = some (.int .i64 (k : Int)) := hrk.cell 1
    have f1 : wr.frozen? ⟨R, 1, none⟩ = false := hrk.frozen 1
    have lR := hrk.lt
    have H3 := hide h3
    have HRK := hide hrk
    have HF := hide hf
    have HL := hide hTk.len
    clear h3 hrk hf hr
    by_cases hlt : k < T.length
    · obtain ⟨ao', cap', e, hb, hc⟩ := hTk.byts
      cases e
      obtain ⟨b, off, rfl, cx⟩ := hc k hlt
      have d1 : decide ((k : Int) < (T.length : Int)) = true := decide_eq_true (by omega)
      have d2 : (k : Int) < (T.length : Int) := by omega
      have d0 : (0 : Int) ≤ (k : Int) := by omega
      have HE : Hid (hasB T k blS = decide ((0 : Int) ≤ indexByte blS (UInt8.ofNat (nth T k)))) := by
        unfold hasB Hid
        rw [decide_eq_true hlt, Bool.true_and]
      have HS : Hid (∀ W, Calls Tryz.prog 71 #[.string ⟨#[32, 9, 10, 13]⟩, .int .u8 ((nth T k : Nat) : Int)] W fun e w' => e = .returned (.int .i64 (indexByte blS (UInt8.ofNat (nth T k)))) ∧ w' = W) := fun W => sindex_calls W ⟨#[32, 9, 10, 13]⟩ (nth T k)
      generalize nth T k = x at *
      generalize indexByte blS (UInt8.ofNat x) = z at *
      clear hc hb hT hTk
      by_cases hz : (0 : Int) ≤ z
      · have hz' : decide (z ≥ (0 : Int)) = true := decide_eq_true hz
        rw [decide_eq_true hz] at HE
        have HZ := hide hz
        clear hz
        obtain ⟨k1, hk1⟩ : ∃ k1, k + 1 = k1 := ⟨_, rfl⟩
        have e1 : (k : Int) + 1 = (k1 : Int) := by omega
        have g1 : (k1 : Int) ≤ 1000000000 := by have := HL.out; omega
        have HK1 := hide hk1
        clear hk1
        go_wp2
        go_quiet (first | (go_at_call 71; refine Calls.quiet_of_same (HS.out _)))
        go_wp2
        go_roundg (T.length - k1)
        case measure => have := HGK.out; have := HK1.out; omega
        case rel =>
          have := HK1.out
          refine ⟨k1, by omega, by omega, rfl, fun j h1 h2 => ?_, ?_, ?_⟩
          · rcases Nat.lt_succ_iff_lt_or_eq.1 (show j < k + 1 by omega) with g | g
            · exact H3.out j h1 g
            · rw [g]; exact HE.out
          · exact (HRK.out.below (bdrewN (Below.refl _ _) _)).sets (q := k1)
          · exact (HF.out.then (bdrewN (Below.refl _ _) _)).set 1 _
      · have hz' : decide (z ≥ (0 : Int)) = false := decide_eq_false hz
        rw [decide_eq_false hz] at HE
        have HZ := hide hz
        clear hz
        go_wp2
        go_quiet (first | (go_at_call 71; refine Calls.quiet_of_same (HS.out _)))
        go_wp2
        go_end0
        have e := blEnd_is hk0 H3.out HE.out
        refine ⟨rfl, ?_, ?_, ?_⟩
        · rw [e]; exact HRK.out.below (bdrewN (Below.refl _ _) _)
        · rw [e]; exact hk
        · exact HF.out.then (bdrewN (Below.refl _ _) _)
    · obtain rfl : k = T.length := by omega
      have d1 : decide ((T.length : Int) < (T.length : Int)) = false := decide_eq_false (by omega)
      have d2 : ¬ (T.length : Int) < (T.length : Int) := by omega
      clear hT hTk
      go_wp2
      go_quiet (fail)
      go_wp2
      go_end0
      have e := blEnd_is hk0 H3.out (show hasB T T.length blS = false by unfold hasB; simp)
      refine ⟨rfl, ?_, ?_, ?_⟩
      · rw [e]; exact HRK.out.below (bdrewN (Below.refl _ _) _)
      · rw [e]; exact Nat.le_refl _
      · exact HF.out.then (bdrewN (Below.refl _ _) _)

end Go.Proofs.YtbdpmpepmjpadaaGreatDoor
