/- Frame: a header's line. -/
import Derived.Test.YtnflbplhokodjaaDoorFLen
import Derived.Test.YtnflbplhokodjaaDoorFFold
import Derived.Test.YtnflbplhokodjaaDoorShelf
import Derived.Lib.IndexBytes
namespace Go.Proofs.YtnflbplhokodjaaDoor
set_option linter.unusedVariables false
set_option linter.unusedSimpArgs false
set_option maxRecDepth 100000
open Go Go.RowKit Go.Shelf Go.Lib

def ints (T : List Nat) : List Int := T.map (fun x : Nat => (x : Int))
theorem ints_length (T : List Nat) : (ints T).length = T.length := by simp [ints]
theorem ints_at {T : List Nat} {i : Nat} (h : i < T.length) : (ints T).getD i 0 = ((nth T i : Nat) : Int) := by simp [ints, nth, List.getD, h]
theorem ints_byte {T : List Nat} (h : ∀ x ∈ T, x < 256) : ∀ x ∈ ints T, 0 ≤ x ∧ x < 256 := by
  intro x hx
  obtain ⟨n, hn, rfl⟩ := List.mem_map.1 hx
  have := h n hn
  omega
theorem bytesOf_ints (T : List Nat) : Lib.bytesOf (ints T) = T.map UInt8.ofNat := by simp [Lib.bytesOf, ints]
theorem Byts.into {w : World} {ao : Option Addr} {cap : Nat} {T : List Nat} (h : Byts w (.slice ao T.length cap) T) : Lib.BytesIn w ao T.length (ints T) := by
  intro hn
  obtain ⟨ao', c, e, h1, h2⟩ := h
  cases e
  obtain ⟨b, off, rfl, _⟩ := h2 0 hn
  refine ⟨b, off, rfl, fun i hi => ?_⟩
  obtain ⟨b', off', e, hc⟩ := h2 i hi
  cases e
  rw [hc, ints_at hi]

theorem ofNat_eq {x : Nat} (hx : x < 256) (k : Nat) (hk : k < 256) : (UInt8.ofNat x = UInt8.ofNat k) ↔ x = k := by
  constructor
  · intro h
    have := congrArg UInt8.toNat h
    simp at this
    omega
  · intro h; rw [h]

theorem suffix_one {T : List Nat} (hT : ∀ x ∈ T, x < 256) : Lib.hasSuffix (T.map UInt8.ofNat) [13] = decide (T.getLast? = some 13) := by
  unfold Lib.hasSuffix
  rcases List.eq_nil_or_concat T with rfl | ⟨l, x, rfl⟩
  · rfl
  · have hx : x < 256 := hT x (by simp)
    have e := ofNat_eq hx 13 (by decide)
    rw [List.concat_eq_append, List.map_append, List.getLast?_append]
    by_cases q : x = 13
    · subst q
      simp [List.isSuffixOf, List.isPrefixOf]
    · have q2 : UInt8.ofNat x ≠ 13 := fun h => q (e.1 h)
      simp [List.isSuffixOf, List.isPrefixOf, q, Ne.symm q2]

set_option maxHeartbeats 1000000 in
/-- bytes.CutSuffix with the byte 13. -/
theorem cutR_calls (w : World) (ao : Option Addr) (cap sb : Nat) (T : List Nat) (h : Byts w (.slice ao T.length cap) T) (hcap : T.length ≤ cap) (hlen : T.length ≤ 1000000000) (hs : w.cell? ⟨sb, 0, none⟩ = some (.int .u8 13)) :
    Calls Tryd.prog 30 #[.slice ao T.length cap, .slice (some ⟨sb, 0, none⟩) 1 1] w fun e w' => ((T.getLast? = some 13 ∧ e = .returned (.tuple #[.slice ao (T.length - 1) cap, .bool true])) ∨ (T.getLast? ≠ some 13 ∧ e = .returned (.tuple #[.slice ao T.length cap, .bool false]))) ∧ w' = w := by
  have hT := h.small
  by_cases h0 : T.length = 0
  · obtain rfl : T = [] := List.length_eq_zero_iff.1 h0
    refine (Tryd.bytes_CutSuffix_e1 ao (some ⟨sb, 0, none⟩) cap 1 1 (by decide) w).mono ?_
    rintro e w' ⟨rfl, rfl⟩
    exact ⟨.inr ⟨by simp, rfl⟩, rfl⟩
  · obtain ⟨ao', c, e, h1, h2⟩ := h
    cases e
    obtain ⟨b, off, rfl, _⟩ := h2 0 (by omega)
    refine (Tryd.bytes_CutSuffix b off T.length cap sb 0 1 1 (ints T) [13] w (ints_length T) rfl hcap (by omega) (fun i hi => ?_) (fun i hi => ?_)).mono ?_
    · obtain ⟨b', off', e, hc⟩ := h2 i hi
      cases e
      rw [hc, ints_at hi]
    · obtain rfl : i = 0 := by omega
      exact hs
    · rintro e w' ⟨rfl, rfl⟩
      have hb : Lib.bytesOf [13] = [13] := rfl
      have hh := suffix_one hT
      refine ⟨?_, rfl⟩
      rw [bytesOf_ints, hb]
      by_cases q : T.getLast? = some 13
      · refine .inl ⟨q, ?_⟩
        rw [hh, decide_eq_true q]
        unfold Lib.bytesTrimSuffix
        rw [bytesOf_ints, hb, hh, decide_eq_true q]
        simp [Lib.sliceTo]
      · refine .inr ⟨q, ?_⟩
        rw [hh, decide_eq_false q]
        unfold Lib.bytesTrimSuffix
        rw [bytesOf_ints, hb, hh, decide_eq_false q]
        simp

theorem index_colon {T : List Nat} (hT : ∀ x ∈ T, x < 256) : Lib.index (T.map UInt8.ofNat) [58] = if (T.takeWhile (· ≠ 58)).length = T.length then -1 else (((T.takeWhile (· ≠ 58)).length : Nat) : Int) := by
  rw [Lib.index_one]
  induction T with
  | nil => rfl
  | cons x l ih =>
    have hx : x < 256 := hT x (by simp)
    have e := ofNat_eq hx 58 (by decide)
    have ih' := ih (fun y hy => hT y (by simp [hy]))
    rw [List.map_cons]
    unfold Lib.indexByte
    by_cases q : x = 58
    · subst q
      simp [List.takeWhile]
    · have q2 : (UInt8.ofNat x == 58) = false := beq_eq_false_iff_ne.2 (fun h => q (e.1 h))
      have q3 : (decide (x ≠ 58)) = true := by simp [q]
      rw [q2, ih', List.takeWhile_cons, if_pos q3]
      simp only [List.length_cons, Nat.add_right_cancel_iff]
      by_cases k : (l.takeWhile (· ≠ 58)).length = l.length
      · rw [if_pos k, if_pos k]; rfl
      · rw [if_neg k, if_neg k]
        have : ((((l.takeWhile (· ≠ 58)).length : Nat) : Int) == -1) = false := beq_eq_false_iff_ne.2 (by omega)
        rw [this]
        simp

/-- What bytes.Cut answers at the first colon. -/
def ColonR (ao : Option Addr) (cap : Nat) (T : List Nat) (e : Ending) : Prop :=
  ((T.takeWhile (· ≠ 58)).length = T.length ∧ e = .returned (.tuple #[.slice ao T.length cap, .slice none 0 0, .bool false])) ∨
  ((T.takeWhile (· ≠ 58)).length ≠ T.length ∧ e = .returned (.tuple #[.slice ao (T.takeWhile (· ≠ 58)).length cap, .slice (if cap = (T.takeWhile (· ≠ 58)).length + 1 then ao else ao.map (·.add ((T.takeWhile (· ≠ 58)).length + 1))) (T.length - ((T.takeWhile (· ≠ 58)).length + 1)) (cap - ((T.takeWhile (· ≠ 58)).length + 1)), .bool true]))
theorem while_le (T : List Nat) : (T.takeWhile (· ≠ 58)).length ≤ T.length := by
  have := List.takeWhile_prefix (p := (· ≠ 58)) (l := T)
  exact this.length_le
theorem while_take (T : List Nat) : T.take (T.takeWhile (· ≠ 58)).length = T.takeWhile (· ≠ 58) := by
  have := List.takeWhile_prefix (p := (· ≠ 58)) (l := T)
  exact (List.prefix_iff_eq_take.1 this).symm

theorem cutC_calls (w : World) (ao : Option Addr) (cap sb : Nat) (T : List Nat) (h : Byts w (.slice ao T.length cap) T) (hcap : T.length ≤ cap) (h0 : ao = none → cap = 0) (hlen : T.length ≤ 1000000000) (hs : w.cell? ⟨sb, 0, none⟩ = some (.int .u8 58)) (hK : Know w) :
    Calls Tryd.prog 37 #[.slice ao T.length cap, .slice (some ⟨sb, 0, none⟩) 1 1] w fun e w' => ColonR ao cap T e ∧ Below w.heap.size w w' := by
  obtain ⟨m, hm⟩ := hK.2.2
  refine (Tryd.bytes_Cut_all ao (some ⟨sb, 0, none⟩) T.length cap 1 1 (ints T) [58] m w (ints_length T) rfl (ints_byte h.small) (by simp) h.into (fun _ => ⟨sb, 0, rfl, fun i hi => by
    obtain rfl : i = 0 := by omega
    exact hs⟩) h0 hcap (by omega) (by decide) hm).mono ?_
  rintro e w' ⟨rfl, q, rfl⟩
  have hq : Below w.heap.size w (w.drewN q) := by
    induction q with
    | zero => exact Below.refl _ _
    | succ k ih => exact ih.drew
  refine ⟨?_, hq⟩
  rw [bytesOf_ints, show Lib.bytesOf [58] = [58] from rfl, index_colon h.small]
  unfold ColonR Lib.cutV Lib.fromV
  by_cases k : (T.takeWhile (· ≠ 58)).length = T.length
  · refine .inl ⟨k, ?_⟩
    rw [if_pos k]
    rfl
  · refine .inr ⟨k, ?_⟩
    rw [if_neg k, if_pos (by omega)]
    rfl

def hsI : HS → Int
  | .opn => 0
  | .whole => 1
  | .none => 2
/-- The cells of a reader. -/
def rcells (st sz lv : Value) (told : Bool) (len : Nat) (left bv : Value) : Array Value := #[st, sz, lv, .bool told, .int .i64 (len : Int), left, bv]
def EndR (h : Hd) (T : List Nat) (w : World) (R : Nat) (st sz lv left bv : Value) (e : Ending) (w' : World) : Prop :=
  e = .returned (.int .i64 (hsI (endLineL h T).1)) ∧ BoxC w' R 48 (rcells st sz lv (endLineL h T).2.told (endLineL h T).2.length left bv) ∧ Fr R none w w'
theorem endR_of {h : Hd} {T : List Nat} {w w' : World} {R : Nat} {st sz lv left bv : Value} {s : HS} {told : Bool} {len : Nat} (he : ∃ h', endLineL h T = (s, h') ∧ h'.told = told ∧ h'.length = len)
    (hb : BoxC w' R 48 (rcells st sz lv told len left bv)) (hf : Fr R none w w') : EndR h T w R st sz lv left bv (.returned (.int .i64 (hsI s))) w' := by
  obtain ⟨h', e, rfl, rfl⟩ := he
  unfold EndR
  rw [e]
  exact ⟨rfl, hb, hf⟩

end Go.Proofs.YtnflbplhokodjaaDoor
