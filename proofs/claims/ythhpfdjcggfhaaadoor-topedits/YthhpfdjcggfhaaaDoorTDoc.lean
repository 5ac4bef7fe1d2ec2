/- A document: Open, Bytes, Edits. -/
import Derived.Test.YthhpfdjcggfhaaaDoorTClone
namespace Go.Proofs.YthhpfdjcggfhaaaDoor
set_option linter.unusedVariables false
set_option linter.unusedSimpArgs false
set_option maxRecDepth 100000
open Go Go.RowKit Go.Shelf Go.Lib

/-- A document in memory: its version, its body, its edits. -/
def DocAt (W : World) (D : Nat) (ver : Int) (ao : Option Addr) (n c : Nat) (lo : Option Addr) (ln lc : Nat) (eo : Option Addr) (en ec : Nat) : Prop :=
  BoxC W D 43 #[.int .i64 ver, .slice ao n c, .slice lo ln lc, .slice eo en ec]

set_option maxHeartbeats 4000000 in
theorem open_calls (w : World) (ver : Int) (T : List Nat) (N : Nat) (hK : Know w) (hT : T.length ≤ 1048576)
    (hx : ∀ x ∈ T, x < 256) (n1 : ∀ k, k < N → posL T k < T.length) (n2 : posL T N = T.length) (n3 : ∀ k, k < N → runeAt T (posL T k) ≠ -1) :
    Calls Tryd.prog 10 #[.int .i64 ver, .string (strOf T)] w fun e w' => ∃ D b c lo ln lc, e = .returned (.tuple #[.pointer (some ⟨D, 0, none⟩), .int .i64 0]) ∧ w.heap.size ≤ D ∧ D < w'.heap.size ∧ DocAt w' D ver (some ⟨b, 0, none⟩) T.length c lo ln lc none 0 0 ∧ Body w' (some ⟨b, 0, none⟩) c (.slice lo ln lc) T ∧ Below w.heap.size w w' := by
  have HK := hide hK
  have HN1 := hide n1
  have HN2 := hide n2
  have HN3 := hide n3
  obtain ⟨cx, w1, hconv, hbx, hb1, hsz1⟩ := conv_str w T hx
  have hsz : (strOf T).size = T.length := strOf_size T
  have HY := hide hbx
  have HB1 := hide hb1
  have HSZ := hide hsz1
  have d1 : ¬ (T.length : Int) > 1048576 := by omega
  clear hK n1 n2 n3 hbx hb1 hsz1
  generalize strOf T = sx at *
  go_enter Tryd.func10, Tryd.ntmps10
  go_wp2_with fail
  refine (valid_calls w1 _ cx T N HY.out.1 (HK.out.below HB1.out).tabs HN1.out HN2.out (by omega) HY.out.2.1).mono ?_
  rintro e w2 ⟨at', er, rfl, hto, hb2⟩
  obtain rfl : er = 0 := by
    rcases hto with ⟨k, hk, _, h2, _⟩ | ⟨_, _, h⟩
    · exact absurd h2 (HN3.out k hk)
    · exact h
  have HY2 := hide (HY.out.below hb2)
  have HB2 := hide (bafter HB1.out hb2 (by have := HB1.out.size; omega))
  have HL2 := hide (show w.heap.size < w2.heap.size by have := HSZ.out; have := hb2.size; omega)
  clear hto hb2 HY hconv
  go_wp2_with fail
  refine (bodyOf_calls w2 _ cx T HY2.out (by omega)).mono ?_
  rintro e w3 ⟨lo, ln, lc, rfl, hbd, hf, hb3⟩
  have HBD := hide hbd
  have HFR := hide hf
  have HB3 := hide (bafter HB2.out hb3 (by have := HB2.out.size; omega))
  have HL3 := hide (show w.heap.size < w3.heap.size by have := HL2.out; have := hb3.size; omega)
  clear hbd hf hb3
  go_wp2
  go_ret2
  exact ⟨w3.heap.size, w.heap.size, cx, lo, ln, lc, rfl, Nat.le_of_lt HL3.out, by simp, BoxC.new w3 _ _, HBD.out.below (bel w3 _), bafter HB3.out (bel w3 _) (by have := HB3.out.size; omega)⟩

set_option maxHeartbeats 4000000 in
theorem bytes_calls (w : World) (D : Nat) (ver : Int) (a : Addr) (c : Nat) (T : List Nat) (lo : Option Addr) (ln lc : Nat) (eo : Option Addr) (en ec : Nat) (hD : DocAt w D ver (some a) T.length c lo ln lc eo en ec) (h : Byt w (some a) c T) (hlen : T.length ≤ 100000000) :
    Calls Tryd.prog 15 #[.pointer (some ⟨D, 0, none⟩)] w fun e w' => ∃ ao c, e = .returned (.slice ao T.length c) ∧ Byt w' ao c T ∧ Below w.heap.size w w' := by
  have H := hide h
  have c1 : w.cell? ⟨D, 1, none⟩ = some (.slice (some a) T.length c) := BoxC.cell hD 1
  clear h hD
  go_enter Tryd.func15, Tryd.ntmps15
  go_wp2_with fail
  refine (bclone_calls w a c T H.out hlen).mono ?_
  rintro e w1 ⟨ao, c', rfl, hy, hb⟩
  have HY := hide hy
  have HB := hide hb
  clear hy hb
  go_wp2
  go_ret
  exact ⟨_, _, rfl, HY.out, HB.out⟩

set_option maxHeartbeats 4000000 in
theorem dedits_calls (w : World) (D : Nat) (ver : Int) (ao : Option Addr) (n c : Nat) (lo : Option Addr) (ln lc : Nat) (b off ec : Nat) (L : List Ed) (hD : DocAt w D ver ao n c lo ln lc (some ⟨b, off, none⟩) L.length ec) (h : EdsIn w (.slice (some ⟨b, off, none⟩) L.length ec) L) (hlen : L.length ≤ 1000000) :
    Calls Tryd.prog 16 #[.pointer (some ⟨D, 0, none⟩)] w fun e w' => ∃ rv, e = .returned rv ∧ EdsIn w' rv L ∧ Below w.heap.size w w' := by
  have H := hide h
  have c1 : w.cell? ⟨D, 3, none⟩ = some (.slice (some ⟨b, off, none⟩) L.length ec) := BoxC.cell hD 3
  clear h hD
  go_enter Tryd.func16, Tryd.ntmps16
  go_wp2_with fail
  refine (eclone_calls w b off ec L H.out hlen).mono ?_
  rintro e w1 ⟨rv, rfl, hy, hb⟩
  have HY := hide hy
  have HB := hide hb
  clear hy hb
  go_wp2
  go_ret
  exact ⟨_, rfl, HY.out, HB.out⟩

end Go.Proofs.YthhpfdjcggfhaaaDoor
