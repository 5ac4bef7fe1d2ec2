/- The reference's Encode: a letter's bytes. -/
import Derived.Test.YtbdpmpepmjpadaaGreatDoorUUnits
namespace Go.Proofs.YtbdpmpepmjpadaaGreatDoor
set_option linter.unusedVariables false
set_option linter.unusedSimpArgs false
set_option maxRecDepth 100000
open Go Go.RowKit Go.Shelf Go.Lib

/-- A number that is a letter's; its bytes. -/
def isLet (r : Int) : Prop := 0 ≤ r ∧ r ≤ 1114111 ∧ ¬ (55296 ≤ r ∧ r ≤ 57343)
def encL (n : Nat) : List Nat :=
  if n < 128 then [n] else if n < 2048 then [192 + n / 64, 128 + n % 64] else if n < 65536 then [224 + n / 4096, 128 + n / 64 % 64, 128 + n % 64] else [240 + n / 262144, 128 + n / 4096 % 64, 128 + n / 64 % 64, 128 + n % 64]

theorem tdivN (n d : Nat) : Int.tdiv (n : Int) (d : Int) = ((n / d : Nat) : Int) := by
  rw [Int.tdiv_eq_ediv_of_nonneg (by omega), Int.natCast_ediv]
theorem tmodN (n d : Nat) : Int.tmod (n : Int) (d : Int) = ((n % d : Nat) : Int) := by
  rw [Int.tmod_eq_emod_of_nonneg (by omega), Int.natCast_emod]

theorem byts_new (W : World) (T : List Nat) (hT : ∀ x ∈ T, x < 256) (t : TypeId) (n : Nat) (hn : n = T.length) (cs : Array Value) (hcs : cs = (T.map (fun z : Nat => Value.int .u8 (z : Int))).toArray) :
    Byts (W.alloc (.cells cs t)) (.slice (some ⟨W.heap.size, 0, none⟩) n n) T := by
  subst hn hcs
  refine ⟨_, _, rfl, hT, fun j hj => ⟨W.heap.size, 0, rfl, ?_⟩⟩
  rw [Nat.zero_add]
  have e := cell_of_row (W.alloc (.cells (T.map (fun z : Nat => Value.int .u8 (z : Int))).toArray t)) W.heap.size j _ _ _ (World.alloc_heap_new W _)
  rw [e]
  simp [nth, List.getElem?_eq_getElem hj]

set_option maxHeartbeats 2000000 in
theorem rencode_bad (w : World) (r : Int) (h : ¬ isLet r) :
    Calls Tryz.prog 100 #[.int .i64 r] w fun e w' => e = .returned (.tuple #[.slice none 0 0, .int .i64 10]) ∧ w' = w := by
  by_cases h1 : r < 0
  · go_enter Tryz.func100, Tryz.ntmps100
    go_wp2
    go_ret2
    exact ⟨rfl, rfl⟩
  by_cases h2 : r > 1114111
  · go_enter Tryz.func100, Tryz.ntmps100
    go_wp2
    go_ret2
    exact ⟨rfl, rfl⟩
  have h3 : r ≥ 55296 := by
    have : 55296 ≤ r ∧ r ≤ 57343 := Classical.byContradiction (fun k => h ⟨by omega, by omega, k⟩)
    omega
  have h4 : r ≤ 57343 := by
    have : 55296 ≤ r ∧ r ≤ 57343 := Classical.byContradiction (fun k => h ⟨by omega, by omega, k⟩)
    omega
  clear h
  go_enter Tryz.func100, Tryz.ntmps100
  go_wp2
  go_ret2
  exact ⟨rfl, rfl⟩

theorem wrapu8 (x : Int) : IntKind.u8.wrap x = x % 256 := by simp [IntKind.wrap, IntKind.bits, IntKind.signed]

set_option maxHeartbeats 4000000 in
theorem rencode_calls (w : World) (n : Nat) (h : isLet (n : Int)) :
    Calls Tryz.prog 100 #[.int .i64 (n : Int)] w fun e w' => ∃ v, e = .returned (.tuple #[v, .int .i64 0]) ∧ Byts w' v (encL n) ∧ Below w.heap.size w w' := by
  obtain ⟨h1, h2, h3⟩ := h
  have g1 : ¬ (n : Int) < 0 := by omega
  have g2 : ¬ (n : Int) > 1114111 := by omega
  have q64 : Int.tdiv (n : Int) 64 = ((n / 64 : Nat) : Int) := tdivN n 64
  have q4096 : Int.tdiv (n : Int) 4096 = ((n / 4096 : Nat) : Int) := tdivN n 4096
  have q26 : Int.tdiv (n : Int) 262144 = ((n / 262144 : Nat) : Int) := tdivN n 262144
  have m64 : Int.tmod (n : Int) 64 = ((n % 64 : Nat) : Int) := tmodN n 64
  have m4096 : Int.tmod ((n / 4096 : Nat) : Int) 64 = ((n / 4096 % 64 : Nat) : Int) := tmodN (n / 4096) 64
  have mm64 : Int.tmod ((n / 64 : Nat) : Int) 64 = ((n / 64 % 64 : Nat) : Int) := tmodN (n / 64) 64
  by_cases g3 : (n : Int) ≥ 55296
  case' pos => have g4 : ¬ (n : Int) ≤ 57343 := by omega
  all_goals clear h3
  · have k1 : ¬ n < 128 := by omega
    have d1 : ¬ (n : Int) < 128 := by omega
    have k2 : ¬ n < 2048 := by omega
    have d2 : ¬ (n : Int) < 2048 := by omega
    by_cases k3 : n < 65536
    · have d3 : (n : Int) < 65536 := by omega
      obtain ⟨a, ha⟩ : ∃ a, a = n / 4096 := ⟨_, rfl⟩
      obtain ⟨b0, hb0⟩ : ∃ b0, b0 = n / 64 := ⟨_, rfl⟩
      obtain ⟨b, hb⟩ : ∃ b, b = b0 % 64 := ⟨_, rfl⟩
      obtain ⟨c, hc⟩ : ∃ c, c = n % 64 := ⟨_, rfl⟩
      have e : encL n = [224 + a, 128 + b, 128 + c] := by unfold encL; rw [if_neg k1, if_neg k2, if_pos k3, ha, hb, hb0, hc]
      rw [e]
      rw [← hb0] at q64 mm64
      rw [← hb] at mm64
      rw [← ha] at q4096
      rw [← hc] at m64
      have w1 : IntKind.u8.wrap (224 + (a : Int)) = ((224 + a : Nat) : Int) := by rw [wrapu8]; omega
      have w2 : IntKind.u8.wrap (128 + (b : Int)) = ((128 + b : Nat) : Int) := by rw [wrapu8]; omega
      have w3 : IntKind.u8.wrap (128 + (c : Int)) = ((128 + c : Nat) : Int) := by rw [wrapu8]; omega
      have hA : 224 + a < 256 := by omega
      have hB : 128 + b < 256 := by omega
      have hC : 128 + c < 256 := by omega
      have hb0' : b0 ≤ 1114111 := by omega
      clear e ha hb hb0 hc q26 m4096
      go_enter Tryz.func100, Tryz.ntmps100
      go_wp2
      go_ret2
      exact ⟨_, rfl, byts_new w [224 + a, 128 + b, 128 + c] (fun x hx => by simp at hx; omega) _ 3 rfl _ (by simp), bel w _⟩
    have d3 : ¬ (n : Int) < 65536 := by omega
    obtain ⟨a, ha⟩ : ∃ a, a = n / 262144 := ⟨_, rfl⟩
    obtain ⟨b0, hb0⟩ : ∃ b0, b0 = n / 4096 := ⟨_, rfl⟩
    obtain ⟨b, hb⟩ : ∃ b, b = b0 % 64 := ⟨_, rfl⟩
    obtain ⟨c0, hc0⟩ : ∃ c0, c0 = n / 64 := ⟨_, rfl⟩
    obtain ⟨c, hc⟩ : ∃ c, c = c0 % 64 := ⟨_, rfl⟩
    obtain ⟨d, hd⟩ : ∃ d, d = n % 64 := ⟨_, rfl⟩
    have e : encL n = [240 + a, 128 + b, 128 + c, 128 + d] := by unfold encL; rw [if_neg k1, if_neg k2, if_neg k3, ha, hb, hb0, hc, hc0, hd]
    rw [e]
    rw [← hc0] at q64 mm64
    rw [← hc] at mm64
    rw [← hb0] at q4096 m4096
    rw [← hb] at m4096
    rw [← ha] at q26
    rw [← hd] at m64
    have w1 : IntKind.u8.wrap (240 + (a : Int)) = ((240 + a : Nat) : Int) := by rw [wrapu8]; omega
    have w2 : IntKind.u8.wrap (128 + (b : Int)) = ((128 + b : Nat) : Int) := by rw [wrapu8]; omega
    have w3 : IntKind.u8.wrap (128 + (c : Int)) = ((128 + c : Nat) : Int) := by rw [wrapu8]; omega
    have w4 : IntKind.u8.wrap (128 + (d : Int)) = ((128 + d : Nat) : Int) := by rw [wrapu8]; omega
    have hA : 240 + a < 256 := by omega
    have hB : 128 + b < 256 := by omega
    have hC : 128 + c < 256 := by omega
    have hD : 128 + d < 256 := by omega
    have hb0' : b0 ≤ 1114111 := by omega
    have hc0' : c0 ≤ 1114111 := by omega
    clear e ha hb hb0 hc hc0 hd
    go_enter Tryz.func100, Tryz.ntmps100
    go_wp2
    go_ret2
    exact ⟨_, rfl, byts_new w [240 + a, 128 + b, 128 + c, 128 + d] (fun x hx => by simp at hx; omega) _ 4 rfl _ (by simp), bel w _⟩
  · by_cases k1 : n < 128
    · have d1 : (n : Int) < 128 := by omega
      have w1 : IntKind.u8.wrap (n : Int) = (n : Int) := by rw [wrapu8]; omega
      have e : encL n = [n] := by unfold encL; rw [if_pos k1]
      rw [e]
      clear e
      go_enter Tryz.func100, Tryz.ntmps100
      go_wp2
      go_ret2
      exact ⟨_, rfl, byts_new w [n] (fun x hx => by simp at hx; omega) _ 1 rfl _ rfl, bel w _⟩
    have d1 : ¬ (n : Int) < 128 := by omega
    by_cases k2 : n < 2048
    · have d2 : (n : Int) < 2048 := by omega
      obtain ⟨a, ha⟩ : ∃ a, a = n / 64 := ⟨_, rfl⟩
      obtain ⟨b, hb⟩ : ∃ b, b = n % 64 := ⟨_, rfl⟩
      have e : encL n = [192 + a, 128 + b] := by unfold encL; rw [if_neg k1, if_pos k2, ha, hb]
      rw [e]
      rw [← ha] at q64
      rw [← hb] at m64
      have w1 : IntKind.u8.wrap (192 + (a : Int)) = ((192 + a : Nat) : Int) := by rw [wrapu8]; omega
      have w2 : IntKind.u8.wrap (128 + (b : Int)) = ((128 + b : Nat) : Int) := by rw [wrapu8]; omega
      have hA : 192 + a < 256 := by omega
      have hB : 128 + b < 256 := by omega
      clear e ha hb q4096 q26 m4096 mm64
      go_enter Tryz.func100, Tryz.ntmps100
      go_wp2
      go_ret2
      exact ⟨_, rfl, byts_new w [192 + a, 128 + b] (fun x hx => by simp at hx; omega) _ 2 rfl _ (by simp), bel w _⟩
    have d2 : ¬ (n : Int) < 2048 := by omega
    have k3 : n < 65536 := by omega
    have d3 : (n : Int) < 65536 := by omega
    obtain ⟨a, ha⟩ : ∃ a, a = n / 4096 := ⟨_, rfl⟩
    obtain ⟨b0, hb0⟩ : ∃ b0, b0 = n / 64 := ⟨_, rfl⟩
    obtain ⟨b, hb⟩ : ∃ b, b = b0 % 64 := ⟨_, rfl⟩
    obtain ⟨c, hc⟩ : ∃ c, c = n % 64 := ⟨_, rfl⟩
    have e : encL n = [224 + a, 128 + b, 128 + c] := by unfold encL; rw [if_neg k1, if_neg k2, if_pos k3, ha, hb, hb0, hc]
    rw [e]
    rw [← hb0] at q64 mm64
    rw [← hb] at mm64
    rw [← ha] at q4096
    rw [← hc] at m64
    have w1 : IntKind.u8.wrap (224 + (a : Int)) = ((224 + a : Nat) : Int) := by rw [wrapu8]; omega
    have w2 : IntKind.u8.wrap (128 + (b : Int)) = ((128 + b : Nat) : Int) := by rw [wrapu8]; omega
    have w3 : IntKind.u8.wrap (128 + (c : Int)) = ((128 + c : Nat) : Int) := by rw [wrapu8]; omega
    have hA : 224 + a < 256 := by omega
    have hB : 128 + b < 256 := by omega
    have hC : 128 + c < 256 := by omega
    have hb0' : b0 ≤ 1114111 := by omega
    clear e ha hb hb0 hc q26 m4096
    go_enter Tryz.func100, Tryz.ntmps100
    go_wp2
    go_ret2
    exact ⟨_, rfl, byts_new w [224 + a, 128 + b, 128 + c] (fun x hx => by simp at hx; omega) _ 3 rfl _ (by simp), bel w _⟩

end Go.Proofs.YtbdpmpepmjpadaaGreatDoor
