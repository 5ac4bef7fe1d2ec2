/- utf.Encode: a letter's bytes. -/
import Derived.Test.YtchpnbcagbjnnaaDoorULines
import Derived.Test.YtchpnbcagbjnnaaDoorUOne
import Derived.Test.YtchpnbcagbjnnaaDoorShelf
namespace Go.Proofs.YtchpnbcagbjnnaaDoor
set_option linter.unusedVariables false
set_option linter.unusedSimpArgs false
open Go Go.RowKit Go.Shelf Go.Lib

theorem valid_let (r : Int) : Go.Lib.validRune r = true ↔ isLet r := by
  unfold Go.Lib.validRune isLet
  simp only [decide_eq_true_eq]
  omega
theorem encZ {r : Int} (h : isLet r) : encodeRuneZ r = (encL r.toNat).map (fun z : Nat => (z : Int)) := by
  obtain ⟨h0, h1, h2⟩ := h
  obtain ⟨n, rfl⟩ : ∃ n : Nat, r = (n : Int) := ⟨r.toNat, by omega⟩
  rw [Int.toNat_natCast]
  unfold encL
  by_cases a1 : n < 128
  · rw [if_pos a1, encodeRuneZ_one (by omega) (by omega)]; rfl
  · rw [if_neg a1]
    by_cases a2 : n < 2048
    · rw [if_pos a2, encodeRuneZ_two (by omega) (by omega)]; simp
    · rw [if_neg a2]
      by_cases a3 : n < 65536
      · rw [if_pos a3, encodeRuneZ_three (by omega)]; simp
      · rw [if_neg a3, encodeRuneZ_four (by omega) (by omega)]; simp
theorem encL_small {r : Int} (h : isLet r) : ∀ x ∈ encL r.toNat, x < 256 := by
  intro x hx
  have := encodeRuneZ_byte r (x : Int) (by rw [encZ h]; exact List.mem_map.2 ⟨x, hx, rfl⟩)
  omega
theorem own_byts {n₀ : Nat} {W : World} {v : Value} {T : List Nat} (hT : ∀ x ∈ T, x < 256) (h : W.ownsRow n₀ 5 1 v T.length (T.map (fun z : Nat => Value.int .u8 (z : Int)))) : Byts W v T := by
  rcases h.2 with ⟨rfl, h0⟩ | ⟨g, cap, cur, rfl, hg, hh, hn, hm, hc, ht⟩
  · exact ⟨none, 0, by rw [h0], hT, fun j hj => by omega⟩
  · refine ⟨some ⟨g, 0, none⟩, cap, rfl, hT, fun j hj => ⟨g, 0, rfl, ?_⟩⟩
    have := World.ownsRow.cellAt h j (by omega)
    rw [Nat.zero_add, this]
    simp [nth, hj]

set_option maxRecDepth 100000 in
set_option maxHeartbeats 2000000 in
theorem encode_calls (w : World) (r : Int) (h : isLet r) :
    Calls Tryd.prog 16 #[.int .i32 r] w fun e w' => ∃ v, e = .returned (.tuple #[v, .int .i64 0]) ∧ Byts w' v (encL r.toNat) ∧ Below w.heap.size w w' := by
  have hv : Go.Lib.validRune r = true := (valid_let r).2 h
  have HE := hide (Tryd.utf8_AppendRune_plain w.heap.size (.slice none 0 0) 0 [] r (by have := h.1; omega) (by have := h.2.1; omega) w (World.ownsRow_nil _ _ _ _) (by omega) (Nat.le_refl _))
  have HV := hide (Tryd.utf8_ValidRune r w)
  rw [hv] at HV
  have H := hide h
  clear h hv
  go_enter Tryd.func16, Tryd.ntmps16
  go_wp2_with fail
  refine HV.out.mono ?_
  rintro e w1 ⟨rfl, hw⟩
  rw [hw]
  clear hw HV
  go_wp2_with fail
  refine HE.out.mono ?_
  rintro e w2 ⟨v', rfl, hown, o, hg⟩
  go_wp2
  go_ret2
  have hc : runeCells r = (encL r.toNat).map (fun z : Nat => Value.int .u8 (z : Int)) := by
    unfold runeCells
    rw [encZ H.out, List.map_map]
    rfl
  rw [hc, List.length_map, List.nil_append, Nat.zero_add] at hown
  refine ⟨_, rfl, own_byts (encL_small H.out) hown, ?_⟩
  exact ((Below.refl _ w).alloc (Nat.le_refl _) o).grown hg (by simp) (fun j hj => by cases hj)

set_option maxRecDepth 100000 in
set_option maxHeartbeats 2000000 in
theorem encode_bad (w : World) (r : Int) (h : ¬ isLet r) :
    Calls Tryd.prog 16 #[.int .i32 r] w fun e w' => e = .returned (.tuple #[.slice none 0 0, .int .i64 10]) ∧ w' = w := by
  have hv : Go.Lib.validRune r = false := by
    cases g : Go.Lib.validRune r with
    | false => rfl
    | true => exact absurd ((valid_let r).1 g) h
  have HV := hide (Tryd.utf8_ValidRune r w)
  rw [hv] at HV
  clear h hv
  go_enter Tryd.func16, Tryd.ntmps16
  go_wp2_with fail
  refine HV.out.mono ?_
  rintro e w1 ⟨rfl, hw⟩
  rw [hw]
  clear hw HV
  go_wp2
  go_ret2
  exact ⟨rfl, rfl⟩

end Go.Proofs.YtchpnbcagbjnnaaDoor
