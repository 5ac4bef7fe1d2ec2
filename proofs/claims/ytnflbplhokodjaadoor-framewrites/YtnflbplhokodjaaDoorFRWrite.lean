/- Frame: the reference's Write. -/
import Derived.Test.YtnflbplhokodjaaDoorFPcs
namespace Go.Proofs.YtnflbplhokodjaaDoor
set_option linter.unusedVariables false
set_option linter.unusedSimpArgs false
set_option maxRecDepth 100000
open Go Go.RowKit Go.Shelf Go.Lib

theorem digL_step (m : Nat) (D : List Nat) : (if m / 10 = 0 then (48 + m % 10) :: D else digL (m / 10) ++ ((48 + m % 10) :: D)) = digL m ++ D := by
  by_cases q : m < 10
  · rw [if_pos (by omega), digL_small q, show 48 + m % 10 = 48 + m by omega]
    rfl
  · rw [if_neg (by omega), digL_big q, List.append_assoc]
    rfl
theorem strOf_some {D : List Nat} (h : D ≠ []) : (strOf D).toList.isEmpty = false := by
  rw [toList_data, strOf_list]
  cases D with
  | nil => exact (h rfl).elim
  | cons x l => rfl
theorem str_nil : strOf [] = ⟨#[]⟩ := rfl
def emptyV : Value → Nat
  | .string s => if s.size = 0 then 1 else 0
  | _ => 0
theorem emptyV_no {s : ByteArray} (h : 0 < s.size) : emptyV (.string s) = 0 := if_neg (by omega)
/-- Digits under way: those that are left of a number, and those that stand already. -/
def DigR (n m : Nat) (D : List Nat) : Prop := (D = [] ∧ m = n) ∨ (D ≠ [] ∧ (if m = 0 then D else digL m ++ D) = digL n)
theorem DigR.len {n m : Nat} {D : List Nat} (h : DigR n m D) (hn : n < 10000000000) : D.length ≤ 10 := by
  have h3 := (digL_ok hn).2.2.1
  rcases h with ⟨rfl, _⟩ | ⟨_, h⟩
  · exact Nat.zero_le _
  · rw [← h] at h3
    split at h3
    · exact h3
    · rw [List.length_append] at h3; omega
theorem DigR.next {n m : Nat} {D : List Nat} (h : DigR n m D) (hm : 0 < m ∨ D = []) : DigR n (m / 10) ((48 + m % 10) :: D) := by
  refine .inr ⟨by simp, ?_⟩
  rw [digL_step]
  rcases h with ⟨rfl, rfl⟩ | ⟨h0, h⟩
  · rw [List.append_nil]
  · rw [if_neg (by rcases hm with q | q; omega; exact absurd q h0)] at h
    exact h

set_option maxHeartbeats 8000000 in
theorem rwrite_calls (w : World) (ao : Option Addr) (cap : Nat) (T : List Nat) (h : Byts w (.slice ao T.length cap) T) (hlen : T.length ≤ 100000000) :
    Calls Tryd.prog 16 #[.slice ao T.length cap] w fun e w' => ∃ a' c', e = .returned (.slice (some a') (headL (digL T.length) ++ T).length c') ∧ Byts w' (.slice (some a') (headL (digL T.length) ++ T).length c') (headL (digL T.length) ++ T) ∧ Below w.heap.size w w' := by
  have HT := hide h
  clear h
  go_enter Tryd.func16, Tryd.ntmps16
  go_wp2
  go_loopw [3, 4] (fun sv mv wr => ∃ (m : Nat) (D : List Nat), mv = .int .i64 (m : Int) ∧ sv = .string (strOf D) ∧ m ≤ T.length ∧ DigR T.length m D ∧ Below w.heap.size w wr) (fun sv mv _ => (RowKit.intOf mv).toNat + emptyV sv)
  case atStart => exact ⟨T.length, [], rfl, rfl, Nat.le_refl _, .inl ⟨rfl, rfl⟩, Below.refl _ _⟩
  case round =>
    obtain ⟨m, D, rfl, rfl, hmn, hdig, hbr⟩ := hrel
    have HBR := hide hbr
    have hDl := hdig.len (by omega)
    have HDG := hide hdig
    clear hbr hdig
    by_cases hgo : 0 < m ∨ D = []
    · obtain ⟨d, hd⟩ : ∃ d, m % 10 = d := ⟨_, rfl⟩
      obtain ⟨q, hq⟩ : ∃ q, m / 10 = q := ⟨_, rfl⟩
      obtain ⟨x, hx⟩ : ∃ x, 48 + d = x := ⟨_, rfl⟩
      have e1 : (m : Int).tmod 10 = (d : Int) := by rw [Int.tmod_eq_emod_of_nonneg (by omega)]; omega
      have e2 : (m : Int).tdiv 10 = (q : Int) := by rw [Int.tdiv_eq_ediv_of_nonneg (by omega)]; omega
      have e3 : (48 : Int) + (d : Int) = (x : Int) := by omega
      have e4 : IntKind.u8.wrap (x : Int) = (x : Int) := by rw [IntKind.wrap_u8]; omega
      have e5 : (x : Int) % 256 = (x : Int) := by omega
      have hxb : x ≤ 57 := by omega
      have hqb : q ≤ 100000000 := by omega
      have hby := byts_lit wr [x] (by simp; omega) (0, 0)
      have hcv : (convert 25 9 (.slice (some ⟨wr.heap.size, 0, none⟩) 1 1)).run Tryd.prog (wr.alloc (.cells #[.int .u8 (x : Int)] 5)) = .ok (.string (strOf [x])) (wr.alloc (.cells #[.int .u8 (x : Int)] 5)) := conv_byts hby
      have HBX := hide (bel wr (.cells #[.int .u8 (x : Int)] 5))
      have s1 : (strOf [x]).size = 1 := strOf_size [x]
      have s2 : (strOf D).size ≤ 10 := by rw [strOf_size]; exact hDl
      have HSA := hide (strOf_append [x] D)
      have HNX : Hid (DigR T.length q (x :: D)) := by
        have := HDG.out.next hgo
        rw [hd, hq, hx] at this
        exact this
      have HNE : Hid (emptyV (.string (strOf [x] ++ strOf D)) = 0) := emptyV_no (by rw [ByteArray.size_append, s1]; omega)
      have HQ : Hid (q ≤ T.length ∧ (q < m ∨ (m = 0 ∧ q = 0))) := show _ ∧ _ by omega
      have hcond : (0 < m) ∨ (m = 0 ∧ D = []) := by
        rcases hgo with h | h
        · exact .inl h
        · rcases Nat.eq_zero_or_pos m with h0 | h0
          · exact .inr ⟨h0, h⟩
          · exact .inl h0
      have HX48 : Hid (m = 0 → x = 48) := fun q => by subst q; omega
      clear hd hq hx hby hgo
      rcases hcond with h0 | ⟨h0, rfl⟩
      · have e0 : (0 : Int) < (m : Int) := by omega
        generalize strOf [x] = sx at *
        generalize hsD : strOf D = sD at *
        have q3 : ∀ W : World, (Op.stringOp .add sx sD).run Tryd.prog W = .ok (.string (sx ++ sD)) W := fun W => run_string_add_sum W sx sD (by omega)
        have HSD := hide hsD
        clear s1 s2 hsD
        go_wp2
        go_roundw
        case rel => exact ⟨q, x :: D, rfl, by rw [HSA.out]; rfl, HQ.out.1, HNX.out, bafter HBR.out HBX.out (Nat.le_refl _)⟩
        case measure =>
          have h1 := HQ.out
          have h2 := HNE.out
          simp [RowKit.intOf, h2]
          omega
      · subst h0
        have q3 : ∀ W : World, (Op.stringOp .add (strOf [x]) (⟨#[]⟩ : ByteArray)).run Tryd.prog W = .ok (.string (strOf [x] ++ strOf [])) W := fun W => run_string_add_sum W _ _ (by rw [s1]; decide)
        rw [str_nil]
        obtain rfl : q = 0 := by have := HQ.out; omega
        obtain rfl : x = 48 := HX48.out rfl
        have hcv2 : (convert 25 9 (.slice (some ⟨wr.heap.size, 0, none⟩) 1 1)).run Tryd.prog (wr.alloc (.cells #[.int .u8 48] 5)) = .ok (.string (strOf [48])) (wr.alloc (.cells #[.int .u8 48] 5)) := hcv
        have HBX2 : Hid (Below wr.heap.size wr (wr.alloc (.cells #[.int .u8 48] 5))) := HBX.out
        clear hcv e1 e2 e3 e4 e5
        generalize strOf [48] = sx at *
        clear s1 s2
        go_wp2
        go_roundw
        case rel => exact ⟨0, [48], rfl, by rw [HSA.out]; rfl, HQ.out.1, HNX.out, bafter HBR.out HBX2.out (Nat.le_refl _)⟩
        case measure =>
          have h2 := HNE.out
          simp [RowKit.intOf, h2]
          decide
    · obtain rfl : m = 0 := by omega
      have hD0 : D ≠ [] := fun e => hgo (.inr e)
      have hDn : D = digL T.length := by
        rcases HDG.out with ⟨e, _⟩ | ⟨_, e⟩
        · exact absurd e hD0
        · rw [if_pos rfl] at e; exact e
      have hem := strOf_some hD0
      subst hDn
      obtain ⟨d1, d2, d3, _⟩ := digL_ok (n := T.length) (by omega)
      have HHS := hide (head_small d1)
      have HHL := hide (head_length (digL T.length))
      have HS1 : Hid ((⟨#[67, 111, 110, 116, 101, 110, 116, 45, 76, 101, 110, 103, 116, 104, 58, 32]⟩ : ByteArray) ++ strOf (digL T.length) ++ (⟨#[13, 10, 13, 10]⟩ : ByteArray) = strOf (headL (digL T.length))) := by
        show _ = _
        rw [pre_str, post_str, strOf_append, strOf_append, head_eq]
      have hsd : (strOf (digL T.length)).size ≤ 10 := by rw [strOf_size]; exact d3
      have HD3 := hide d3
      clear hgo hD0 HDG d1 d2 d3 hmn hDl
      generalize hDD : digL T.length = D at *
      have HDD := hide hDD
      clear hDD
      generalize strOf D = sD at *
      have q1 : ∀ W : World, (Op.stringOp .add (⟨#[67, 111, 110, 116, 101, 110, 116, 45, 76, 101, 110, 103, 116, 104, 58, 32]⟩ : ByteArray) sD).run Tryd.prog W = .ok (.string ((⟨#[67, 111, 110, 116, 101, 110, 116, 45, 76, 101, 110, 103, 116, 104, 58, 32]⟩ : ByteArray) ++ sD)) W := fun W => run_string_add_sum W _ sD (by show 16 + sD.size ≤ _; omega)
      have q2 : ∀ W : World, (Op.stringOp .add ((⟨#[67, 111, 110, 116, 101, 110, 116, 45, 76, 101, 110, 103, 116, 104, 58, 32]⟩ : ByteArray) ++ sD) (⟨#[13, 10, 13, 10]⟩ : ByteArray)).run Tryd.prog W = .ok (.string ((⟨#[67, 111, 110, 116, 101, 110, 116, 45, 76, 101, 110, 103, 116, 104, 58, 32]⟩ : ByteArray) ++ sD ++ (⟨#[13, 10, 13, 10]⟩ : ByteArray))) W := fun W => run_string_add_sum W _ _ (by rw [ByteArray.size_append]; show 16 + sD.size + 4 ≤ _; omega)
      clear hsd
      obtain ⟨cp, w2, hcv, hby, hcp, hb2, hs2, hsp⟩ := conv_str wr (headL D) HHS.out
      have HB2 := hide (bafter HBR.out hb2 (Nat.le_refl _))
      have hT2 := HT.out.below HB2.out
      have hap := append_bytes w2 25 wr.heap.size cp (headL D) hby hcp hsp ao cap T hT2 (by have := HHL.out; have := HD3.out; omega)
      rw [← HS1.out] at hcv
      have HLN := hide (show (headL D).length + T.length = (headL D ++ T).length from List.length_append.symm)
      have HW1 : Hid (w.heap.size ≤ wr.heap.size ∧ w.heap.size ≤ w2.heap.size) := ⟨HBR.out.size, HB2.out.size⟩
      generalize hnl : (headL D).length = nl at *
      clear hby hcp hsp hb2 hs2 hT2 hnl
      obtain ⟨v', w3, a', c', hrun, hv', hB3, hc3, hblk, hbel⟩ := hap
      go_wp2_with (at_builtin; go_must (refine Lib.wpList_append_run _ rfl _ _ _ _ rfl _ _ rfl rfl _ _ hrun ?_))
      go_ret
      subst hv'
      rw [HLN.out] at hB3
      rw [HDD.out]
      exact ⟨a', c', by rw [← HLN.out]; rfl, hB3, HB2.out.trans (hbel _ HW1.out.1 HW1.out.2)⟩

end Go.Proofs.YtnflbplhokodjaaDoor
