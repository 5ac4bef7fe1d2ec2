/- bytes.IndexAny at the two ends of lines: the first byte 10 or 13. -/
import Derived.Test.YthhpfdjcggfhaaaDoorUIdx1
namespace Go.Proofs.YthhpfdjcggfhaaaDoor
set_option linter.unusedVariables false
set_option linter.unusedSimpArgs false
set_option maxRecDepth 1000000
open Go Go.RowKit Go.Shelf Go.Lib

theorem encode_valid {c k : Nat} (h1 : 128 ≤ c) (h2 : c ≤ 1114111) (hs : (Utf8.encode ((c : Nat) : Int)).size = k) (hk : k = 2) : Utf8.valid ((c : Nat) : Int) = true := by
  by_cases hv : Utf8.valid ((c : Nat) : Int) = true
  · exact hv
  · exfalso
    unfold Utf8.encode at hs
    simp only [hv, Bool.false_eq_true, if_false, Utf8.runeError] at hs
    rw [if_neg (by omega), if_neg (by omega), if_pos (by omega)] at hs
    have : (3 : Nat) = k := hs
    omega

set_option maxHeartbeats 8000000 in
theorem idx_short (es : ByteArray) (hes : es = endsStr) (w : World) (ao : Option Addr) (cap : Nat) (T : List Nat) (h : Byts w (.slice ao T.length cap) T) (hT : Utf8Tabs 1 2 w) (hl : T.length ≤ 8) (hne1 : T.length ≠ 1) (hcap : T.length ≤ cap) (m : Int) (hm : w.cell? ⟨0, 0, none⟩ = some (.int .i64 m)) :
    Calls Tryd.prog 58 #[.slice ao T.length cap, .string es] w fun e w' => ∃ r, e = .returned (.int .i64 r) ∧ Ends T r ∧ Below w.heap.size w w' := by
  have H := hide h
  have HT := hide hT
  have HM := hide hm
  have hb := h.small
  have hemp : es.toList.isEmpty = false := by rw [hes]; exact endsEmp
  have hn1 : ((es.size : Int) == 1) = false := by rw [hes]; exact endsOne
  have hs2 : es.size = 2 := by rw [hes]; rfl
  have HE := hide hes
  have HS2 := hide hs2
  have HB1 : Hid (∀ (c : Int) (w : World), (callFunc 61 #[.string es, .int .u8 c]).run Tryd.prog w = .ok (.value (.int .i64 (indexByte es.data.toList c.toNat.toUInt8))) w) := by rw [hes]; exact run_idxb
  have HB3 : Hid (∀ x : Nat, x < 256 → x = 10 ∨ x = 13 → (0 : Int) ≤ indexByte es.data.toList (UInt8.ofNat x)) := by rw [hes]; exact fun x h1 h2 => idxb_hit h1 h2
  have HB4 : Hid (∀ x : Nat, x < 256 → x ≠ 10 ∧ x ≠ 13 → ¬ (0 : Int) ≤ indexByte es.data.toList (UInt8.ofNat x)) := by rw [hes]; exact fun x h1 h2 => idxb_miss h1 h2
  have HB5 : Hid (∀ (s : ByteArray) (m : Int) (w : World), w.cell? ⟨0, 0, none⟩ = some (.int .i64 m) → 3 ≤ s.size → (s.size : Int) ≤ m → (callFunc 66 #[.string es, .string s]).run Tryd.prog w = .ok (.value (.int .i64 (-1))) w) := by rw [hes]; exact run_idxs
  have HB6 : Hid (∀ (j : Nat) b, es.data.toList[j]? = some b → b.toNat < 128) := by rw [hes]; exact endsL
  clear hes hs2
  have hl1 : ((T.length : Int) == 1) = false := beq_eq_false_iff_ne.2 (by omega)
  have h8z : decide ((8 : Int) < (T.length : Int)) = false := decide_eq_false (by omega)
  clear h hT hm hne1
  go_enter Tryd.func58, Tryd.ntmps58
  go_wp2_with (go_at_call 63; refine (should_calls _ _).mono ?_; rintro e w' ⟨rfl, hw⟩; rw [hw, h8z]; clear hw)
  go_loopw [12] (fun iv wr => ∃ p : Nat, p ≤ T.length ∧ iv = .int .i64 (p : Int) ∧ NoEnd T p ∧ Below w.heap.size w wr) (fun iv _ => T.length - (RowKit.intOf iv).toNat)
  case atStart => exact ⟨0, Nat.zero_le _, rfl, NoEnd.zero T, Below.refl _ _⟩
  case round =>
    obtain ⟨p, hp, rfl, hno, hB⟩ := hrel
    have HN := hide hno
    have KB := hide hB
    clear hno
    by_cases hlt : p < T.length
    · obtain ⟨ao', cap', e, _, hc⟩ := id (H.out.below hB)
      cases e
      obtain ⟨b, off, rfl, c0⟩ := hc p hlt
      have HBy := hide (H.out.below hB)
      have HTb := hide (Utf8Tabs_below HT.out hB)
      have hx := nth_lt hb p
      have hpz : (p : Int) < (T.length : Int) := by omega
      have hpz' : (p : Int) ≤ (T.length : Int) := by omega
      have hp0 : (0 : Int) ≤ (p : Int) := by omega
      have dcap : (T.length : Int) ≤ (cap : Int) := by omega
      obtain ⟨x, hX⟩ : ∃ x, nth T p = x := ⟨_, rfl⟩
      have HX := hide hX
      rw [hX] at c0 hx
      clear hX hc
      have hw32 : IntKind.i32.wrap (x : Int) = (x : Int) := by rw [IntKind.wrap_i32]; omega
      by_cases h7 : x < 128
      · have h7' : (x : Int) < 128 := by omega
        have hib := HB1.out
        clear hb hB
        by_cases hin : x = 10 ∨ x = 13
        · have hge := HB3.out x hx hin
          have HI := hide hin
          clear hin
          go_wp2
          go_ret
          exact ⟨_, rfl, ends_hit HN.out hlt (by rw [HX.out]; exact HI.out), KB.out⟩
        · have hge := HB4.out x hx (not_or.1 hin)
          have HI := hide hin
          clear hin
          go_wp2
          go_roundw
          case rel => exact ⟨p + 1, by omega, by go_num, HN.out.step (by rw [HX.out]; exact not_or.1 HI.out), KB.out⟩
          case measure => simp [RowKit.intOf]; omega
      · have h7' : ¬ (x : Int) < 128 := by omega
        have h128 : 128 ≤ nth T p := by rw [HX.out]; omega
        obtain ⟨s1, s2, s3⟩ := size_bounds hb hlt
        have hwide := dec_wide hb hlt h128
        have hhigh := dec_high hlt h128
        have hS : sizeAt T p = (decL (T.drop p)).2 := rfl
        obtain ⟨R0, hR0⟩ : ∃ R0, (decL (T.drop p)).1 = R0 := ⟨_, rfl⟩
        obtain ⟨S0, hS0⟩ : ∃ S0, (decL (T.drop p)).2 = S0 := ⟨_, rfl⟩
        rw [hS, hS0] at s1 s2 hhigh
        rw [hR0] at s3
        rw [hR0, hS0] at hwide
        have HW := hide hwide
        have HNS : Hid (NoEnd T (p + S0)) := fun j hj => by
          by_cases g : j < p
          · exact HN.out j g
          · exact hhigh j (by omega) hj
        have HR0 := hide hR0
        have HS0 := hide hS0
        clear hwide hhigh hS hR0 hS0 hb hB h128 HX HN
        obtain ⟨Z, hZ⟩ : ∃ Z : Nat, (Z : Int) = (p : Int) + (S0 : Int) := ⟨p + S0, by omega⟩
        go_wp2_with fail
        refine (drune_calls _ _ (T.drop p) (HBy.out.drop (by omega) rfl) HTb.out).mono ?_
        rintro e W2 ⟨rfl, hb2⟩
        rw [HR0.out, HS0.out]
        have HB2 := hide hb2
        have hm2 : W2.cell? ⟨0, 0, none⟩ = some (.int .i64 m) := (hb2.cell (p := ⟨0, 0, none⟩) (block_lt ((KB.out.cell (p := ⟨0, 0, none⟩) (block_lt HM.out)).trans HM.out))).trans ((KB.out.cell (p := ⟨0, 0, none⟩) (block_lt HM.out)).trans HM.out)
        clear hb2 HR0 HS0 HBy HTb
        by_cases hbad : R0 = 65533
        · subst hbad
          have hbad' : (((65533 : Nat) : Int) != 65533) = false := by decide
          obtain ⟨R0, hR⟩ : ∃ R0 : Nat, R0 = 65533 := ⟨_, rfl⟩
          rw [← hR] at hbad' ⊢
          have hR13 : R0 ≥ 128 := by omega
          clear hR
          go_wp2
          go_loopg [15] 2 (fun g s15 wx => ∃ i : Nat, i + g = 2 ∧ wx = W2.iter es i)
          case atStart => exact ⟨0, by omega, rfl⟩
          case round =>
            obtain ⟨i, hig, rfl⟩ := hrel
            cases gk with
            | zero =>
              obtain rfl : i = 2 := by omega
              have hnx := fun ty => run_next_end (P := Tryd.prog) W2 es 2 ty (by rw [HS2.out]; omega)
              go_wp2
              go_roundw
              case rel => exact ⟨p + S0, by omega, by go_num, HNS.out, bafter KB.out (bafter HB2.out (bel _ _) (Nat.le_refl _)) (Nat.le_refl _)⟩
              case measure => simp [RowKit.intOf]; omega
            | succ g =>
              have hi : i < es.size := by rw [HS2.out]; omega
              have hnx := fun ty => run_next_ascii (P := Tryd.prog) W2 es i ty hi (HB6.out i _ (data_getElem? es i hi))
              obtain ⟨y, hy⟩ : ∃ y : UInt8, es[i]'hi = y := ⟨_, rfl⟩
              have hy2 := HB6.out i _ (data_getElem? es i hi)
              rw [hy] at hnx hy2
              have hne : ((R0 : Int) == (y.toNat : Int)) = false := beq_eq_false_iff_ne.2 (by omega)
              clear hy
              go_wp2
              go_roundg g
              case measure => omega
              case rel => exact ⟨i + 1, by omega, rfl⟩
        · have hbad' : ((R0 : Int) != 65533) = true := by simp; omega
          obtain ⟨hw1, hw2, hw3, hw4⟩ := HW.out hbad
          have hR13 : R0 ≥ 128 := by omega
          have HW2 := hide hw2
          clear hw2
          by_cases hS2 : S0 = 2
          · subst hS2
            have hsz : ((es.size : Int) == ((2 : Nat) : Int)) = true := by rw [HS2.out]; decide
            have hstr : (es.toList == (Utf8.encode (R0 : Int)).toList) = false := by
              refine beq_eq_false_iff_ne.2 (fun k => ?_)
              have k2 : endsStr = Utf8.encode (R0 : Int) := by
                rw [HE.out] at k
                rw [toList_data, toList_data] at k
                exact ByteArray.ext (Array.ext' k)
              have := encode_facts (R0 : Int) (encode_valid hw1 s3 HW2.out rfl) (by omega)
              rw [← k2] at this
              exact absurd (this.2.2 (by decide)) (by decide)
            clear HW
            go_wp2
            go_roundw
            case rel => exact ⟨p + 2, by omega, by go_num, HNS.out, bafter KB.out HB2.out (Nat.le_refl _)⟩
            case measure => simp [RowKit.intOf]; omega
          · have hsz : ((es.size : Int) == (S0 : Int)) = false := beq_eq_false_iff_ne.2 (by rw [HS2.out]; omega)
            by_cases hmm : (S0 : Int) ≤ m
            · have hix := HB5.out (Utf8.encode (R0 : Int)) m W2 hm2 (by rw [HW2.out]; omega) (by rw [HW2.out]; exact hmm)
              have hno : ¬ (0 : Int) ≤ -1 := by omega
              clear HW hS2
              go_wp2
              go_roundw
              case rel => exact ⟨p + S0, by omega, by go_num, HNS.out, bafter KB.out HB2.out (Nat.le_refl _)⟩
              case measure => simp [RowKit.intOf]; omega
            · clear HW hS2
              go_wp2
              go_loopg [15] 2 (fun g s15 wx => ∃ i : Nat, i + g = 2 ∧ wx = W2.iter es i)
              case atStart => exact ⟨0, by omega, rfl⟩
              case round =>
                obtain ⟨i, hig, rfl⟩ := hrel
                cases gk with
                | zero =>
                  obtain rfl : i = 2 := by omega
                  have hnx := fun ty => run_next_end (P := Tryd.prog) W2 es 2 ty (by rw [HS2.out]; omega)
                  go_wp2
                  go_roundw
                  case rel => exact ⟨p + S0, by omega, by go_num, HNS.out, bafter KB.out (bafter HB2.out (bel _ _) (Nat.le_refl _)) (Nat.le_refl _)⟩
                  case measure => simp [RowKit.intOf]; omega
                | succ g =>
                  have hi : i < es.size := by rw [HS2.out]; omega
                  have hnx := fun ty => run_next_ascii (P := Tryd.prog) W2 es i ty hi (HB6.out i _ (data_getElem? es i hi))
                  obtain ⟨y, hy⟩ : ∃ y : UInt8, es[i]'hi = y := ⟨_, rfl⟩
                  have hy2 := HB6.out i _ (data_getElem? es i hi)
                  rw [hy] at hnx hy2
                  have hne : ((R0 : Int) == (y.toNat : Int)) = false := beq_eq_false_iff_ne.2 (by omega)
                  clear hy
                  go_wp2
                  go_roundg g
                  case measure => omega
                  case rel => exact ⟨i + 1, by omega, rfl⟩
    · obtain rfl : p = T.length := by omega
      clear hB hb
      go_wp2
      go_ret
      exact ⟨-1, rfl, ends_none HN.out, KB.out⟩

end Go.Proofs.YthhpfdjcggfhaaaDoor
