/- The contracts of Parse and Text of numbers with a sign. -/
import Derived.Test.YtlfbhbeoodmccaaDoorBigDiv
import Derived.Test.YtlfbhbeoodmccaaDoorNumText
namespace Go.Proofs.YtlfbhbeoodmccaaDoor
set_option linter.unusedVariables false
set_option linter.unusedSimpArgs false
set_option maxRecDepth 100000
open Go Go.RowKit Go.Shelf Go.Lib

theorem text_res {w : World} {sv : Value} {m : Nat} (hx : Arg w sv m) (htab : TabIs Tryd.prog w "internal/strconv.uint64pow10" .u64 pow10Tab) :
    Calls Tryd.prog 60 #[sv] w fun e w' => e = .returned (.string ⟨(decDigits m).toArray⟩) ∧ Below w.heap.size w w' := by
  obtain ⟨xs, h1, h2, rfl⟩ := hx
  have := text_calls w sv xs h1 h2 htab
  rw [textOf_eq] at this
  exact this

theorem minus_cat (T : List UInt8) : (⟨#[45]⟩ : ByteArray) ++ ⟨T.toArray⟩ = ⟨(45 :: T).toArray⟩ := by
  apply ByteArray.ext
  rw [ByteArray.data_append]
  simp

theorem digits_bound {W : World} {v : Value} {n : Nat} (h : Arg W v n) : (decDigits n).length ≤ 10485761 := by
  obtain ⟨k, hk, hlt⟩ := h.bound
  have h1 : n < 10 ^ (10 * k + 1) := Nat.lt_of_lt_of_le hlt (Nat.le_trans (pow_R_le k) (Nat.pow_le_pow_right (by decide) (by omega)))
  have := decDigits_len h1 (by omega)
  omega

set_option maxHeartbeats 1000000 in
theorem btext_calls {w : World} {v : Value} {z : Int} (hv : BArg w v z) (htab : TabIs Tryd.prog w "internal/strconv.uint64pow10" .u64 pow10Tab) :
    Calls Tryd.prog 35 #[v] w fun e w' => e = .returned (.string ⟨(itoa z).toArray⟩) ∧ Below w.heap.size w w' := by
  obtain ⟨neg, mv, n, rfl, hm, hz⟩ := hv
  obtain ⟨a, L, c, rfl⟩ := hm.shape
  have T0 := hide (Two.new w (.bool neg) (.slice a L c) 24)
  have HB := hide (bel w (.cells #[.bool neg, .slice a L c] 24))
  have Hm := hide (hm.below HB.out)
  have Ha := hide (show BArg _ (.agg #[.bool neg, .slice a L c]) z from ⟨neg, _, n, rfl, Hm.out, hz⟩)
  have Ht := hide (tab_keep htab HB.out)
  have hza : z.natAbs = n := by rw [hz]; unfold sgn; split <;> simp
  have Hza := hide hza
  have hdl := digits_bound hm
  have hdl' : ¬ 9223372036854775807 < 1 + (decDigits n).length := by omega
  clear hm hz hza htab hdl
  by_cases h0 : z < 0
  · have hs : sg z = -1 := sg_neg h0
    have Hi : Hid (itoa z = 45 :: decDigits n) := by
      show _ = _
      unfold itoa
      rw [if_pos h0, Hza.out]
    clear h0
    go_enter Tryd.func35, Tryd.ntmps35
    go_wp2_with fail
    refine (sign_calls Ha.out).mono ?_
    rintro e w1 ⟨rfl, hb1⟩
    rw [hs]
    have c1 := (T0.out.keep hb1).c1
    go_wp2_with fail
    refine (text_res (Hm.out.below hb1) (tab_keep Ht.out hb1)).mono ?_
    rintro e w2 ⟨rfl, hb2⟩
    go_wp2
    go_ret
    exact ⟨by rw [Hi.out, ← minus_cat]; rfl, bafter (bafter HB.out hb1 (Nat.le_refl _)) hb2 (Nat.le_refl _)⟩
  · have hs : ¬ sg z < 0 := by
      unfold sg
      rw [if_neg h0]
      split <;> omega
    have Hi : Hid (itoa z = decDigits n) := by
      show _ = _
      unfold itoa
      rw [if_neg h0]
      congr 1
      have := Hza.out
      omega
    clear h0
    go_enter Tryd.func35, Tryd.ntmps35
    go_wp2_with fail
    refine (sign_calls Ha.out).mono ?_
    rintro e w1 ⟨rfl, hb1⟩
    generalize sg z = sz at *
    have c1 := (T0.out.keep hb1).c1
    go_wp2_with fail
    refine (text_res (Hm.out.below hb1) (tab_keep Ht.out hb1)).mono ?_
    rintro e w2 ⟨rfl, hb2⟩
    go_wp2
    go_ret
    exact ⟨by rw [Hi.out]; rfl, bafter (bafter HB.out hb1 (Nat.le_refl _)) hb2 (Nat.le_refl _)⟩

theorem results_big2 {fn : Func} {i k : Tmp} (h : fn.results = #[.cell i 24, .tmp k]) {tmps : Array Value} {W : World} {b : Nat} {x y : Value} {t : TypeId} {ev : Value} (hp : tmps.getD i undef = .pointer (some ⟨b, 0, none⟩)) (he : tmps.getD k undef = ev) (T : Two W b x y t) :
    (results fn tmps).run Tryd.prog W = .ok (.tuple #[.agg #[x, y], ev]) W := by
  have c0 := T.c0
  have c1 := T.c1
  have hp' : tmps[i]?.getD undef = .pointer (some ⟨b, 0, none⟩) := by simpa using hp
  have he' : tmps[k]?.getD undef = ev := by simpa using he
  simp [results, h, hp', he', go_sem, c0, c1]

/-- What a text with a sign is worth. -/
def Reads (l : List Nat) (neg : Bool) (n : Nat) : Prop := (neg = true ∧ 0 < l.length ∧ nth l 0 = 45 ∧ IsNum (l.drop 1) ∧ gval (l.drop 1) = n ∧ n ≠ 0) ∨ (neg = false ∧ ¬ (0 < l.length ∧ nth l 0 = 45) ∧ IsNum l ∧ gval l = n)

theorem slice_from1 (s : ByteArray) (h : 0 < s.size) (w : World) :
    (Instr.slice 9 (.string s) (some (.int .i64 1)) none none).run Tryd.prog w = .ok (.string (s.extract 1 s.size)) w := by
  rw [run_slice_string_from_if w 9 s .i64 _ Tryd.underlying9, if_pos ⟨by omega, by omega⟩]
  rfl

theorem bl_tail (s : ByteArray) : bl (s.extract 1 s.size) = (bl s).drop 1 := by
  rw [bl_extract]
  apply List.take_of_length_le
  rw [List.length_drop, bl_length]
  omega

theorem extract_size (s : ByteArray) : (s.extract 1 s.size).size = s.size - 1 := by
  rw [← bl_length, bl_tail, List.length_drop, bl_length]

set_option maxHeartbeats 2000000 in
theorem bparse_calls (s : ByteArray) (w : World) (hs : s.size ≤ 1000) :
    Calls Tryd.prog 34 #[.string s] w fun e w' => ((∃ neg n v, e = .returned (.tuple #[v, .int .i64 0]) ∧ Reads (bl s) neg n ∧ BRes w' v (sgn neg n)) ∨ (e = .returned (.tuple #[.agg #[.bool false, .slice none 0 0], .int .i64 6]) ∧ ∀ neg n, ¬ Reads (bl s) neg n)) ∧ Below w.heap.size w w' := by
  have T0 := hide (Two.new w (.bool false) (.slice none 0 0) 24)
  have HB := hide (bel w (.cells #[.bool false, .slice none 0 0] 24))
  have hlen := hide (bl_length s)
  by_cases hm : 0 < s.size ∧ nth (bl s) 0 = 45
  · obtain ⟨hpos, h45⟩ := hm
    have hb := byte_at s 0 hpos
    have H45 := hide h45
    rw [h45] at hb
    have hpos' : (s.size : Int) > 0 := by omega
    have hsl := slice_from1 s hpos
    have Hsz := hide (extract_size s)
    have Hbt := hide (bl_tail s)
    clear h45
    go_enter Tryd.func34, Tryd.ntmps34
    go_wp2_with fail
    refine (parse_calls (s.extract 1 s.size) _ (by rw [Hsz.out]; omega)).mono ?_
    rintro e w1 ⟨hno, hyes, hb1⟩
    rw [Hbt.out] at hno hyes
    by_cases hN : IsNum ((bl s).drop 1)
    · obtain ⟨mv, rfl, hr⟩ := hyes hN
      have hr' := hr.strong
      obtain ⟨ar, Lr, cr, rfl, hLr⟩ := hr'.shape
      have U0 := hide (T0.out.keep hb1)
      have KU := hide (bafter HB.out hb1 (Nat.le_refl _))
      have HN := hide hN
      have Hr := hide hr'
      have Ha : Hid (Arg w1 (.slice ar Lr cr) (gval ((bl s).drop 1))) := by
        exact hr'.arg (k := ((bl s).drop 1).length) (Nat.lt_of_lt_of_le (gval_lt hN.2.2) (Nat.pow_le_pow_left (by decide) _)) (by rw [List.length_drop, hlen.out]; omega)
      clear hno hyes hr hr' hN hb1 hLr
      by_cases hz : gval ((bl s).drop 1) = 0
      · have Hz := hide hz
        clear hz
        go_wp2_with fail
        refine (isZero_is Ha.out true (by rw [Hz.out]; rfl)).mono ?_
        rintro e w2 ⟨rfl, hb2⟩
        have TZ := U0.out.keep hb2
        have KZ := bafter KU.out hb2 (Nat.le_refl _)
        have d0 := TZ.c0
        have d1 := TZ.c1
        have f0 := TZ.f0 0
        have f1 := TZ.f0 1
        have TZ' := hide TZ
        have KZ' := hide KZ
        clear TZ KZ hb2
        go_wp2
        refine bodyPost_ret (results_big2 rfl rfl rfl (TZ'.out.put _ _)) rfl ?_
        refine ⟨.inr ⟨rfl, ?_⟩, below_put KZ'.out (by omega) _ _⟩
        rintro neg n (⟨_, _, _, _, h5, h6⟩ | ⟨_, h2, _⟩)
        · exact h6 (by rw [← h5]; exact Hz.out)
        · exact h2 ⟨by rw [hlen.out]; exact hpos, H45.out⟩
      · have Hz := hide hz
        clear hz
        go_wp2_with fail
        refine (isZero_is Ha.out false (decide_eq_false Hz.out).symm).mono ?_
        rintro e w2 ⟨rfl, hb2⟩
        have Hr2 := hide (Hr.out.below hb2)
        have U2 := hide (U0.out.keep hb2)
        have K2 := hide (bafter KU.out hb2 (Nat.le_refl _))
        clear hb2 Ha Hr U0 KU
        go_wp2_with fail
        refine (signed_calls Hr2.out).mono ?_
        rintro e w3 ⟨r3, rfl, q3, hb3⟩
        obtain ⟨b3, a3, L3, k3, rfl⟩ := q3.form
        have TZ := U2.out.keep hb3
        have KZ := bafter K2.out hb3 (Nat.le_refl _)
        have d0 := TZ.c0
        have d1 := TZ.c1
        have f0 := TZ.f0 0
        have f1 := TZ.f0 1
        have TZ' := hide TZ
        have KZ' := hide KZ
        clear TZ KZ hb3
        go_wp2
        refine bodyPost_ret (results_big2 rfl rfl rfl (TZ'.out.put _ _)) rfl ?_
        exact ⟨.inl ⟨true, _, _, rfl, .inl ⟨rfl, by rw [hlen.out]; exact hpos, H45.out, HN.out, rfl, Hz.out⟩, q3.put TZ'.out _ _⟩, below_put KZ'.out (by omega) _ _⟩
    · have he := hno hN
      subst he
      have TZ := T0.out.keep hb1
      have KZ := bafter HB.out hb1 (Nat.le_refl _)
      have d0 := TZ.c0
      have d1 := TZ.c1
      have f0 := TZ.f0 0
      have f1 := TZ.f0 1
      have TZ' := hide TZ
      have KZ' := hide KZ
      have HN := hide hN
      clear TZ KZ hb1 hno hyes hN
      go_wp2
      refine bodyPost_ret (results_big2 rfl rfl rfl (TZ'.out.put _ _)) rfl ?_
      refine ⟨.inr ⟨rfl, ?_⟩, below_put KZ'.out (by omega) _ _⟩
      rintro neg n (⟨_, _, _, h4, _⟩ | ⟨_, h2, _⟩)
      · exact HN.out h4
      · exact h2 ⟨by rw [hlen.out]; exact hpos, H45.out⟩
  · have Hm : Hid (¬ (0 < (bl s).length ∧ nth (bl s) 0 = 45)) := by
      show ¬ _
      rw [hlen.out]
      exact hm
    by_cases hpos : 0 < s.size
    · have h45 : ¬ nth (bl s) 0 = 45 := fun e => hm ⟨hpos, e⟩
      have hb := byte_at s 0 hpos
      generalize hc0 : nth (bl s) 0 = c0 at hb h45
      have Hc0 := hide hc0
      have h45' : ((c0 : Int) == 45) = false := beq_eq_false_iff_ne.2 (by omega)
      have hpos' : (s.size : Int) > 0 := by omega
      clear hc0 hm
      go_enter Tryd.func34, Tryd.ntmps34
      go_wp2_with fail
      refine (parse_calls s _ hs).mono ?_
      rintro e w1 ⟨hno, hyes, hb1⟩
      by_cases hN : IsNum (bl s)
      · obtain ⟨mv, rfl, hr⟩ := hyes hN
        have hr' := hr.strong
        obtain ⟨ar, Lr, cr, rfl, hLr⟩ := hr'.shape
        have U2 := hide (T0.out.keep hb1)
        have K2 := hide (bafter HB.out hb1 (Nat.le_refl _))
        have HN := hide hN
        have Hr2 := hide hr'
        clear hno hyes hr hr' hN hb1 hLr
        go_wp2_with fail
        refine (signed_calls Hr2.out).mono ?_
        rintro e w3 ⟨r3, rfl, q3, hb3⟩
        obtain ⟨b3, a3, L3, k3, rfl⟩ := q3.form
        have TZ := U2.out.keep hb3
        have KZ := bafter K2.out hb3 (Nat.le_refl _)
        have d0 := TZ.c0
        have d1 := TZ.c1
        have f0 := TZ.f0 0
        have f1 := TZ.f0 1
        have TZ' := hide TZ
        have KZ' := hide KZ
        clear TZ KZ hb3
        go_wp2
        refine bodyPost_ret (results_big2 rfl rfl rfl (TZ'.out.put _ _)) rfl ?_
        exact ⟨.inl ⟨false, _, _, rfl, .inr ⟨rfl, Hm.out, HN.out, rfl⟩, q3.put TZ'.out _ _⟩, below_put KZ'.out (by omega) _ _⟩
      · have he := hno hN
        subst he
        have TZ := T0.out.keep hb1
        have KZ := bafter HB.out hb1 (Nat.le_refl _)
        have d0 := TZ.c0
        have d1 := TZ.c1
        have f0 := TZ.f0 0
        have f1 := TZ.f0 1
        have TZ' := hide TZ
        have KZ' := hide KZ
        have HN := hide hN
        clear TZ KZ hb1 hno hyes hN
        go_wp2
        refine bodyPost_ret (results_big2 rfl rfl rfl (TZ'.out.put _ _)) rfl ?_
        refine ⟨.inr ⟨rfl, ?_⟩, below_put KZ'.out (by omega) _ _⟩
        rintro neg n (⟨_, h1, h2, _⟩ | ⟨_, _, h3, _⟩)
        · exact Hm.out ⟨h1, h2⟩
        · exact HN.out h3
    · have hs0 : s.size = 0 := by omega
      clear hm hpos
      go_enter Tryd.func34, Tryd.ntmps34
      go_wp2_with fail
      refine (parse_calls s _ hs).mono ?_
      rintro e w1 ⟨hno, hyes, hb1⟩
      by_cases hN : IsNum (bl s)
      · obtain ⟨mv, rfl, hr⟩ := hyes hN
        have hr' := hr.strong
        obtain ⟨ar, Lr, cr, rfl, hLr⟩ := hr'.shape
        have U2 := hide (T0.out.keep hb1)
        have K2 := hide (bafter HB.out hb1 (Nat.le_refl _))
        have HN := hide hN
        have Hr2 := hide hr'
        clear hno hyes hr hr' hN hb1 hLr
        go_wp2_with fail
        refine (signed_calls Hr2.out).mono ?_
        rintro e w3 ⟨r3, rfl, q3, hb3⟩
        obtain ⟨b3, a3, L3, k3, rfl⟩ := q3.form
        have TZ := U2.out.keep hb3
        have KZ := bafter K2.out hb3 (Nat.le_refl _)
        have d0 := TZ.c0
        have d1 := TZ.c1
        have f0 := TZ.f0 0
        have f1 := TZ.f0 1
        have TZ' := hide TZ
        have KZ' := hide KZ
        clear TZ KZ hb3
        go_wp2
        refine bodyPost_ret (results_big2 rfl rfl rfl (TZ'.out.put _ _)) rfl ?_
        exact ⟨.inl ⟨false, _, _, rfl, .inr ⟨rfl, Hm.out, HN.out, rfl⟩, q3.put TZ'.out _ _⟩, below_put KZ'.out (by omega) _ _⟩
      · have he := hno hN
        subst he
        have TZ := T0.out.keep hb1
        have KZ := bafter HB.out hb1 (Nat.le_refl _)
        have d0 := TZ.c0
        have d1 := TZ.c1
        have f0 := TZ.f0 0
        have f1 := TZ.f0 1
        have TZ' := hide TZ
        have KZ' := hide KZ
        have HN := hide hN
        clear TZ KZ hb1 hno hyes hN
        go_wp2
        refine bodyPost_ret (results_big2 rfl rfl rfl (TZ'.out.put _ _)) rfl ?_
        refine ⟨.inr ⟨rfl, ?_⟩, below_put KZ'.out (by omega) _ _⟩
        rintro neg n (⟨_, h1, h2, _⟩ | ⟨_, _, h3, _⟩)
        · exact Hm.out ⟨h1, h2⟩
        · exact HN.out h3

end Go.Proofs.YtlfbhbeoodmccaaDoor
