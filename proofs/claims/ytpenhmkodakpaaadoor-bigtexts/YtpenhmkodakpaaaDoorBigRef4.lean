/- The reference's Parse and Text of numbers with a sign; a text that is read is written as it was. -/
import Derived.Test.YtpenhmkodakpaaaDoorBigRef2
import Derived.Test.YtpenhmkodakpaaaDoorNumBack
import Derived.Test.YtpenhmkodakpaaaDoorRText
import Derived.Test.YtpenhmkodakpaaaDoorRShow
namespace Go.Proofs.YtpenhmkodakpaaaDoor
set_option linter.unusedVariables false
set_option linter.unusedSimpArgs false
set_option maxRecDepth 100000
open Go Go.RowKit Go.Shelf Go.Lib

theorem front_pos {l : List Nat} (hd : AllDig l) (h0 : 0 < l.length) (h : nth l 0 ≠ 48) : 0 < gval l := by
  obtain ⟨x, m, rfl⟩ : ∃ x m, l = x :: m := by
    cases l with
    | nil => simp at h0
    | cons x m => exact ⟨x, m, rfl⟩
  have hx := hd 0 h0
  have e : gval (x :: m) = (x - 48) * 10 ^ m.length + gval m := by
    have := gval_append [x] m
    have e2 : gval [x] = x - 48 := by have := gval_snoc [] x; simp [gval_nil] at this; exact this
    rw [e2] at this
    exact this
  have e3 : nth (x :: m) 0 = x := rfl
  rw [e3] at hx h
  have hp : 0 < 10 ^ m.length := Nat.pow_pos (by decide)
  have := Nat.mul_le_mul (show 1 ≤ x - 48 by omega) (Nat.le_refl (10 ^ m.length))
  omega

theorem num_text : ∀ (k : Nat) (l : List Nat), l.length = k → IsNum l → nums (decDigits (gval l)) = l := by
  intro k
  induction k with
  | zero =>
    intro l hl hN
    have := hN.1
    omega
  | succ k ih =>
    intro l hl hN
    have hne : l ≠ [] := fun e => by rw [e] at hl; simp at hl
    obtain ⟨m, d, rfl⟩ : ∃ m d, l = m ++ [d] := ⟨l.dropLast, l.getLast hne, (List.dropLast_concat_getLast hne).symm⟩
    have hd : 48 ≤ d ∧ d ≤ 57 := hN.2.2.mem d (by simp)
    have hdd : d - 48 < 10 := by omega
    have e1 : nums [UInt8.ofNat (48 + (d - 48))] = [d] := by
      simp only [nums, List.map_cons, List.map_nil, digit_toNat hdd]
      congr 1
      omega
    rw [gval_snoc]
    by_cases h0 : m = []
    · subst h0
      rw [gval_nil, Nat.zero_mul, Nat.zero_add, decDigits_small hdd]
      exact e1
    · have hml : 0 < m.length := List.length_pos_iff.2 h0
      have hfirst : nth (m ++ [d]) 0 = nth m 0 := by
        unfold nth
        rw [List.getElem?_append_left hml]
      have hlead : nth m 0 ≠ 48 := by
        rw [← hfirst]
        exact hN.2.1 (by simp; omega)
      have hall : AllDig m := AllDig.of_mem (fun x hx => hN.2.2.mem x (by simp [hx]))
      have hp := front_pos hall hml hlead
      have hbig : ¬ gval m * 10 + (d - 48) < 10 := by omega
      have e2 : (gval m * 10 + (d - 48)) / 10 = gval m := by omega
      have e3 : (gval m * 10 + (d - 48)) % 10 = d - 48 := by omega
      rw [decDigits_big hbig, e2, e3, nums_append, e1, ih m (by simp at hl; omega) ⟨hml, fun _ => hlead, hall⟩]

theorem nums_inj : ∀ {a b : List UInt8}, nums a = nums b → a = b := by
  intro a
  induction a with
  | nil =>
    intro b h
    cases b with
    | nil => rfl
    | cons y b => simp [nums] at h
  | cons x a ih =>
    intro b h
    cases b with
    | nil => simp [nums] at h
    | cons y b =>
      simp only [nums, List.map_cons, List.cons.injEq] at h
      rw [UInt8.toNat_inj.1 h.1, ih h.2]

theorem reads_text {s : ByteArray} {neg : Bool} {n : Nat} (h : Reads (bl s) neg n) : (⟨(itoa (sgn neg n)).toArray⟩ : ByteArray) = s := by
  have key : nums (itoa (sgn neg n)) = bl s := by
    rcases h with ⟨rfl, h1, h2, h3, h4, h5⟩ | ⟨rfl, h2, h3, h4⟩
    · have e : itoa (sgn true n) = 45 :: decDigits n := by
        unfold itoa sgn
        rw [if_pos rfl, if_pos (by omega), Int.natAbs_neg, Int.natAbs_natCast]
      rw [e]
      have e2 : nums (45 :: decDigits n) = 45 :: nums (decDigits n) := rfl
      rw [e2, ← h4, num_text _ _ rfl h3]
      generalize bl s = l at *
      cases l with
      | nil => simp at h1
      | cons x m =>
        have e3 : nth (x :: m) 0 = x := rfl
        rw [e3] at h2
        rw [h2]
        rfl
    · have e : itoa (sgn false n) = decDigits n := by
        unfold itoa sgn
        rw [if_neg (by simp), if_neg (by simp)]
        simp
      rw [e, ← h4, num_text _ _ rfl h3]
  have h2 : nums s.data.toList = bl s := by simp [bl, nums]
  have h3 : itoa (sgn neg n) = s.data.toList := nums_inj (key.trans h2.symm)
  rw [h3]

theorem results_numE {fn : Func} {i k : Tmp} (h : fn.results = #[.cell i 43, .tmp k]) {tmps : Array Value} {W : World} {b : Nat} {x y : Value} {t : TypeId} {ev : Value} (hp : tmps.getD i undef = .pointer (some ⟨b, 0, none⟩)) (he : tmps.getD k undef = ev) (T : Two W b x y t) :
    (results fn tmps).run Tryd.prog W = .ok (.tuple #[.agg #[x, y], ev]) W := by
  have c0 := T.c0
  have c1 := T.c1
  have hp' : tmps[i]?.getD undef = .pointer (some ⟨b, 0, none⟩) := by simpa using hp
  have he' : tmps[k]?.getD undef = ev := by simpa using he
  simp [results, h, hp', he', go_sem, c0, c1]

set_option maxHeartbeats 2000000 in
theorem rnparse_calls (s : ByteArray) (w : World) (hs : s.size ≤ 1000) :
    Calls Tryd.prog 45 #[.string s] w fun e w' => ((∃ neg n v, e = .returned (.tuple #[v, .int .i64 0]) ∧ Reads (bl s) neg n ∧ NRes w' v (sgn neg n)) ∨ (e = .returned (.tuple #[.agg #[.bool false, .slice none 0 0], .int .i64 6]) ∧ ∀ neg n, ¬ Reads (bl s) neg n)) ∧ Below w.heap.size w w' := by
  have T0 := hide (Two.new w (.bool false) (.slice none 0 0) 43)
  have HB := hide (bel w (.cells #[.bool false, .slice none 0 0] 43))
  have hlen := hide (bl_length s)
  obtain ⟨K, hKle, hKge⟩ : ∃ K : Nat, K ≤ 1000 ∧ 1000 ≤ K := ⟨1000, by omega, by omega⟩
  by_cases hm : 0 < s.size ∧ nth (bl s) 0 = 45
  · obtain ⟨hpos, h45⟩ := hm
    have hb := byte_at s 0 hpos
    have H45 := hide h45
    rw [h45] at hb
    have hpos' : (s.size : Int) > 0 := by omega
    have hsl := slice_from1 s hpos
    have Hsz := hide (extract_size s)
    have Hbt := hide (bl_tail s)
    clear h45
    go_enter Tryd.func45, Tryd.ntmps45
    go_wp2_with fail
    refine (rparse_calls (s.extract 1 s.size) _ (by rw [Hsz.out]; omega)).mono ?_
    rintro e w1 ⟨hno, hyes, hb1⟩
    rw [Hbt.out] at hno hyes
    by_cases hN : IsNum ((bl s).drop 1)
    · obtain ⟨mv, rfl, hr⟩ := hyes hN
      obtain ⟨ar, Lr, cr, rfl, hLr⟩ := hr.shape
      have U0 := hide (T0.out.keep hb1)
      have KU := hide (bafter HB.out hb1 (Nat.le_refl _))
      have HN := hide hN
      have Hlt : Hid (gval ((bl s).drop 1) < 10 ^ K) := by
        show _ < _
        refine Nat.lt_of_lt_of_le (gval_lt hN.2.2) (Nat.pow_le_pow_right (by decide) ?_)
        rw [List.length_drop, hlen.out]
        omega
      have Hr := hide hr
      clear hno hyes hr hN
      by_cases hz : gval ((bl s).drop 1) = 0
      · obtain rfl : Lr = 0 := hLr.2 hz
        have Hz := hide hz
        clear hz hLr Hr U0 KU
        have TZ := T0.out.keep hb1
        have KZ := bafter HB.out hb1 (Nat.le_refl _)
        have d0 := TZ.c0
        have d1 := TZ.c1
        have f0 := TZ.f0 0
        have f1 := TZ.f0 1
        have TZ' := hide TZ
        have KZ' := hide KZ
        clear TZ KZ hb1
        go_wp2
        refine bodyPost_ret (results_numE rfl rfl rfl (TZ'.out.put _ _)) rfl ?_
        refine ⟨.inr ⟨rfl, ?_⟩, below_put KZ'.out (by omega) _ _⟩
        rintro neg n (⟨_, _, _, _, h5, h6⟩ | ⟨_, h2, _⟩)
        · exact h6 (by rw [← h5]; exact Hz.out)
        · exact h2 ⟨by rw [hlen.out]; exact hpos, H45.out⟩
      · have hL0 : ((Lr : Int) == 0) = false := beq_eq_false_iff_ne.2 (by
          have : Lr ≠ 0 := fun e => hz (hLr.1 e)
          omega)
        have Hz := hide hz
        have N1 := hide (RRes.lit (neg := true) Hr.out Hlt.out)
        clear hz hLr hb1 Hr
        go_wp2_with fail
        refine (rnorm_calls N1.out hKle).mono ?_
        rintro e w3 ⟨r3, rfl, q3, hb3⟩
        obtain ⟨b9, a9, L9, k9, rfl⟩ := q3.form
        have TZ := U0.out.keep hb3
        have KZ := bafter KU.out hb3 (Nat.le_refl _)
        have d0 := TZ.c0
        have d1 := TZ.c1
        have f0 := TZ.f0 0
        have f1 := TZ.f0 1
        have TZ' := hide TZ
        have KZ' := hide KZ
        clear TZ KZ hb3
        go_wp2
        refine bodyPost_ret (results_numE rfl rfl rfl (TZ'.out.put _ _)) rfl ?_
        exact ⟨.inl ⟨true, _, _, rfl, .inl ⟨rfl, by rw [hlen.out]; exact hpos, H45.out, HN.out, rfl, Hz.out⟩, q3.put TZ'.out _ _⟩, below_put KZ'.out (by omega) _ _⟩
    · have he := hno hN
      subst he
      have HN := hide hN
      clear hno hyes hN
      have TZ := T0.out.keep hb1
      have KZ := bafter HB.out hb1 (Nat.le_refl _)
      have d0 := TZ.c0
      have d1 := TZ.c1
      have f0 := TZ.f0 0
      have f1 := TZ.f0 1
      have TZ' := hide TZ
      have KZ' := hide KZ
      clear TZ KZ hb1
      go_wp2
      refine bodyPost_ret (results_numE rfl rfl rfl (TZ'.out.put _ _)) rfl ?_
      refine ⟨.inr ⟨rfl, ?_⟩, below_put KZ'.out (by omega) _ _⟩
      rintro neg n (⟨_, _, _, h4, _⟩ | ⟨_, h2, _⟩)
      · exact HN.out h4
      · exact h2 ⟨by rw [hlen.out]; exact hpos, H45.out⟩
  · have Hm : Hid (¬ (0 < (bl s).length ∧ nth (bl s) 0 = 45)) := by
      show ¬ _
      rw [hlen.out]
      exact hm
    by_cases hpos : 0 < s.size
    · have h45 : ¬ nth (bl s) 0 = 45 := fun e => hm ⟨hpos, e⟩
      have hb := byte_at s 0 hpos
      generalize hc0 : nth (bl s) 0 = c0 at hb h45
      have Hc0 := hide hc0
      have h45' : ((c0 : Int) == 45) = false := beq_eq_false_iff_ne.2 (by omega)
      have hpos' : (s.size : Int) > 0 := by omega
      clear hc0 hm
      go_enter Tryd.func45, Tryd.ntmps45
      go_wp2_with fail
      refine (rparse_calls s _ hs).mono ?_
      rintro e w1 ⟨hno, hyes, hb1⟩
      by_cases hN : IsNum (bl s)
      · obtain ⟨mv, rfl, hr⟩ := hyes hN
        obtain ⟨ar, Lr, cr, rfl, hLr⟩ := hr.shape
        have U2 := hide (T0.out.keep hb1)
        have K2 := hide (bafter HB.out hb1 (Nat.le_refl _))
        have HN := hide hN
        have Hlt : Hid (gval (bl s) < 10 ^ K) := by
          show _ < _
          refine Nat.lt_of_lt_of_le (gval_lt hN.2.2) (Nat.pow_le_pow_right (by decide) ?_)
          rw [hlen.out]
          omega
        have N1 := hide (RRes.lit (neg := false) hr Hlt.out)
        clear hno hyes hr hN hb1 hLr
        go_wp2_with fail
        refine (rnorm_calls N1.out hKle).mono ?_
        rintro e w3 ⟨r3, rfl, q3, hb3⟩
        obtain ⟨b9, a9, L9, k9, rfl⟩ := q3.form
        have TZ := U2.out.keep hb3
        have KZ := bafter K2.out hb3 (Nat.le_refl _)
        have d0 := TZ.c0
        have d1 := TZ.c1
        have f0 := TZ.f0 0
        have f1 := TZ.f0 1
        have TZ' := hide TZ
        have KZ' := hide KZ
        clear TZ KZ hb3
        go_wp2
        refine bodyPost_ret (results_numE rfl rfl rfl (TZ'.out.put _ _)) rfl ?_
        exact ⟨.inl ⟨false, _, _, rfl, .inr ⟨rfl, Hm.out, HN.out, rfl⟩, q3.put TZ'.out _ _⟩, below_put KZ'.out (by omega) _ _⟩
      · have he := hno hN
        subst he
        have HN := hide hN
        clear hno hyes hN
        have TZ := T0.out.keep hb1
        have KZ := bafter HB.out hb1 (Nat.le_refl _)
        have d0 := TZ.c0
        have d1 := TZ.c1
        have f0 := TZ.f0 0
        have f1 := TZ.f0 1
        have TZ' := hide TZ
        have KZ' := hide KZ
        clear TZ KZ hb1
        go_wp2
        refine bodyPost_ret (results_numE rfl rfl rfl (TZ'.out.put _ _)) rfl ?_
        refine ⟨.inr ⟨rfl, ?_⟩, below_put KZ'.out (by omega) _ _⟩
        rintro neg n (⟨_, h1, h2, _⟩ | ⟨_, _, h3, _⟩)
        · exact Hm.out ⟨h1, h2⟩
        · exact HN.out h3
    · have hs0 : s.size = 0 := by omega
      clear hm hpos
      go_enter Tryd.func45, Tryd.ntmps45
      go_wp2_with fail
      refine (rparse_calls s _ hs).mono ?_
      rintro e w1 ⟨hno, hyes, hb1⟩
      by_cases hN : IsNum (bl s)
      · obtain ⟨mv, rfl, hr⟩ := hyes hN
        obtain ⟨ar, Lr, cr, rfl, hLr⟩ := hr.shape
        have U2 := hide (T0.out.keep hb1)
        have K2 := hide (bafter HB.out hb1 (Nat.le_refl _))
        have HN := hide hN
        have Hlt : Hid (gval (bl s) < 10 ^ K) := by
          show _ < _
          refine Nat.lt_of_lt_of_le (gval_lt hN.2.2) (Nat.pow_le_pow_right (by decide) ?_)
          rw [hlen.out]
          omega
        have N1 := hide (RRes.lit (neg := false) hr Hlt.out)
        clear hno hyes hr hN hb1 hLr
        go_wp2_with fail
        refine (rnorm_calls N1.out hKle).mono ?_
        rintro e w3 ⟨r3, rfl, q3, hb3⟩
        obtain ⟨b9, a9, L9, k9, rfl⟩ := q3.form
        have TZ := U2.out.keep hb3
        have KZ := bafter K2.out hb3 (Nat.le_refl _)
        have d0 := TZ.c0
        have d1 := TZ.c1
        have f0 := TZ.f0 0
        have f1 := TZ.f0 1
        have TZ' := hide TZ
        have KZ' := hide KZ
        clear TZ KZ hb3
        go_wp2
        refine bodyPost_ret (results_numE rfl rfl rfl (TZ'.out.put _ _)) rfl ?_
        exact ⟨.inl ⟨false, _, _, rfl, .inr ⟨rfl, Hm.out, HN.out, rfl⟩, q3.put TZ'.out _ _⟩, below_put KZ'.out (by omega) _ _⟩
      · have he := hno hN
        subst he
        have HN := hide hN
        clear hno hyes hN
        have TZ := T0.out.keep hb1
        have KZ := bafter HB.out hb1 (Nat.le_refl _)
        have d0 := TZ.c0
        have d1 := TZ.c1
        have f0 := TZ.f0 0
        have f1 := TZ.f0 1
        have TZ' := hide TZ
        have KZ' := hide KZ
        clear TZ KZ hb1
        go_wp2
        refine bodyPost_ret (results_numE rfl rfl rfl (TZ'.out.put _ _)) rfl ?_
        refine ⟨.inr ⟨rfl, ?_⟩, below_put KZ'.out (by omega) _ _⟩
        rintro neg n (⟨_, h1, h2, _⟩ | ⟨_, _, h3, _⟩)
        · exact Hm.out ⟨h1, h2⟩
        · exact HN.out h3

theorem both_parse2 (s : ByteArray) (hs : s.size ≤ 100) :
    (∃ neg n, Reads (bl s) neg n ∧ n < 10 ^ 100 ∧ (∀ w, Calls Tryd.prog 9 #[.string s] w fun e w' => ∃ v, e = .returned (.tuple #[v, .int .i64 0]) ∧ BRes w' v (sgn neg n) ∧ Below w.heap.size w w') ∧ (∀ w, Calls Tryd.prog 45 #[.string s] w fun e w' => ∃ v, e = .returned (.tuple #[v, .int .i64 0]) ∧ NRes w' v (sgn neg n) ∧ Below w.heap.size w w')) ∨
    ((∀ w, Calls Tryd.prog 9 #[.string s] w fun e w' => e = .returned (.tuple #[.agg #[.bool false, .slice none 0 0], .int .i64 6]) ∧ Below w.heap.size w w') ∧ (∀ w, Calls Tryd.prog 45 #[.string s] w fun e w' => e = .returned (.tuple #[.agg #[.bool false, .slice none 0 0], .int .i64 6]) ∧ Below w.heap.size w w')) := by
  by_cases h : ∃ neg n, Reads (bl s) neg n
  · obtain ⟨neg, n, hr⟩ := h
    refine .inl ⟨neg, n, hr, ?_, fun w => bparse_reads hr w (by omega), fun w => ?_⟩
    · have hl := bl_length s
      rcases hr with ⟨_, h1, _, h3, rfl, _⟩ | ⟨_, _, h3, rfl⟩
      · exact Nat.lt_of_lt_of_le (gval_lt h3.2.2) (Nat.pow_le_pow_right (by decide) (by rw [List.length_drop]; omega))
      · exact Nat.lt_of_lt_of_le (gval_lt h3.2.2) (Nat.pow_le_pow_right (by decide) (by omega))
    · refine (rnparse_calls s w (by omega)).mono ?_
      rintro e w' ⟨⟨neg', n', v, rfl, h1, h2⟩ | ⟨_, h1⟩, hb⟩
      · obtain ⟨rfl, rfl⟩ := hr.unique h1
        exact ⟨v, rfl, h2, hb⟩
      · exact absurd hr (h1 _ _)
  · refine .inr ⟨fun w => ?_, fun w => ?_⟩
    · refine (bparse_calls s w (by omega)).mono ?_
      rintro e w' ⟨⟨neg', n', v, _, h1, _⟩ | ⟨rfl, _⟩, hb⟩
      · exact absurd ⟨neg', n', h1⟩ h
      · exact ⟨rfl, hb⟩
    · refine (rnparse_calls s w (by omega)).mono ?_
      rintro e w' ⟨⟨neg', n', v, _, h1, _⟩ | ⟨rfl, _⟩, hb⟩
      · exact absurd ⟨neg', n', h1⟩ h
      · exact ⟨rfl, hb⟩

set_option maxHeartbeats 1000000 in
theorem rntext_calls {K : Nat} {w : World} {v : Value} {z : Int} (hv : NArg K w v z) (hK : K ≤ 1000) :
    Calls Tryd.prog 46 #[v] w fun e w' => e = .returned (.string ⟨(itoa z).toArray⟩) ∧ Below w.heap.size w w' := by
  obtain ⟨neg, dv, n, rfl, hm, hl, hz⟩ := hv
  obtain ⟨a, L, c, rfl, hsh⟩ := hm.shape
  clear hsh
  have T0 := hide (Two.new w (.bool neg) (.slice a L c) 43)
  have HB := hide (bel w (.cells #[.bool neg, .slice a L c] 43))
  have Hm := hide ((hm.below HB.out).arg hl (by omega))
  have Ha := hide (show NArg K _ (.agg #[.bool neg, .slice a L c]) z from ⟨neg, _, n, rfl, hm.below HB.out, hl, hz⟩)
  have hza : z.natAbs = n := by rw [hz, sgn_natAbs]
  have Hza := hide hza
  have hdl : (decDigits n).length ≤ K + 1 := decDigits_len (lt_up10 hl (Nat.le_succ K)) (Nat.succ_pos K)
  have hdl' : ¬ 9223372036854775807 < 1 + (decDigits n).length := by omega
  clear hm hz hza hdl hl
  by_cases h0 : z < 0
  · have hs : sg z = -1 := sg_neg h0
    have Hi : Hid (itoa z = 45 :: decDigits n) := by
      show _ = _
      unfold itoa
      rw [if_pos h0, Hza.out]
    clear h0
    go_enter Tryd.func46, Tryd.ntmps46
    go_wp2_with fail
    refine (rsign_calls Ha.out hK).mono ?_
    rintro e w1 ⟨rfl, hb1⟩
    rw [hs]
    have c1 := (T0.out.keep hb1).c1
    go_wp2_with fail
    refine (rtext_calls (Hm.out.below hb1)).mono ?_
    rintro e w2 ⟨rfl, hb2⟩
    go_wp2
    go_ret
    exact ⟨by rw [Hi.out, ← minus_cat]; rfl, bafter (bafter HB.out hb1 (Nat.le_refl _)) hb2 (Nat.le_refl _)⟩
  · have hs : ¬ sg z < 0 := by
      unfold sg
      rw [if_neg h0]
      split <;> omega
    have Hi : Hid (itoa z = decDigits n) := by
      show _ = _
      unfold itoa
      rw [if_neg h0]
      congr 1
      have := Hza.out
      omega
    clear h0
    go_enter Tryd.func46, Tryd.ntmps46
    go_wp2_with fail
    refine (rsign_calls Ha.out hK).mono ?_
    rintro e w1 ⟨rfl, hb1⟩
    generalize sg z = sz at *
    have c1 := (T0.out.keep hb1).c1
    go_wp2_with fail
    refine (rtext_calls (Hm.out.below hb1)).mono ?_
    rintro e w2 ⟨rfl, hb2⟩
    go_wp2
    go_ret
    exact ⟨by rw [Hi.out]; rfl, bafter (bafter HB.out hb1 (Nat.le_refl _)) hb2 (Nat.le_refl _)⟩

end Go.Proofs.YtpenhmkodakpaaaDoor
