/- The contracts of timesAndMore and Parse: the number that a text's digits write. -/
import Derived.Test.YtlfbhbeoodmccaaDoorGroup
import Derived.Test.YtlfbhbeoodmccaaDoorAppU
namespace Go.Proofs.YtlfbhbeoodmccaaDoor
set_option linter.unusedVariables false
set_option linter.unusedSimpArgs false
open Go Go.RowKit Go.Shelf

theorem OwnU.stored {n₀ : Nat} {W : World} {g cap n : Nat} {gs : List Nat} (h : OwnU n₀ W (.slice (some ⟨g, 0, none⟩) n cap) gs) (j t : Nat) :
    OwnU n₀ (W.setCell ⟨g, j, none⟩ (.int .u32 (t : Int))) (.slice (some ⟨g, 0, none⟩) n cap) (gs.set j t) := by
  have hn : n = gs.length := h.len
  subst hn
  have := (World.ownsRow.stored (show W.ownsRow n₀ 57 1 (.slice (some ⟨g, 0, none⟩) gs.length cap) gs.length (u32s gs) from h) j (.int .u32 (t : Int))).1
  unfold OwnU
  rw [List.length_set]
  have e : u32s (gs.set j t) = (u32s gs).set j (.int .u32 (t : Int)) := by simp [u32s, List.map_set]
  rw [e]
  exact this

theorem OwnU.frozen {n₀ : Nat} {W : World} {g cap n : Nat} {gs : List Nat} (h : OwnU n₀ W (.slice (some ⟨g, 0, none⟩) n cap) gs) (j : Nat) : W.frozen? ⟨g, j, none⟩ = false := by
  have hn : n = gs.length := h.len
  subst hn
  exact World.ownsRow.frozenAt (show W.ownsRow n₀ 57 1 (.slice (some ⟨g, 0, none⟩) gs.length cap) gs.length (u32s gs) from h) j

theorem OwnU.somewhere {n₀ : Nat} {W : World} {a : Option Addr} {cap n : Nat} {gs : List Nat} (h : OwnU n₀ W (.slice a n cap) gs) (hp : 0 < gs.length) : ∃ g, a = some ⟨g, 0, none⟩ ∧ n₀ ≤ g := by
  rcases h.2 with ⟨_, h0⟩ | ⟨g, cap', cur, e, hg, _⟩
  · omega
  · cases e
    exact ⟨g, rfl, hg⟩

theorem set_front {ds gs : List Nat} {k : Nat} (hl : ds.length = k) (hk : k < gs.length) (y : Nat) : (ds ++ gs.drop k).set k y = (ds ++ [y]) ++ gs.drop (k + 1) := by
  have e := List.drop_eq_getElem_cons hk
  rw [List.set_append_right _ _ (by omega), hl, Nat.sub_self, e, List.set_cons_zero, List.append_assoc]
  rfl

/-- What k rounds have made. -/
def MoreInv (gs : List Nat) (t m k : Nat) (ds : List Nat) (c : Nat) : Prop :=
  ds.length = k ∧ Small R ds ∧ c ≤ t ∧ val R ds + R ^ k * c = val R (gs.take k) * t + m

theorem MoreInv.step {gs : List Nat} {t m k : Nat} {ds : List Nat} {c W : Nat} (h : MoreInv gs t m k ds c) (hs : Small R gs) (hW : W = nth gs k * t + c) :
    MoreInv gs t m (k + 1) (ds ++ [W % 4294967296]) (W / 4294967296) := by
  obtain ⟨h1, h2, h3, h4⟩ := h
  have hx := hs.nth R_pos k
  rw [R_eq] at hx
  refine ⟨by simp [h1], small_snoc h2 (by rw [R_eq]; omega), ?_, ?_⟩
  · have : nth gs k * t ≤ 4294967295 * t := Nat.mul_le_mul_right _ (by omega)
    omega
  · rw [val_snoc, h1, val_take_nth, Nat.pow_succ]
    generalize R ^ k = P at *
    generalize val R (gs.take k) = V at *
    generalize val R ds = A at *
    rw [R_eq]
    have e := Nat.mod_add_div W 4294967296
    have e1 : P * (W % 4294967296) + P * 4294967296 * (W / 4294967296) = P * (nth gs k * t) + P * c := by rw [Nat.mul_assoc, ← Nat.mul_add, e, hW, Nat.mul_add]
    have e2 : (V + P * nth gs k) * t = V * t + P * (nth gs k * t) := by rw [Nat.add_mul, Nat.mul_assoc]
    rw [e2]
    omega

theorem MoreInv.canon {gs : List Nat} {t m : Nat} {ds : List Nat} (h : MoreInv gs t m gs.length ds 0) (hc : Canon R gs) (ht : 0 < t) : Canon R ds ∧ val R ds = val R gs * t + m := by
  obtain ⟨h1, h2, h3, h4⟩ := h
  rw [List.take_length, Nat.mul_zero, Nat.add_zero] at h4
  refine ⟨canon_of_big h2 ?_, h4⟩
  by_cases hn : gs = []
  · subst hn
    exact .inl (List.eq_nil_of_length_eq_zero h1)
  · refine .inr ?_
    rw [h1, h4]
    have := canon_big hc hn
    have h5 : val R gs * 1 ≤ val R gs * t := Nat.mul_le_mul_left _ ht
    omega

set_option maxRecDepth 100000 in
set_option maxHeartbeats 2000000 in
theorem more_calls {w : World} {n₀ : Nat} {v : Value} {gs : List Nat} {t m : Nat} (ho : OwnU n₀ w v gs) (hc : Canon R gs) (ht : 0 < t) (htR : t < 4294967296) (hm : m ≤ t) (hl : gs.length ≤ 10000) (hb : n₀ ≤ w.heap.size) :
    Calls Tryd.prog 77 #[v, .int .u32 (t : Int), .int .u32 (m : Int)] w fun e w' => ∃ v' gs', e = .returned v' ∧ OwnU n₀ w' v' gs' ∧ Canon R gs' ∧ val R gs' = val R gs * t + m ∧ gs'.length ≤ gs.length + 1 ∧ Below n₀ w w' := by
  obtain ⟨a, cp, rfl⟩ := ownsRow_slice ho
  have Ho := hide ho
  have Hc := hide hc
  have hwm := wrap64_nat (n := m) (by omega)
  have hwt := wrap64_nat (n := t) (by omega)
  clear ho hc
  go_enter Tryd.func77, Tryd.ntmps77
  go_wp2
  go_loopw [7, 15] (fun cv iv wr => ∃ (k c : Nat) (ds : List Nat), k ≤ gs.length ∧ iv = .int .i64 (k : Int) ∧ cv = .int .u64 (c : Int) ∧ Hid (MoreInv gs t m k ds c) ∧ Hid (OwnU n₀ wr (.slice a gs.length cp) (ds ++ gs.drop k)) ∧ Hid (Below n₀ w wr)) (fun _ iv _ => gs.length - (intOf iv).toNat)
  case atStart => exact ⟨0, m, [], by omega, rfl, rfl, ⟨rfl, Small.nil _, hm, by simp [val]⟩, by simpa using Ho, Below.refl _ _⟩
  case round =>
    obtain ⟨k, c, ds, hk, rfl, rfl, hI, hO, hB⟩ := hrel
    by_cases hkn : k < gs.length
    · obtain ⟨g, rfl, hg⟩ := hO.out.somewhere (by simp; omega)
      have hlk := hide hI.out.1
      have hct := hI.out.2.2.1
      have hx := Hc.out.1.nth R_pos k
      rw [R_eq] at hx
      have hcell : wr.cell? ⟨g, k, none⟩ = some (.int .u32 ((nth gs k : Nat) : Int)) := by
        rw [hO.out.cell (j := k) (by simp; have := hlk.out; omega)]
        unfold nth
        rw [List.getElem?_append_right (by have := hlk.out; omega), hlk.out, Nat.sub_self, List.getElem?_drop, Nat.add_zero]
      have hfro := hO.out.frozen k
      obtain ⟨W, hW⟩ : ∃ W, W = nth gs k * t + c := ⟨_, rfl⟩
      have HW := hide hW
      have hP : nth gs k * t ≤ 4294967295 * t := Nat.mul_le_mul_right _ (by omega)
      generalize hxx : nth gs k = x at *
      obtain ⟨P, hPP⟩ : ∃ P, x * t = P := ⟨_, rfl⟩
      rw [hPP] at hP hW
      have hPI : (x : Int) * (t : Int) = (P : Int) := by rw [← hPP]; rfl
      have hwx := wrap64_nat (n := x) (by omega)
      have hPlt : P < 18446744073709551616 := by omega
      have hWI : (P : Int) + (c : Int) = (W : Int) := by omega
      have hWlt : W < 18446744073709551616 := by omega
      have HP := hide hPP
      have Hxx := hide hxx
      clear hPP hxx hW
      have hmodI : ((W % 4294967296 : Nat) : Int) = (W : Int) % 4294967296 := by omega
      go_wp2
      go_roundw
      case rel =>
        refine ⟨k + 1, W / 4294967296, ds ++ [W % 4294967296], by omega, by go_num, by go_num, hI.out.step Hc.out.1 (by rw [Hxx.out]; exact HW.out), ?_, hB.out.setCell (p := ⟨g, k, none⟩) hg _⟩
        have h5 := hO.out.stored k (W % 4294967296)
        rw [set_front hlk.out hkn, hmodI] at h5
        exact h5
      case measure => simp [intOf]; omega
    · obtain rfl : k = gs.length := by omega
      have hO1 : Hid (OwnU n₀ wr (.slice a gs.length cp) ds) := by
        have := hO.out
        rw [List.drop_length, List.append_nil] at this
        exact this
      have hlk := hide hI.out.1
      have hct := hI.out.2.2.1
      clear hO
      by_cases hc0 : c = 0
      · subst hc0
        have hfin := hide (hI.out.canon Hc.out ht)
        go_wp2
        go_ret
        exact ⟨_, ds, rfl, hO1.out, hfin.out.1, hfin.out.2, by rw [hlk.out]; omega, hB.out⟩
      · have hcI : ((c : Int) != 0) = true := by simp; omega
        have hw32 : IntKind.u32.wrap (c : Int) = (c : Int) := wrap32_of (by omega)
        have hv : Hid (val R (ds ++ [c]) = val R gs * t + m) := by
          show _ = _
          have h4 := hI.out.2.2.2
          rw [List.take_length] at h4
          rw [val_snoc, hlk.out, h4]
        have hcan : Hid (Canon R (ds ++ [c])) := ⟨small_snoc hI.out.2.1 (by rw [R_eq]; omega), tl_snoc ds c hc0⟩
        have hO2 := hide (World.ownsRow.alloc hO1.out (.cells #[.int .u32 (c : Int)] 57))
        have hlen2 : ds.length = gs.length := hlk.out
        have Hlen2 := hide hlen2
        clear hlen2
        go_wp2_with (at_builtin; go_must (refine wpList_appU _ rfl (.tmp 37) (.tmp 40) rfl n₀ _ ds rfl hO2.out _ [c] rfl (lit_one wr c (by omega)) (by rw [Hlen2.out]; simp; omega) (by have := hB.out.size; simp; omega) ?_; intro v' w' ho' hg'))
        go_ret
        have hBw : Below n₀ w w' := below_grown ((hB.out).alloc (by have := hB.out.size; omega) _) hb hg' (fun k hk => (hO2.out.lt k hk).1)
        exact ⟨_, ds ++ [c], rfl, ho', hcan.out, hv.out, by rw [List.length_append, Hlen2.out]; simp, hBw⟩

theorem tmod9 (m : Nat) : Int.tmod (m : Int) 9 = ((m % 9 : Nat) : Int) := by
  rw [Int.tmod_eq_emod_of_nonneg (by omega)]
  omega

theorem slice_to (s : ByteArray) (j : Nat) (hj : j ≤ s.size) (w : World) :
    (Instr.slice 9 (.string s) none (some (.int .i64 (j : Int))) none).run Tryd.prog w = .ok (.string (s.extract 0 j)) w := by
  rw [run_slice_string_to_if w 9 s .i64 _ Tryd.underlying9, if_pos ⟨by omega, by omega⟩]
  simp

theorem slice_nine (s : ByteArray) (i : Nat) (hj : i + 9 ≤ s.size) (w : World) :
    (Instr.slice 9 (.string s) (some (.int .i64 (i : Int))) (some (.int .i64 ((i : Int) + 9))) none).run Tryd.prog w = .ok (.string (s.extract i (i + 9))) w := by
  rw [run_slice_string w 9 s .i64 .i64 _ _ Tryd.underlying9 (by omega) (by omega) (by omega)]
  have e1 : ((i : Int)).toNat = i := by omega
  have e2 : ((i : Int) + 9).toNat = i + 9 := by omega
  rw [e1, e2]

theorem group_of {s : ByteArray} {i j : Nat} (hd : AllDig (bl s)) (hij : i ≤ j) (hj : j ≤ s.size) (h9 : j - i ≤ 9) (w : World) :
    Calls Tryd.prog 78 #[.string (s.extract i j)] w fun e w' => ∃ m : Nat, e = .returned (.int .u32 (m : Int)) ∧ Hid (gval ((bl s).take j) = gval ((bl s).take i) * 10 ^ (j - i) + m) ∧ m < 1000000000 ∧ w' = w := by
  have hb := bl_extract s i j
  have hsz : (s.extract i j).size = j - i := by
    rw [← bl_length, hb, List.length_take, List.length_drop, bl_length]
    omega
  have hd2 : AllDig (bl (s.extract i j)) := by rw [hb]; exact (hd.drop i).take _
  refine (groupOf_calls (s.extract i j) w (by omega) hd2).mono ?_
  rintro e w' ⟨rfl, rfl⟩
  refine ⟨_, rfl, ?_, ?_, rfl⟩
  · show _ = _
    have e1 : (bl s).take j = (bl s).take i ++ bl (s.extract i j) := by
      rw [hb, ← List.take_add]
      congr 1
      omega
    rw [e1, gval_append, bl_length, hsz]
  · have h1 := gval_lt hd2
    rw [bl_length, hsz] at h1
    have h2 : 10 ^ (j - i) ≤ 10 ^ 9 := Nat.pow_le_pow_right (by decide) h9
    omega

set_option maxRecDepth 100000 in
set_option maxHeartbeats 2000000 in
theorem parse_calls (s : ByteArray) (w : World) (hs : s.size ≤ 1000) :
    Calls Tryd.prog 59 #[.string s] w fun e w' => (¬ IsNum (bl s) → e = .returned (.tuple #[.slice none 0 0, .int .i64 6])) ∧ (IsNum (bl s) → ∃ rv, e = .returned (.tuple #[rv, .int .i64 0]) ∧ ResW w' rv (gval (bl s))) ∧ Below w.heap.size w w' := by
  by_cases hN : IsNum (bl s)
  · have HN := hide hN
    clear hN
    have hmod := tmod9 s.size
    have hf9 : s.size % 9 < 9 := Nat.mod_lt _ (by decide)
    have hfle : s.size % 9 ≤ s.size := Nat.mod_le _ _
    have hfd : Hid ((s.size - s.size % 9) % 9 = 0) := by show _ = _; omega
    obtain ⟨f, hf⟩ : ∃ f, s.size % 9 = f := ⟨_, rfl⟩
    rw [hf] at hmod hf9 hfle
    have Hf : Hid ((s.size - f) % 9 = 0) := by have := hfd.out; rw [hf] at this; exact this
    clear hf hfd
    have hsl := slice_to s f hfle
    go_enter Tryd.func59, Tryd.ntmps59
    go_wp2_with fail
    refine (isNumber_calls s _ (by omega)).mono ?_
    rintro e w1 ⟨he, _, rfl⟩
    have he' := he HN.out
    subst he'
    clear he
    go_wp2_with fail
    refine (group_of (s := s) (i := 0) (j := f) HN.out.2.2 (by omega) hfle (by omega) _).mono ?_
    rintro e w2 ⟨m0, rfl, hm0, hlt0, rfl⟩
    go_wp2_with fail
    refine (more_calls (n₀ := w2.heap.size) (gs := []) (t := 1000000000) (m := m0) (World.ownsRow_nil _ _ _ _) (canon_nil R) (by decide) (by decide) (by omega) (by simp) (Nat.le_refl _)).mono ?_
    rintro e w3 ⟨v0, gs0, rfl, ho0, hc0, hv0, hl0, hb0⟩
    have HO := hide ho0
    have HC := hide hc0
    have HB := hide hb0
    have HV : Hid (val R gs0 = gval ((bl s).take f)) := by
      show _ = _
      rw [hv0, hm0.out]
      simp [val, gval_nil]
    have HL : Hid (gs0.length ≤ f + 1) := by show _ ≤ _; simp at hl0; omega
    clear ho0 hc0 hb0 hv0 hl0 hm0
    go_wp2
    go_loopw [4, 6] (fun ov iv wr => ∃ (i : Nat) (gs : List Nat), i ≤ s.size ∧ iv = .int .i64 (i : Int) ∧ Hid ((s.size - i) % 9 = 0) ∧ Hid (OwnU w2.heap.size wr ov gs) ∧ Hid (Canon R gs) ∧ Hid (val R gs = gval ((bl s).take i)) ∧ Hid (gs.length ≤ i + 1) ∧ Hid (Below w2.heap.size w2 wr)) (fun _ iv _ => s.size - (intOf iv).toNat)
    case atStart => exact ⟨f, gs0, hfle, rfl, Hf, HO, HC, HV, HL, HB⟩
    case round =>
      obtain ⟨i, gs, hi, rfl, h9, hO, hC, hV, hL, hB⟩ := hrel
      by_cases hin : i < s.size
      · have hi9 : i + 9 ≤ s.size := by have := h9.out; omega
        have hsl2 := slice_nine s i hi9
        go_wp2_with fail
        refine (group_of (s := s) (i := i) (j := i + 9) HN.out.2.2 (by omega) hi9 (by omega) _).mono ?_
        rintro e w4 ⟨m1, rfl, hm1, hlt1, rfl⟩
        go_wp2_with fail
        refine (more_calls (n₀ := w2.heap.size) (gs := gs) (t := 1000000000) (m := m1) hO.out hC.out (by decide) (by decide) (by omega) (by have := hL.out; omega) hB.out.size).mono ?_
        rintro e w5 ⟨v1, gs1, rfl, ho1, hc1, hv1, hl1, hb1⟩
        have HO1 := hide ho1
        have HC1 := hide hc1
        have HB1 := hide (hB.out.trans hb1)
        have HV1 : Hid (val R gs1 = gval ((bl s).take (i + 9))) := by
          show _ = _
          rw [hv1, hm1.out, hV.out]
          congr 2
          rw [show i + 9 - i = 9 from by omega]
        have HL1 : Hid (gs1.length ≤ i + 9 + 1) := by show _ ≤ _; have := hL.out; omega
        clear ho1 hc1 hb1 hv1 hl1 hm1
        go_wp2
        go_roundw
        case rel => exact ⟨i + 9, gs1, hi9, by go_num, by show _ = _; have := h9.out; omega, HO1, HC1, HV1, HL1, HB1⟩
        case measure => simp [intOf]; omega
      · obtain rfl : i = s.size := by omega
        have hfin : Hid (ResW wr u4 (gval (bl s))) := by
          refine ⟨gs, hO.out.limbs hC.out.1 (by have := hL.out; omega), hC.out, ?_⟩
          rw [hV.out, List.take_of_length_le (by rw [bl_length]; exact Nat.le_refl _)]
        go_wp2
        go_ret2
        exact ⟨fun h => absurd HN.out h, fun _ => ⟨_, rfl, hfin.out⟩, hB.out⟩
  · have HN := hide hN
    clear hN
    go_enter Tryd.func59, Tryd.ntmps59
    go_wp2_with fail
    refine (isNumber_calls s _ (by omega)).mono ?_
    rintro e w1 ⟨_, he, rfl⟩
    have he' := he HN.out
    subst he'
    clear he
    go_wp2
    go_ret2
    exact ⟨fun _ => rfl, fun h => absurd h HN.out, Below.refl _ _⟩

end Go.Proofs.YtlfbhbeoodmccaaDoor
