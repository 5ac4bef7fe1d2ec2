/- The contracts of Parse and Text of numbers with a sign. -/
import Derived.Test.YtkdhcpfmlelfcaaDoorBigDiv
import Derived.Test.YtkdhcpfmlelfcaaDoorNumText
namespace Go.Proofs.YtkdhcpfmlelfcaaDoor
set_option linter.unusedVariables false
set_option linter.unusedSimpArgs false
set_option maxRecDepth 100000
open Go Go.RowKit Go.Shelf Go.Lib

theorem text_res {w : World} {sv : Value} {m : Nat} (hx : Arg w sv m) (htab : TabIs Tryd.prog w "internal/strconv.uint64pow10" .u64 pow10Tab) :
    Calls Tryd.prog 64 #[sv] w fun e w' => e = .returned (.string ⟨(decDigits m).toArray⟩) ∧ Below w.heap.size w w' := by
  obtain ⟨xs, h1, h2, rfl⟩ := hx
  have := text_calls w sv xs h1 h2 htab
  rw [textOf_eq] at this
  exact this

theorem minus_cat (T : List UInt8) : (⟨#[45]⟩ : ByteArray) ++ ⟨T.toArray⟩ = ⟨(45 :: T).toArray⟩ := by
  apply ByteArray.ext
  rw [ByteArray.data_append]
  simp

theorem digits_bound {W : World} {v : Value} {n : Nat} (h : Arg W v n) : (decDigits n).length ≤ 10485761 := by
  obtain ⟨k, hk, hlt⟩ := h.bound
  have h1 : n < 10 ^ (10 * k + 1) := Nat.lt_of_lt_of_le hlt (Nat.le_trans (pow_R_le k) (Nat.pow_le_pow_right (by decide) (by omega)))
  have := decDigits_len h1 (by omega)
  omega

set_option maxHeartbeats 1000000 in
theorem btext_calls {w : World} {v : Value} {z : Int} (hv : BArg w v z) (htab : TabIs Tryd.prog w "internal/strconv.uint64pow10" .u64 pow10Tab) :
    Calls Tryd.prog 50 #[v] w fun e w' => e = .returned (.string ⟨(itoa z).toArray⟩) ∧ Below w.heap.size w w' := by
  obtain ⟨neg, mv, n, rfl, hm, hz⟩ := hv
  obtain ⟨a, L, c, rfl⟩ := hm.shape
  have T0 := hide (Two.new w (.bool neg) (.slice a L c) 24)
  have HB := hide (bel w (.cells #[.bool neg, .slice a L c] 24))
  have Hm := hide (hm.below HB.out)
  have Ha := hide (show BArg _ (.agg #[.bool neg, .slice a L c]) z from ⟨neg, _, n, rfl, Hm.out, hz⟩)
  have Ht := hide (tab_keep htab HB.out)
  have hza : z.natAbs = n := by rw [hz]; unfold sgn; split <;> simp
  have Hza := hide hza
  have hdl := digits_bound hm
  have hdl' : ¬ 9223372036854775807 < 1 + (decDigits n).length := by omega
  clear hm hz hza htab hdl
  by_cases h0 : z < 0
  · have hs : sg z = -1 := sg_neg h0
    have Hi : Hid (itoa z = 45 :: decDigits n) := by
      show _ = _
      unfold itoa
      rw [if_pos h0, Hza.out]
    clear h0
    go_enter Tryd.func50, Tryd.ntmps50
    go_wp2_with fail
    refine (sign_calls Ha.out).mono ?_
    rintro e w1 ⟨rfl, hb1⟩
    rw [hs]
    have c1 := (T0.out.keep hb1).c1
    go_wp2_with fail
    refine (text_res (Hm.out.below hb1) (tab_keep Ht.out hb1)).mono ?_
    rintro e w2 ⟨rfl, hb2⟩
    go_wp2
    go_ret
    exact ⟨by rw [Hi.out, ← minus_cat]; rfl, bafter (bafter HB.out hb1 (Nat.le_refl _)) hb2 (Nat.le_refl _)⟩
  · have hs : ¬ sg z < 0 := by
      unfold sg
      rw [if_neg h0]
      split <;> omega
    have Hi : Hid (itoa z = decDigits n) := by
      show _ = _
      unfold itoa
      rw [if_neg h0]
      congr 1
      have := Hza.out
      omega
    clear h0
    go_enter Tryd.func50, Tryd.ntmps50
    go_wp2_with fail
    refine (sign_calls Ha.out).mono ?_
    rintro e w1 ⟨rfl, hb1⟩
    generalize sg z = sz at *
    have c1 := (T0.out.keep hb1).c1
    go_wp2_with fail
    refine (text_res (Hm.out.below hb1) (tab_keep Ht.out hb1)).mono ?_
    rintro e w2 ⟨rfl, hb2⟩
    go_wp2
    go_ret
    exact ⟨by rw [Hi.out]; rfl, bafter (bafter HB.out hb1 (Nat.le_refl _)) hb2 (Nat.le_refl _)⟩

theorem results_big2 {fn : Func} {i k : Tmp} (h : fn.results = #[.cell i 24, .tmp k]) {tmps : Array Value} {W : World} {b : Nat} {x y : Value} {t : TypeId} {ev : Value} (hp : tmps.getD i undef = .pointer (some ⟨b, 0, none⟩)) (he : tmps.getD k undef = ev) (T : Two W b x y t) :
    (results fn tmps).run Tryd.prog W = .ok (.tuple #[.agg #[x, y], ev]) W := by
  have c0 := T.c0
  have c1 := T.c1
  have hp' : tmps[i]?.getD undef = .pointer (some ⟨b, 0, none⟩) := by simpa using hp
  have he' : tmps[k]?.getD undef = ev := by simpa using he
  simp [results, h, hp', he', go_sem, c0, c1]

/-- What a text with a sign is worth. -/
def Reads (l : List Nat) (neg : Bool) (n : Nat) : Prop := (neg = true ∧ 0 < l.length ∧ nth l 0 = 45 ∧ IsNum (l.drop 1) ∧ gval (l.drop 1) = n ∧ n ≠ 0) ∨ (neg = false ∧ ¬ (0 < l.length ∧ nth l 0 = 45) ∧ IsNum l ∧ gval l = n)

theorem slice_from1 (s : ByteArray) (h : 0 < s.size) (w : World) :
    (Instr.slice 9 (.string s) (some (.int .i64 1)) none none).run Tryd.prog w = .ok (.string (s.extract 1 s.size)) w := by
  rw [run_slice_string_from_if w 9 s .i64 _ Tryd.underlying9, if_pos ⟨by omega, by omega⟩]
  rfl

theorem bl_tail (s : ByteArray) : bl (s.extract 1 s.size) = (bl s).drop 1 := by
  rw [bl_extract]
  apply List.take_of_length_le
  rw [List.length_drop, bl_length]
  omega

theorem extract_size (s : ByteArray) : (s.extract 1 s.size).size = s.size - 1 := by
  rw [← bl_length, bl_tail, List.length_drop, bl_length]

end Go.Proofs.YtkdhcpfmlelfcaaDoor
