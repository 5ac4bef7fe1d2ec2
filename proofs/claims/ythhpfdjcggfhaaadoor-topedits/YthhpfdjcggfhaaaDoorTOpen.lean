/- A document in general: Open, Bytes, Edits of whatever lies there. -/
import Derived.Test.YthhpfdjcggfhaaaDoorTApp
import Derived.Test.YthhpfdjcggfhaaaDoorTRef
namespace Go.Proofs.YthhpfdjcggfhaaaDoor
set_option linter.unusedVariables false
set_option linter.unusedSimpArgs false
set_option maxRecDepth 100000
open Go Go.RowKit Go.Shelf Go.Lib

/-- A whole document at D: its text, its edits. -/
def DocIs (W : World) (D : Nat) (ver : Int) (T : List Nat) (E : List Ed) : Prop :=
  ∃ ao c lo ln lc eo ec, DocAt W D ver ao T.length c lo ln lc eo E.length ec ∧ Body W ao c (.slice lo ln lc) T ∧ Plain ao ∧ Off D ao ∧ Off D lo ∧ EdsIn W (.slice eo E.length ec) E ∧ Plain eo ∧ Off D eo
theorem DocIs.below {W W' : World} {D : Nat} {ver : Int} {T : List Nat} {E : List Ed} (h : DocIs W D ver T E) (hb : Below W.heap.size W W') : DocIs W' D ver T E := by
  obtain ⟨ao, c, lo, ln, lc, eo, ec, h1, h2, h3, h4, h5, h6, h7, h8⟩ := h
  exact ⟨ao, c, lo, ln, lc, eo, ec, BoxC.below h1 hb, h2.below hb, h3, h4, h5, h6.below hb, h7, h8⟩
theorem DocIs.lt {W : World} {D : Nat} {ver : Int} {T : List Nat} {E : List Ed} (h : DocIs W D ver T E) : D < W.heap.size := by
  obtain ⟨ao, c, lo, ln, lc, eo, ec, h1, _⟩ := h
  exact BoxC.lt h1

/-- A document that has nothing in some blocks. -/
def DocX (P : Nat → Prop) (W : World) (D : Nat) (ver : Int) (T : List Nat) (E : List Ed) : Prop :=
  ∃ ao c lo ln lc eo ec, DocAt W D ver ao T.length c lo ln lc eo E.length ec ∧ Body W ao c (.slice lo ln lc) T ∧ Plain ao ∧ Off D ao ∧ Off D lo ∧ EdsIn W (.slice eo E.length ec) E ∧ Plain eo ∧ Off D eo ∧ ∀ B, P B → Off B ao ∧ Off B lo ∧ Off B eo
theorem DocX.is {P : Nat → Prop} {W : World} {D : Nat} {ver : Int} {T : List Nat} {E : List Ed} (h : DocX P W D ver T E) : DocIs W D ver T E := by
  obtain ⟨ao, c, lo, ln, lc, eo, ec, h1, h2, h3, h4, h5, h6, h7, h8, _⟩ := h
  exact ⟨ao, c, lo, ln, lc, eo, ec, h1, h2, h3, h4, h5, h6, h7, h8⟩
theorem DocX.below {P : Nat → Prop} {W W' : World} {D : Nat} {ver : Int} {T : List Nat} {E : List Ed} (h : DocX P W D ver T E) (hb : Below W.heap.size W W') : DocX P W' D ver T E := by
  obtain ⟨ao, c, lo, ln, lc, eo, ec, h1, h2, h3, h4, h5, h6, h7, h8, h9⟩ := h
  exact ⟨ao, c, lo, ln, lc, eo, ec, BoxC.below h1 hb, h2.below hb, h3, h4, h5, h6.below hb, h7, h8, h9⟩
theorem DocX.but {P : Nat → Prop} {W W' : World} {D B : Nat} {ver : Int} {T : List Nat} {E : List Ed} (h : DocX P W D ver T E) (k : But B W W') (hB : P B) (hne : D ≠ B) : DocX P W' D ver T E := by
  obtain ⟨ao, c, lo, ln, lc, eo, ec, h1, h2, h3, h4, h5, h6, h7, h8, f⟩ := h
  exact ⟨ao, c, lo, ln, lc, eo, ec, BoxC.but h1 k hne, h2.but k (f B hB).1 (f B hB).2.1, h3, h4, h5, h6.but k (f B hB).2.2, h7, h8, f⟩

theorem linesTo_some (T : List Nat) (k : Nat) : 1 ≤ (linesTo T k).length := by
  induction k with
  | zero => exact Nat.le_refl _
  | succ k ih =>
    cases hb : brk T k with
    | true => rw [lines_yes hb]; simp
    | false => rw [lines_no hb]; exact ih
theorem lines_off {W : World} {lo : Option Addr} {ln lc D : Nat} {T : List Nat} (h : IntsIn W (.slice lo ln lc) (linesL T)) (hD : W.heap.size ≤ D) : Off D lo := by
  obtain ⟨ao, cap, e, hc⟩ := h
  cases e
  obtain ⟨b, off, e, hc⟩ := hc 0 (linesTo_some T _)
  intro a ea
  rw [e] at ea
  cases ea
  have := block_lt hc
  show b ≠ D
  omega

set_option maxHeartbeats 4000000 in
theorem open_on (w : World) (ver : Int) (T : List Nat) (hK : Know w) (hx : ∀ x ∈ T, x < 256) (hlen : T.length ≤ 1000000000) :
    Calls Tryd.prog 10 #[.int .i64 ver, .string (strOf T)] w fun e w' => ∃ r : Int, TakeR T r ∧ Below w.heap.size w w' ∧
      ((r ≠ 0 ∧ e = .returned (.tuple #[.pointer none, .int .i64 r])) ∨ (r = 0 ∧ ∃ D, e = .returned (.tuple #[.pointer (some ⟨D, 0, none⟩), .int .i64 0]) ∧ w.heap.size ≤ D ∧ DocX (fun B => B < w.heap.size ∨ w'.heap.size ≤ B) w' D ver T [])) := by
  obtain ⟨N, n1, n2⟩ := letters_count hx
  have HK := hide hK
  have HN1 := hide n1
  have HN2 := hide n2
  have hsz : (strOf T).size = T.length := strOf_size T
  obtain ⟨cx, w1, hconv, hbx, hb1, hsz1⟩ := conv_str w T hx
  have HY := hide hbx
  have HB1 := hide hb1
  have HSZ := hide hsz1
  have HX := hide hx
  clear hK n1 n2 hbx hb1 hsz1 hx
  by_cases hbig : T.length ≤ 1048576
  · have d1 : ¬ (T.length : Int) > 1048576 := by omega
    generalize hsx : strOf T = sx at *
    have HSX := hide hsx
    clear hsx
    have HBIG := hide hbig
    clear hbig
    go_enter Tryd.func10, Tryd.ntmps10
    go_wp2_with fail
    refine (valid_calls w1 _ cx T N HY.out.1 (HK.out.below HB1.out).tabs HN1.out HN2.out (by omega) HY.out.2.1).mono ?_
    rintro e w2 ⟨at', er, rfl, hto, hb2⟩
    have htv := told_valid HN1.out HN2.out hto
    have HB2 := hide (bafter HB1.out hb2 (by have := HB1.out.size; omega))
    clear hto hconv
    rcases htv with ⟨hv, rfl⟩ | ⟨hv, rfl⟩
    · have HV := hide hv
      clear hv
      have HY2 := hide (HY.out.below hb2)
      have HL2 := hide (show w.heap.size < w2.heap.size by have := HSZ.out; have := hb2.size; omega)
      clear hb2
      go_wp2_with fail
      refine (bodyOf_calls w2 _ cx T HY2.out (by omega)).mono ?_
      rintro e w3 ⟨lo, ln, lc, rfl, hbd, hf, hb3⟩
      have HBD := hide hbd
      have HB3 := hide (bafter HB2.out hb3 (by have := HB2.out.size; omega))
      have HL3 := hide (show w.heap.size < w3.heap.size by have := HL2.out; have := hb3.size; omega)
      have HF3 := hide (hf.mono (m := w.heap.size) (by have := HL2.out; omega))
      clear hbd hf hb3
      go_wp2
      go_ret2
      refine ⟨0, .inr ⟨HBIG.out, .inl ⟨HV.out, rfl⟩⟩, bafter HB3.out (bel w3 _) (by have := HB3.out.size; omega), .inr ⟨rfl, w3.heap.size, rfl, Nat.le_of_lt HL3.out, some ⟨w.heap.size, 0, none⟩, cx, lo, ln, lc, none, 0, BoxC.new w3 _ _, HBD.out.below (bel w3 _), plain_some _ _, fun a e => ?_, lines_off HBD.out.2 (Nat.le_refl _), ⟨none, 0, rfl, Nat.le_refl _, (fun j x hj => by simp at hj)⟩, (fun a e => by cases e), (fun a e => by cases e), (fun B hB => ⟨(fun a e => ?_), ?_, (fun a e => by cases e)⟩)⟩⟩
      · cases e
        exact Nat.ne_of_lt HL3.out
      · cases e
        show w.heap.size ≠ B
        simp only [World.size_alloc] at hB
        have := HL3.out
        omega
      · simp only [World.size_alloc] at hB
        rcases hB with g | g
        · exact HF3.out.off g
        · exact lines_off HBD.out.2 (by omega)
    · have HV := hide hv
      clear hv
      go_wp2
      go_ret2
      exact ⟨10, .inr ⟨HBIG.out, .inr ⟨HV.out, rfl⟩⟩, HB2.out, .inl ⟨by decide, rfl⟩⟩
  · have d1 : (T.length : Int) > 1048576 := by omega
    have HBIG := hide (Nat.lt_of_not_le hbig)
    clear hbig hconv
    generalize strOf T = sx at *
    go_enter Tryd.func10, Tryd.ntmps10
    go_wp2
    go_ret2
    exact ⟨3, .inl ⟨HBIG.out, rfl⟩, Below.refl _ _, .inl ⟨by decide, rfl⟩⟩

theorem open_any (w : World) (ver : Int) (T : List Nat) (hK : Know w) (hx : ∀ x ∈ T, x < 256) (hlen : T.length ≤ 1000000000) :
    Calls Tryd.prog 10 #[.int .i64 ver, .string (strOf T)] w fun e w' => ∃ r : Int, TakeR T r ∧ Below w.heap.size w w' ∧
      ((r ≠ 0 ∧ e = .returned (.tuple #[.pointer none, .int .i64 r])) ∨ (r = 0 ∧ ∃ D, e = .returned (.tuple #[.pointer (some ⟨D, 0, none⟩), .int .i64 0]) ∧ w.heap.size ≤ D ∧ DocIs w' D ver T [])) := by
  refine (open_on w ver T hK hx hlen).mono ?_
  rintro e w' ⟨r, h1, h2, h3 | ⟨h3, D, h4, h5, h6⟩⟩
  · exact ⟨r, h1, h2, .inl h3⟩
  · exact ⟨r, h1, h2, .inr ⟨h3, D, h4, h5, h6.is⟩⟩

end Go.Proofs.YthhpfdjcggfhaaaDoor
