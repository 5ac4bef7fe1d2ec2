/- A document's bytes and edits, as memory of their own; parts of bytes. -/
import Derived.Test.YtjkfnplmnoghlaaDoorTKeep
import Derived.Test.YtjkfnplmnoghlaaDoorTextAppliesW
namespace Go.Proofs.YtjkfnplmnoghlaaDoor
set_option linter.unusedVariables false
set_option linter.unusedSimpArgs false
set_option maxRecDepth 100000
open Go Go.RowKit Go.Shelf Go.Lib

set_option maxHeartbeats 4000000 in
theorem bclone_own (w : World) (a : Addr) (cap : Nat) (T : List Nat) (h : Byt w (some a) cap T) (hlen : T.length ≤ 100000000) :
    Calls Tryd.prog 32 #[.slice (some a) T.length cap] w fun e w' => ∃ v, e = .returned v ∧ OwnB w.heap.size w' v T ∧ Below w.heap.size w w' := by
  have H := hide h
  clear h
  have qT : ∀ (w : World) (a : Addr) (n c : Nat), (binOp .eql 36 (.slice (some a) n c) (.slice none 0 0)).run Tryd.prog w = .ok (.bool false) w := fun w a n c => Lib.run_eql_slice_nil w 36 5 (some a) n c 0 0 Tryd.underlying36
  have HB := hide (bel w (.cells #[] 5))
  have HO := hide (own_none w)
  have HY := hide (H.out.below HB.out)
  go_enter Tryd.func32, Tryd.ntmps32
  go_wp2_with (at_builtin; go_must (refine wpList_appB _ rfl (.tmp 5) (.tmp 6) rfl w.heap.size _ [] rfl HO.out _ T rfl HY.out.1 (by (try simp only [List.length_nil]); omega) (by simp) ?_; intro v' w2 hown' hgrow))
  have hb2 : Below w.heap.size w w2 := HB.out.grown hgrow (by simp) (fun j hj => by have := (HO.out.lt j hj).1; omega)
  have HOW : Hid (OwnB w.heap.size w2 v' T) := hown'
  have HB2 := hide hb2
  clear hb2 hown' hgrow
  go_wp2
  go_ret
  exact ⟨_, rfl, HOW.out, HB2.out⟩

set_option maxHeartbeats 4000000 in
theorem bytes_own (w : World) (D : Nat) (ver : Int) (T : List Nat) (E : List Ed) (h : DocIs w D ver T E) (hlen : T.length ≤ 100000000) :
    Calls Tryd.prog 16 #[.pointer (some ⟨D, 0, none⟩)] w fun e w' => ∃ v, e = .returned v ∧ OwnB w.heap.size w' v T ∧ Below w.heap.size w w' := by
  obtain ⟨ao, c, lo, ln, lc, eo, ec, h1, h2, h3, h4, h5, h6, h7, h8⟩ := h
  cases ao with
  | some a =>
    have c1 : w.cell? ⟨D, 1, none⟩ = some (.slice (some a) T.length c) := BoxC.cell h1 1
    have H := hide h2.1
    clear h1 h2 h3 h4 h5 h6 h7 h8
    go_enter Tryd.func16, Tryd.ntmps16
    go_wp2_with fail
    refine (bclone_own w a c T H.out hlen).mono ?_
    rintro e w1 ⟨v, rfl, hy, hb⟩
    have HY := hide hy
    have HB := hide hb
    clear hy hb
    go_wp2
    go_ret
    exact ⟨_, rfl, HY.out, HB.out⟩
  | none =>
    have hc : c = 0 := h2.1.2.2 rfl
    have hT : T = [] := List.length_eq_zero_iff.1 (by have := h2.1.2.1; omega)
    subst hc hT
    have c1 : w.cell? ⟨D, 1, none⟩ = some (.slice none 0 0) := BoxC.cell h1 1
    clear h1 h2 h3 h4 h5 h6 h7 h8
    go_enter Tryd.func16, Tryd.ntmps16
    go_wp2_with fail
    refine (bclone_nil w).mono ?_
    rintro e w1 ⟨rfl, hw⟩
    rw [hw]
    go_wp2
    go_ret
    exact ⟨_, rfl, World.ownsRow_nil _ _ _ _, Below.refl _ _⟩

set_option maxHeartbeats 4000000 in
theorem eclone_own (w : World) (b off cap : Nat) (L : List Ed) (h : EdsIn w (.slice (some ⟨b, off, none⟩) L.length cap) L) (hlen : L.length ≤ 1000000) :
    Calls Tryd.prog 33 #[.slice (some ⟨b, off, none⟩) L.length cap] w fun e w' => ∃ rv, e = .returned rv ∧ w'.ownsRow w.heap.size 69 3 rv L.length (ecells L) ∧ Below w.heap.size w w' := by
  obtain ⟨i0, hi, hz0, hz1, hz2⟩ := info_parts infoEd
  have H := hide h
  clear h
  have qT : ∀ (w : World) (a : Addr) (n c : Nat), (binOp .eql 41 (.slice (some a) n c) (.slice none 0 0)).run Tryd.prog w = .ok (.bool false) w := fun w a n c => Lib.run_eql_slice_nil w 41 69 (some a) n c 0 0 Tryd.underlying41
  have HB := hide (bel w (.cells #[] 69))
  have HO := hide (own_noned w)
  have HY := hide (eds_cells (H.out.below HB.out))
  have H1 := hide (ecells_one L)
  have HL := hide (ecells_length L)
  go_enter Tryd.func33, Tryd.ntmps33
  go_wp2_with (at_builtin; go_must (refine wpList_append_own _ rfl (.tmp 5) (.tmp 6) 41 rfl w.heap.size 69 i0 (.agg #[.int .i64 0, .int .i64 0, .int .i64 0]) 3 24 Tryd.underlying41 hi hz0 hz1 hz2 rfl (by decide) _ 0 (ecells []) rfl HO.out ⟨b, off, none⟩ L.length cap (ecells L) rfl HL.out HY.out H1.out (by unfold maxLen; omega) (by omega) (by simp) ?_; intro v' w2 hown' hgrow hnil))
  have hb2 : Below w.heap.size w w2 := HB.out.grown hgrow (by simp) (fun j hj => by have := (HO.out.lt j hj).1; omega)
  have hy : w2.ownsRow w.heap.size 69 3 v' L.length (ecells L) := by
    have e1 : 0 + L.length = L.length := Nat.zero_add _
    rw [e1] at hown'
    exact hown'
  have HB2 := hide hb2
  have HY2 := hide hy
  clear hb2 hy hown' hgrow hnil
  go_wp2
  go_ret
  exact ⟨_, rfl, HY2.out, HB2.out⟩

set_option maxHeartbeats 4000000 in
theorem edits_own (w : World) (D : Nat) (ver : Int) (T : List Nat) (E : List Ed) (h : DocIs w D ver T E) (hlen : E.length ≤ 1000000) :
    Calls Tryd.prog 17 #[.pointer (some ⟨D, 0, none⟩)] w fun e w' => ∃ v, e = .returned v ∧ w'.ownsRow w.heap.size 69 3 v E.length (ecells E) ∧ Below w.heap.size w w' := by
  obtain ⟨ao, c, lo, ln, lc, eo, ec, h1, h2, h3, h4, h5, h6, h7, h8⟩ := h
  cases eo with
  | some a =>
    obtain ⟨b, o, rfl⟩ := h7 a rfl
    have c1 : w.cell? ⟨D, 3, none⟩ = some (.slice (some ⟨b, o, none⟩) E.length ec) := BoxC.cell h1 3
    have H := hide h6
    clear h1 h2 h3 h4 h5 h6 h7 h8
    go_enter Tryd.func17, Tryd.ntmps17
    go_wp2_with fail
    refine (eclone_own w b o ec E H.out hlen).mono ?_
    rintro e w1 ⟨v, rfl, hy, hb⟩
    have HY := hide hy
    have HB := hide hb
    clear hy hb
    go_wp2
    go_ret
    exact ⟨_, rfl, HY.out, HB.out⟩
  | none =>
    have hE : E = [] := by
      cases E with
      | nil => rfl
      | cons x l =>
        obtain ⟨ao', cap', e, _, hs⟩ := h6
        obtain ⟨b, off, e2, _⟩ := hs 0 x rfl
        cases e
        cases e2
    subst hE
    have c1 : w.cell? ⟨D, 3, none⟩ = some (.slice none 0 ec) := BoxC.cell h1 3
    clear h1 h2 h3 h4 h5 h6 h7 h8
    go_enter Tryd.func17, Tryd.ntmps17
    go_wp2_with fail
    refine (eclone_nil w ec).mono ?_
    rintro e w1 ⟨rfl, hw⟩
    rw [hw]
    go_wp2
    go_ret
    exact ⟨_, rfl, World.ownsRow_nil _ _ _ _, Below.refl _ _⟩

/-- Whichever memory has them, a part of bytes is theirs. -/
theorem cut_bytes (W : World) (co : Option Addr) (n cc f t : Nat) (h : f ≤ t) (h2 : t ≤ cc) : (Instr.slice 36 (.slice co n cc) (some (.int .i64 (f : Int))) (some (.int .i64 (t : Int))) none).run Tryd.prog W = .ok (.slice (if cc = f then co else co.map (·.add f)) (t - f) (cc - f)) W := by
  have h1 := run_slice_lh (P := Tryd.prog) (w := W) 36 co n cc (by kernel_rfl) .i64 .i64 (f : Int) (t : Int) (by omega) (by omega) (by omega)
  rw [h1]
  go_simp
theorem Byt.part {W : World} {co : Option Addr} {cc : Nat} {T : List Nat} (h : Byt W co cc T) {f t : Nat} (hf : f ≤ t) (ht : t ≤ T.length) : Byts W (.slice (if cc = f then co else co.map (·.add f)) (t - f) (cc - f)) (cutL T f t) := by
  obtain ⟨⟨ao, c', e, h1, h2⟩, h3, h4⟩ := h
  cases e
  have hl : (cutL T f t).length = t - f := by simp [cutL]; omega
  refine ⟨_, _, by rw [hl], fun x hx => h1 x (List.mem_of_mem_drop (List.mem_of_mem_take hx)), fun j hj => ?_⟩
  rw [hl] at hj
  obtain ⟨b, off, e, hc⟩ := h2 (f + j) (by omega)
  cases e
  rw [if_neg (by omega)]
  refine ⟨b, off + f, by simp [add_plain], ?_⟩
  rw [show off + f + j = off + (f + j) by omega, hc]
  have e1 : nth (cutL T f t) j = nth T (f + j) := by
    simp [nth, cutL, List.getElem?_take, hj]
  rw [e1]
theorem cut_str (W : World) (T : List Nat) (f t : Nat) (h : f ≤ t) (h2 : t ≤ T.length) : (Instr.slice 9 (.string (strOf T)) (some (.int .i64 (f : Int))) (some (.int .i64 (t : Int))) none).run Tryd.prog W = .ok (.string (strOf (cutL T f t))) W := by
  have h1 := run_slice_string (P := Tryd.prog) W 9 (strOf T) .i64 .i64 (f : Int) (t : Int) Tryd.underlying9 (by omega) (by omega) (by rw [strOf_size]; omega)
  rw [h1]
  have : (strOf T).extract f t = strOf (cutL T f t) := by
    rw [strOf_cut, List.drop_take]
    rfl
  simpa using this

end Go.Proofs.YtjkfnplmnoghlaaDoor
