/- The reference of text: Take, One. -/
import Derived.Test.YthhpfdjcggfhaaaDoorTChg
import Derived.Test.YthhpfdjcggfhaaaDoorUROff
namespace Go.Proofs.YthhpfdjcggfhaaaDoor
set_option linter.unusedVariables false
set_option linter.unusedSimpArgs false
set_option maxRecDepth 100000
open Go Go.RowKit Go.Shelf Go.Lib

/-- What is answered of a text: too long, no letters, or right. -/
def TakeR (T : List Nat) (r : Int) : Prop := (T.length > 1048576 ∧ r = 3) ∨ (T.length ≤ 1048576 ∧ ((ValidL T ∧ r = 0) ∨ (¬ ValidL T ∧ r = 10)))
theorem take_one {T : List Nat} {r r' : Int} (h : TakeR T r) (h' : TakeR T r') : r = r' := by
  rcases h with ⟨a, rfl⟩ | ⟨a, ⟨b, rfl⟩ | ⟨b, rfl⟩⟩ <;> rcases h' with ⟨a', rfl⟩ | ⟨a', ⟨b', rfl⟩ | ⟨b', rfl⟩⟩
  all_goals first | rfl | omega | exact absurd b b' | exact absurd b' b

set_option maxHeartbeats 4000000 in
theorem rtake_calls (w : World) (T : List Nat) (hx : ∀ x ∈ T, x < 256) (hlen : T.length ≤ 1000000000) :
    Calls Tryd.prog 11 #[.string (strOf T)] w fun e w' => ∃ r : Int, e = .returned (.int .i64 r) ∧ TakeR T r ∧ Below w.heap.size w w' := by
  obtain ⟨N, n1, n2⟩ := letters_count hx
  obtain ⟨cx, w1, hconv, hbx, hb1, hsz1⟩ := conv_str w T hx
  have hsz : (strOf T).size = T.length := strOf_size T
  have HY := hide hbx
  have HB1 := hide hb1
  have HN1 := hide n1
  have HN2 := hide n2
  clear hbx hb1 hsz1 n1 n2 hx
  generalize strOf T = sx at *
  by_cases hbig : T.length ≤ 1048576
  · have d1 : ¬ (T.length : Int) > 1048576 := by omega
    have HBIG := hide hbig
    clear hbig
    go_enter Tryd.func11, Tryd.ntmps11
    go_wp2_with fail
    refine (rvalid_calls w1 _ cx T N HY.out.1 HY.out.2.1 HN1.out HN2.out hlen).mono ?_
    rintro e w2 ⟨a, er, rfl, hto, hb2⟩
    have htv := hide (told_valid HN1.out HN2.out hto)
    have HB2 := hide (bafter HB1.out hb2 (by have := HB1.out.size; omega))
    clear hto hb2 hconv
    go_wp2
    go_ret
    exact ⟨er, rfl, .inr ⟨HBIG.out, htv.out⟩, HB2.out⟩
  · have d1 : (T.length : Int) > 1048576 := by omega
    have HBIG := hide (Nat.lt_of_not_le hbig)
    clear hbig hconv
    go_enter Tryd.func11, Tryd.ntmps11
    go_wp2
    go_ret
    exact ⟨3, rfl, .inl ⟨HBIG.out, rfl⟩, Below.refl _ _⟩

theorem strOf_cut (T : List Nat) (i j : Nat) : (strOf T).extract i j = strOf ((T.take j).drop i) := by
  have : ∀ (l : List UInt8), (ByteArray.mk l.toArray).extract i j = ⟨((l.take j).drop i).toArray⟩ := fun l => by
    ext1
    simp [ByteArray.data_extract, List.drop_take]
  rw [strOf, this, strOf]
  simp [List.map_take, List.map_drop]
theorem strOf_app (A B : List Nat) : strOf A ++ strOf B = strOf (A ++ B) := by
  simp [strOf, ByteArray.mk_append_mk]

theorem rresults {fn : Func} {i j k : Tmp} (h : fn.results = #[.tmp i, .cell j 84, .tmp k]) {tmps : Array Value} {W : World} {c : Nat} {p q r : Value} {s : TypeId} {sv ev : Value} (hp : tmps.getD i undef = sv) (hq : tmps.getD j undef = .pointer (some ⟨c, 0, none⟩)) (he : tmps.getD k undef = ev) (S : BoxC W c s #[p, q, r]) :
    (results fn tmps).run Tryd.prog W = .ok (.tuple #[sv, .agg #[p, q, r], ev]) W := by
  have d0 : W.cell? ⟨c, 0, none⟩ = some p := S.cell 0
  have d1 : W.cell? ⟨c, 1, none⟩ = some q := S.cell 1
  have d2 : W.cell? ⟨c, 2, none⟩ = some r := S.cell 2
  have hp' : tmps[i]?.getD undef = sv := by simpa using hp
  have hq' : tmps[j]?.getD undef = .pointer (some ⟨c, 0, none⟩) := by simpa using hq
  have he' : tmps[k]?.getD undef = ev := by simpa using he
  simp [results, h, hp', hq', he', go_sem, d0, d1, d2]

/-- The end of One: the size is asked, and the text made. -/
theorem one_end {T : List Nat} {F G R : Nat} {X : List Nat} (hR : T.length - (G - F) + X.length = R) (h1 : F ≤ G) (h2 : G ≤ T.length) : (T.length : Int) - ((G : Int) - (F : Int)) + (X.length : Int) = (R : Int) := by omega

end Go.Proofs.YthhpfdjcggfhaaaDoor
