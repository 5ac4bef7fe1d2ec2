/- The law TextKeeps: for every input it returns true, and its arguments read as they did; the package variables that it reads are tied to the program's text. -/
import Derived.Test.YtjkfnplmnoghlaaDoorTextKeepsW
import Derived.Test.YtjkfnplmnoghlaaDoorTLaw
import Derived.Test.YtjkfnplmnoghlaaDoorTie
import Derived.Test.YtjkfnplmnoghlaaDoorCards
import Derived.SevenTiedAt
namespace Go.Proofs.YtjkfnplmnoghlaaDoor
set_option linter.unusedVariables false
set_option linter.unusedSimpArgs false
set_option maxRecDepth 100000
open Go Go.RowKit Go.ChangeShapes Go.WideShapes Go.ChangeAt Go.Lib
open Go.ChangeMaps (open_string shut_string)

theorem cellsKeeps : Tryd.prog.cellsOf 66 = 4 := by kernel_rfl
theorem cellsChs : Tryd.prog.cellsOf 22 = 1 := by kernel_rfl
theorem keeps_in {H : Type} {enc : TypeId × Value → H} {W : World} {base : Nat} {v : Value} {d : DataW H} {ps : List MemPlace}
    (hval : Value.okWide Tryd.prog W .any base 66 v) (h : DataW.Trod enc Tryd.prog W 0 (fun _ => true) true 66 v d ps) :
    ∃ (T : List Nat) (_ : ∀ y ∈ T, y < 256) (co : Option Addr) (cc : Nat) (L : List Ch) (_ : ChsIn W (.slice co L.length cc) L) (f : Int) (_ : (Lit.int .i64 f).wf = true) (z : Int) (_ : (Lit.int .i64 z).wf = true), v = .agg #[.string (strOf T), .slice co L.length cc, .int .i64 f, .int .i64 z] := by
  obtain ⟨cs, rfl, hcl⟩ := okWide_struct Tryd.underlying66 hval
  rw [cellsKeeps] at hcl
  obtain ⟨l⟩ := cs
  match l, hcl with
  | [c0, c1, c2, c3], _ =>
    obtain ⟨fuel, hf⟩ := h
    obtain ⟨y0, y1, y2, y3, m, hx, _, hy0, hy1, hy2, hy3⟩ := Go.Joins.trod_struct4 Tryd.underlying66 hf
    simp [Value.cells, cellsStr, cellsChs, cellsInt] at hy0 hy1 hy2 hy3
    obtain ⟨s, e0, _, _⟩ := DataW.trod_string Tryd.underlying9 hy0
    obtain ⟨co, cc, L, rfl, hC⟩ := chs_part hy1
    obtain ⟨f, e2, _, w2⟩ := DataW.trod_int Tryd.underlying3 hy2
    obtain ⟨z, e3, _, w3⟩ := DataW.trod_int Tryd.underlying3 hy3
    simp at e0 e2 e3
    obtain ⟨T, hT, hs, _⟩ := strOf_of s
    subst hT
    subst e0 e2 e3
    exact ⟨T, hs, co, cc, L, hC, f, w2, z, w3, rfl⟩

set_option maxRecDepth 100000 in
theorem textKeeps_lifted (os : Os) (started : os.Started) (H : Type) (enc : TypeId × Value → H) :
    ReturnsInHanded {} Tryd.checked os 7 .any (fun w args => (Rows.textKeepsSpec.pre enc Tryd.prog Tryd.f7 [] false w args ∧ laidMetH Tryd.prog laid2 w) ∧ sizedMet enc Tryd.prog Tryd.f7 (OpenSpec.ofChange Rows.textKeepsSpec) false w args)
      (Rows.textKeepsSpec.post enc Tryd.prog Tryd.f7 false true false false) := by
  refine handed_and_shaped (C := Tryd.checked) (X := fun w _ => laidMetH Tryd.prog laid2 w) (fun _ _ _ hh h => h.of_heap hh) own started (by kernel_rfl) Tryd.func7
    (ChangeSpec.witness_shaped (enc := enc) (C := Tryd.checked) (os := os) (X := fun w _ => laidMetH Tryd.prog laid2 w) false (World.laidAll Tryd.prog os laid2) #[.agg #[.string ⟨#[]⟩, .slice none 0 0, .int .i64 0, .int .i64 0]] 8 (World.laidAll_os _ _ _)
      (World.shaped_of_ZipB (by kernel_rfl) (by kernel_rfl)) (by kernel_rfl) (by kernel_rfl) (by kernel_rfl)
      (by rw [MakeChecks.laidMetH_plain _ _ _ (by kernel_rfl)]; exact laidMet_laidAll _ (by kernel_rfl) (by kernel_rfl))) ?_
  intro W base args ds gs before hval0 hW _ hsz0 hL hsh _
  have hval : ∀ (j : Nat) t v, Tryd.f7.params[j]? = some t → args[j]? = some v → Value.okWide Tryd.prog W .any base t v := hval0
  have hW' := hW
  obtain ⟨p, q, hA0, hV, rfl, _, _⟩ := hW
  have hA : DataW.TrodAll enc Tryd.prog W 0 (fun _ => true) true Tryd.f7.params.toList args.toList ds p := hA0
  have hsz : (DataW.weightsEach Tryd.prog (Tryd.f7.params.toList ++ Rows.textKeepsSpec.plain.varTypes Tryd.prog) (ds ++ gs)).all (· ≤ reachBytes) = true := hsz0
  rw [Tryd.params7] at hA hval hsz
  obtain ⟨v0, vs0, d0, ds0, p0, q0, hargs, rfl, rfl, h0, r0⟩ := trodAll_cons hA
  obtain ⟨rfl, rfl, rfl⟩ := trodAll_nil r0
  obtain rfl : args = #[v0] := by cases args; simp_all
  obtain ⟨rfl, rfl⟩ := trodVars_none hV
  have lt0 : ∀ x ∈ p0, x.block < W.heap.size := by obtain ⟨m, hm⟩ := h0; exact DataW.trod_lt m _ _ _ hm
  obtain ⟨x0, hx0, a0, c0, y0, l0, n0, wn0, m0, wm0, rfl⟩ := keeps_in (hval 0 66 v0 rfl rfl) h0
  refine (textKeeps_walk W x0 hx0 a0 c0 y0 l0 n0 wn0 m0 wm0 (know_in hL hsh)).mono fun e W' ⟨he, bel⟩ => ?_
  subst he
  exact ⟨_, rfl, _, _, _, [], _, [], hW', trodAll_mk1 (shut_bool Tryd.underlying4 _), (trodAll_cons_mk (Below.trod laidOut (by kernel_rfl) (of_decide_eq_true (by kernel_rfl)) h0 bel lt0) trodAll_mk0), rfl, bel.frame _, fun h => by cases h⟩

theorem textKeeps_holds : Rows.TextKeepsSaid :=
  OpenClaim.holds_of_wide 7 Tryd.f7 rfl rfl rfl rfl rfl rfl rfl ⟨rfl, rfl, rfl, rfl, rfl⟩ rfl rfl rfl rfl rfl (by kernel_rfl) Tryd.func7 (by kernel_rfl)
    (of_decide_eq_true (by kernel_rfl)) (by unfold Func.isWrapper; first | (rw [if_pos (by decide +kernel)]; kernel_rfl) | (rw [if_neg (by decide +kernel)]; exact ⟨rfl, rfl⟩))
    (fun os started H enc _ => textKeeps_lifted os started H enc)

theorem textKeeps_card : Rows.TextKeepsCardSaid :=
  Claim7.holds_tied_plain_at .later [] [.data, .pinned] true (true, "94734a6749d9da03eee4c3463bc6f86b29684a6668ebb8c4e9550089a306b0e9") false
    textKeeps_holds (fun _ h => by cases h) (by kernel_rfl) (fun _ h => by cases h) textKeeps_row_tie rfl ⟨rfl, rfl⟩ (by kernel_rfl) rfl
    (fun f fn hf hfn => by
      obtain rfl : f = 7 := Option.some.inj ((show Tryd.prog.funcNamed "whetstone/whetstonelaw07.TextKeeps" = some 7 by kernel_rfl).symm.trans hf) |>.symm
      obtain rfl : fn = Tryd.f7 := (Option.some.inj (Tryd.func7.symm.trans hfn)).symm
      exact ⟨by kernel_rfl, fun j t ht => by
        rw [Tryd.params7] at ht
        have hm : t ∈ [66] := by simpa using Array.mem_of_getElem? ht
        have hall : ([66].all fun u => !Tryd.prog.wantsStandIn u) = true := by kernel_rfl
        exact (show Tryd.prog.wantsStandIn t = false by simpa using List.all_eq_true.1 hall t hm)⟩)
    (by kernel_rfl)
#print axioms textKeeps_card
end Go.Proofs.YtjkfnplmnoghlaaDoor
