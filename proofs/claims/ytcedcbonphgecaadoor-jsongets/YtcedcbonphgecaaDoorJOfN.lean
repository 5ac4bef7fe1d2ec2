/- Json: Of, whatever the number; strings as rows of bytes. -/
import Derived.Test.YtcedcbonphgecaaDoorJRInt
import Derived.Test.YtcedcbonphgecaaDoorJRGet
import Derived.Lib.AppendIntMem
namespace Go.Proofs.YtcedcbonphgecaaDoor
set_option linter.unusedVariables false
set_option linter.unusedSimpArgs false
set_option maxRecDepth 100000
open Go Go.RowKit Go.Shelf Go.Lib

/-- The table of powers. -/
def Pow (w : World) : Prop := Lib.TabIs Tryd.prog w "internal/strconv.uint64pow10" .u64 Lib.pow10Tab
theorem Pow.lt {w : World} (h : Pow w) : 5 < w.heap.size := by
  unfold Pow Lib.TabIs World.var? at h
  have e : Tryd.prog.globalNamed "internal/strconv.uint64pow10" = some 5 := by kernel_rfl
  rw [e] at h
  simp only [Option.bind_some] at h
  rcases Nat.lt_or_ge 5 w.heap.size with q | q
  · exact q
  · rw [Array.getElem?_eq_none q] at h
    simp at h
theorem Pow.below {w w' : World} (h : Pow w) (hb : Below w.heap.size w w') : Pow w' := by
  have hg := h.lt
  unfold Pow Lib.TabIs World.var? at *
  have e : Tryd.prog.globalNamed "internal/strconv.uint64pow10" = some 5 := by kernel_rfl
  rw [e] at h ⊢
  simp only [Option.bind_some] at h ⊢
  rw [hb.block 5 hg]
  exact h

/-- A string is its bytes. -/
theorem str_bytes (s : ByteArray) : ∃ T : List Nat, (∀ x ∈ T, x < 256) ∧ T.length = s.size ∧ s = strOf T := by
  obtain ⟨⟨l⟩⟩ := s
  refine ⟨l.map (·.toNat), fun x hx => ?_, by simp [ByteArray.size], ?_⟩
  · obtain ⟨c, _, rfl⟩ := List.mem_map.1 hx
    exact c.toNat_lt
  · unfold strOf
    rw [List.map_map]
    have : (UInt8.ofNat ∘ fun x : UInt8 => x.toNat) = id := by
      funext x
      simp
    rw [this, List.map_id]

def OfNR (n : Int) (w : World) (e : Ending) (w' : World) : Prop := e = .returned (vagg (nC (strOf (itoaT n)))) ∧ Below w.heap.size w w'
set_option maxHeartbeats 2000000 in
theorem ofn_any (w : World) (n : Int) (h1 : -999999999 ≤ n) (h2 : n ≤ 999999999) (hP : Pow w) :
    Calls Tryd.prog 22 #[.int .i64 n] w (OfNR n w) := by
  have hb := bel w (.cells jv0 27)
  have hx := BoxC.new w 27 jv0
  have HI := hide (Tryd.strconv_Itoa n (by omega) (by omega) (w.alloc (.cells jv0 27)) (hP.below hb))
  unfold jv0 at hb hx HI
  rw [itoa_str] at HI
  generalize hw0 : w.alloc (.cells #[.int .i64 0, .string ⟨#[]⟩, .slice none 0 0, .slice none 0 0] 27) = w0 at *
  generalize hs : strOf (itoaT n) = s at *
  have HS := hide hs
  have HX := hide hx
  have HB := hide hb
  have HW := hide hw0
  clear hx hb hw0 hs h1 h2 hP
  go_enter Tryd.func22, Tryd.ntmps22
  go_wp2_with fail
  rw [HW.out]
  clear HW
  refine HI.out.mono ?_
  rintro e w1 ⟨rfl, k, os, hw⟩
  have hb1 : Below w0.heap.size w0 w1 := by rw [hw]; exact below_grow _ _ (Nat.le_refl _) _ _
  have HX1 := hide (HX.out.below hb1)
  have HB1 := hide (HB.out.trans (hb1.mono HB.out.size))
  have x0 : w1.cell? ⟨w.heap.size, 0, none⟩ = some (.int .i64 0) := HX1.out.cell 0
  have x1 : w1.cell? ⟨w.heap.size, 1, none⟩ = some (.string ⟨#[]⟩) := HX1.out.cell 1
  have x2 : w1.cell? ⟨w.heap.size, 2, none⟩ = some (.slice none 0 0) := HX1.out.cell 2
  have x3 : w1.cell? ⟨w.heap.size, 3, none⟩ = some (.slice none 0 0) := HX1.out.cell 3
  have y0 := HX1.out.frozen 0
  have y1 := HX1.out.frozen 1
  have y2 := HX1.out.frozen 2
  have y3 := HX1.out.frozen 3
  have lX := HX1.out.lt
  clear hw hb1 HI
  go_wp2
  refine bodyPost_ret (results_jv rfl rfl (resJ_v HX1.out (.int .i64 3) (.string s) (.slice none 0 0) (.slice none 0 0))) rfl ?_
  exact ⟨by rw [HS.out]; rfl, (((HB1.out.setCell (p := ⟨w.heap.size, 0, none⟩) (Nat.le_refl _) _).setCell (p := ⟨w.heap.size, 1, none⟩) (Nat.le_refl _) _).setCell (p := ⟨w.heap.size, 2, none⟩) (Nat.le_refl _) _).setCell (p := ⟨w.heap.size, 3, none⟩) (Nat.le_refl _) _⟩

end Go.Proofs.YtcedcbonphgecaaDoor
