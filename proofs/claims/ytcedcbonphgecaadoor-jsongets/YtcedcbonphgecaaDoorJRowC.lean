/- From JsonGets' own conditions to what its walk asks: the decoder's tables, the table of powers, an error. -/
import Derived.Test.YtcedcbonphgecaaDoorJsonGetsW
import Derived.Test.YtcedcbonphgecaaDoorJTIn
import Derived.Lib.LaidTab
import Derived.Stop.LaidErr
namespace Go.Proofs.YtcedcbonphgecaaDoor
set_option linter.unusedVariables false
set_option linter.unusedSimpArgs false
set_option maxRecDepth 100000
open Go Go.RowKit Go.Shelf Go.Lib Go.ChangeShapes Go.WideShapes

theorem cellsU64 : Tryd.prog.cellsOf 147 = 1 := by kernel_rfl
theorem cellsPow : Tryd.prog.cellsOf 173 = 20 := by kernel_rfl
theorem globPow : Tryd.prog.globalNamed "internal/strconv.uint64pow10" = some 5 := by kernel_rfl
theorem typePow : (Tryd.prog.globals[5]?).map (·.type) = some 173 := by kernel_rfl
theorem globSyn : Tryd.prog.globalNamed "strconv.ErrSyntax" = some 0 := by kernel_rfl
theorem typeSyn : (Tryd.prog.globals[0]?).map (·.type) = some 92 := by kernel_rfl
theorem cellsErrE : Tryd.prog.cellsOf 170 = 1 := by kernel_rfl
theorem starErr : "*" ++ "errors.errorString" = "*errors.errorString" := by decide
theorem rowErr (u : TypeId) (h : Tryd.prog.typeName? 3 u = some "*errors.errorString") : u = 168 :=
  typeName_ptr_named (nm := "errors.errorString") (by rw [starErr]; kernel_rfl) (by kernel_rfl) (by decide) u (by rw [starErr]; exact h)

/-- What the row lists of the variables. -/
def laidC : List (String × DataW Unit) := [("math/bits.deBruijn32tab", Rows.laid_math_bits_deBruijn32tab), ("math/bits.deBruijn64tab", Rows.laid_math_bits_deBruijn64tab), ("internal/strconv.uint64pow10", Rows.laid_internal_strconv_uint64pow10), ("unicode/utf8.acceptRanges", Rows.laid_unicode_utf8_acceptRanges), ("strconv.ErrRange", Rows.laid_strconv_ErrRange), ("strconv.ErrSyntax", Rows.laid_strconv_ErrSyntax), ("unicode/utf8.first", Rows.laid_unicode_utf8_first)]
theorem laidPow : (Rows.laid_internal_strconv_uint64pow10 : DataW Unit) = tabData .u64 pow10Tab := by rfl
theorem tabs_inC {W : World} (hL : laidMetH Tryd.prog laidC W) : Utf8Tabs 2 3 W := by
  rw [MakeChecks.laidMetH_plain _ _ _ (by kernel_rfl)] at hL
  have h3 : VarReads Tryd.prog W "unicode/utf8.first" firstData := by rw [← laidFirst]; exact laidMet.reads (l := laidC) hL (by simp [laidC])
  have h4 : VarReads Tryd.prog W "unicode/utf8.acceptRanges" acceptData := by rw [← laidAccept]; exact laidMet.reads (l := laidC) hL (by simp [laidC])
  exact tabs_of_reads h3 h4
theorem pow_inC {W : World} (hL : laidMetH Tryd.prog laidC W) : Pow W := by
  rw [MakeChecks.laidMetH_plain _ _ _ (by kernel_rfl)] at hL
  have h3 : VarReads Tryd.prog W "internal/strconv.uint64pow10" (tabData .u64 pow10Tab) := by rw [← laidPow]; exact laidMet.reads (l := laidC) hL (by simp [laidC])
  obtain ⟨g, t, cs, fuel, p, hg, ht, hv, hd⟩ := h3
  obtain rfl := Option.some.inj (globPow.symm.trans hg)
  obtain rfl := Option.some.inj (typePow.symm.trans ht)
  unfold Pow TabIs
  rw [hv, ← cells_of_tab Tryd.underlying173 Tryd.underlying147 cellsU64 cellsPow hd]
theorem err_inC {W : World} (hL : laidMetH Tryd.prog laidC W) : ErrS W := by
  rw [MakeChecks.laidMetH_plain _ _ _ (by kernel_rfl)] at hL
  have h5 := laidMet.tail (laidMet.tail (laidMet.tail (laidMet.tail (laidMet.tail hL))))
  obtain ⟨a, s, hv, _⟩ := laid_sentinel h5 globSyn typeSyn Tryd.underlying92 rowErr Tryd.underlying168 Tryd.underlying170 rfl rfl Tryd.underlying9 cellsErrE cellsStr
  have h0 := World.var?_cell globSyn hv 0
  exact ⟨.iface 168 (.pointer (some a)), by simpa using h0, .inr ⟨_, _, rfl⟩⟩

end Go.Proofs.YtcedcbonphgecaaDoor
