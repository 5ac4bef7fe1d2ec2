/- The set of bytes that bytes.IndexAny makes of its letters, and asks. -/
import Derived.Test.YtnflbplhokodjaaDoorUMem
import Derived.Lib.AsciiSet
import Derived.Laws.ResultCell
import Derived.Laws.Strings3
import Derived.Deep.WholeRow
import Derived.Deep.LoopGhost
namespace Go.Proofs.YtnflbplhokodjaaDoor
set_option linter.unusedVariables false
set_option linter.unusedSimpArgs false
open Go Go.RowKit Go.Shelf Go.Lib

theorem infoSet : (Tryd.prog.info? 91).map (fun i => (i.zero, i.size)) = some (some (.agg (Array.replicate 256 (.bool false))), 256) := by kernel_rfl
theorem zeroSet (w : World) : (zeroValue 91).run Tryd.prog w = .ok (.agg (Array.replicate 256 (.bool false))) w := (zero_of_info infoSet).1 w
theorem sizeSet : (Tryd.prog.info? 91).map (·.size) = some 256 := (zero_of_info infoSet).2

set_option maxHeartbeats 4000000 in
set_option maxRecDepth 1000000 in
theorem makeSet_calls (w : World) (chars : ByteArray) (hs : chars.size < 1000) (hascii : ∀ (j : Nat) b, chars.data.toList[j]? = some b → b.toNat < 128) :
    Calls Tryd.prog 59 #[.string chars] w fun e w' => e = .returned (.tuple #[.agg (setCells chars.data.toList), .bool true]) ∧ w' = w.alloc (.cells (setCells chars.data.toList) 91) := by
  have HA : Hid (∀ (j : Nat) b, chars.data.toList[j]? = some b → b.toNat < 128) := hascii
  clear hascii
  have hz := zeroSet
  go_enter Tryd.func59, Tryd.ntmps59
  go_wp2
  rw [← setCells_nil]
  go_loopg [4] chars.size (fun g s4 wx => ∃ i : Nat, i + g = chars.size ∧ s4 = .int .i64 (i : Int) ∧ wx = w.alloc (.cells (setCells (chars.data.toList.take i)) 91))
  case atStart => exact ⟨0, by omega, rfl, rfl⟩
  case round =>
    obtain ⟨i, hig, rfl, rfl⟩ := hrel
    cases gk with
    | zero =>
      obtain rfl : i = chars.size := by omega
      have hiz : ¬ ((chars.size : Int) < (chars.size : Int)) := by omega
      rw [show chars.data.toList.take chars.size = chars.data.toList from List.take_of_length_le (by rw [← size_eq]; exact Nat.le_refl _)]
      have hsz := setCells_size chars.data.toList
      have hld := run_loadVar_new (P := Tryd.prog) w 91 (setCells chars.data.toList) 256 4 Tryd.underlying91 (by rw [hsz]; exact sizeSet)
      have hlc := run_loadCellsFrom_new (P := Tryd.prog) w 91 (setCells chars.data.toList) 256 hsz
      have hsc := run_storeCells_new (P := Tryd.prog) w 91 (setCells chars.data.toList) (setCells chars.data.toList) (by rw [hsz]; exact sizeSet) rfl (setCells_one _)
      have hl1 := run_loadAt_new (P := Tryd.prog) w 91 (setCells chars.data.toList) 256 4 Tryd.underlying91 (by rw [hsz]; exact sizeSet)
      have hs1 := run_storeAt_new (P := Tryd.prog) w 91 (setCells chars.data.toList) (setCells chars.data.toList) (by rw [hsz]; exact sizeSet) rfl (setCells_one _)
      go_wp2
      unfold Oper.wp
      simp only [execOp, Act.eval]
      change Oper.upon _ _ _ _ _ (Sem.run Tryd.prog (do let x ← Instr.loadAt 91 (.pointer (some ⟨w.heap.size, 0, none⟩)); pure (Next.value x)) _)
      rw [Sem.run_bind, hl1]
      simp only [Result.andThen, Sem.run_pure]
      rw [Oper.upon_value]
      go_wp2
      (try simp only [Exit.inBlock, Exit.then])
      refine bodyPost_ret (v := .tuple #[.agg (setCells chars.data.toList), .bool true]) ?_ rfl ⟨rfl, rfl⟩
      rw [results_cell_tmp rfl]
      simp [asAddr, Result.andThen, hld]
    | succ g =>
      have hi : i < chars.size := by omega
      have hiz : (i : Int) < (chars.size : Int) := by omega
      obtain ⟨x, hx⟩ : ∃ x : UInt8, chars[i]'hi = x := ⟨_, rfl⟩
      have hxl : chars.data.toList[i]? = some x := by rw [← hx]; exact data_getElem? chars i hi
      have hx128 : ¬ ((128 : Int) ≤ (x.toNat : Int)) := by have := HA.out i x hxl; omega
      have hx256 : (x.toNat : Int) < 256 := by have := HA.out i x hxl; omega
      have hcell := setCells_at (chars.data.toList.take i) x
      have Hx : Hid (chars.data.toList[i]? = some x) := hxl
      clear hxl
      go_wp2
      go_roundg g
      case measure => omega
      case rel => exact ⟨i + 1, by omega, by first | rfl | simp, by rw [List.take_add_one, Hx.out]; simp only [Option.toList]; rw [setCells_snoc]⟩

set_option maxHeartbeats 2000000 in
set_option maxRecDepth 1000000 in
theorem contains_calls (w : World) (b x : Nat) (v : Bool) (hx : x < 256) (hc : w.cell? ⟨b, x, none⟩ = some (.bool v)) :
    Calls Tryd.prog 69 #[.pointer (some ⟨b, 0, none⟩), .int .u8 (x : Int)] w fun e w' => e = .returned (.bool v) ∧ w' = w := by
  have hx256 : (x : Int) < 256 := by omega
  go_enter Tryd.func69, Tryd.ntmps69
  go_wp2
  go_ret
  exact ⟨rfl, rfl⟩

end Go.Proofs.YtnflbplhokodjaaDoor
