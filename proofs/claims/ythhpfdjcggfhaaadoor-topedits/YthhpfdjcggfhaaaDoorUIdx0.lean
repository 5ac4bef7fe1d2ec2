/- What bytes.IndexAny needs at the two ends of lines. -/
import Derived.Test.YthhpfdjcggfhaaaDoorUEnd
import Derived.Lib.AsciiSet
import Derived.Lib.IndexEntry
import Derived.Lib.Bytealg
import Derived.Laws.ResultCell
import Derived.Laws.RangeString
import Derived.Laws.Strings3
import Derived.Laws.Runes
import Derived.Deep.WholeRow
import Derived.Deep.LoopGhost
namespace Go.Proofs.YthhpfdjcggfhaaaDoor
set_option linter.unusedVariables false
set_option linter.unusedSimpArgs false
open Go Go.RowKit Go.Shelf Go.Lib

/-- The ends of lines, as a text. -/
def endsStr : ByteArray := ⟨#[10, 13]⟩
theorem endsStr_size : endsStr.size = 2 := rfl
theorem endsStr_list : endsStr.data.toList = [10, 13] := rfl

/-- No end of a line ahead of a place. -/
def NoEnd (T : List Nat) (k : Nat) : Prop := ∀ j, j < k → nth T j ≠ 10 ∧ nth T j ≠ 13
theorem NoEnd.zero (T : List Nat) : NoEnd T 0 := fun j hj => by omega
theorem NoEnd.step {T : List Nat} {k : Nat} (h : NoEnd T k) (hx : nth T k ≠ 10 ∧ nth T k ≠ 13) : NoEnd T (k + 1) := fun j hj => by
  rcases Nat.lt_succ_iff_lt_or_eq.1 hj with g | g
  · exact h j g
  · rw [g]; exact hx

/-- What IndexAny tells of the ends of lines. -/
def Ends (T : List Nat) (r : Int) : Prop := (∃ n : Nat, r = (n : Int) ∧ n < T.length ∧ IsEnd T 0 n) ∨ (r = -1 ∧ IsEnd T 0 T.length)
theorem ends_hit {T : List Nat} {k : Nat} (h : NoEnd T k) (hk : k < T.length) (hx : nth T k = 10 ∨ nth T k = 13) : Ends T (k : Int) :=
  .inl ⟨k, rfl, hk, Nat.zero_le _, by omega, fun j _ hj => h j hj, fun _ => hx⟩
theorem ends_none {T : List Nat} (h : NoEnd T T.length) : Ends T (-1) :=
  .inr ⟨rfl, Nat.zero_le _, Nat.le_refl _, fun j _ hj => h j hj, fun g => by omega⟩

set_option maxRecDepth 100000 in
theorem idxb_all : ∀ x : Fin 256, (decide (0 ≤ indexByte [10, 13] (UInt8.ofNat x.val)) = (decide (x.val = 10) || decide (x.val = 13))) := by decide
theorem idxb_hit {x : Nat} (hx : x < 256) (h : x = 10 ∨ x = 13) : (0 : Int) ≤ indexByte endsStr.data.toList (UInt8.ofNat x) := by
  have := idxb_all ⟨x, hx⟩
  rw [endsStr_list]
  simp only [Fin.val_mk] at this
  rcases h with h | h <;> simp [h] at this ⊢ <;> omega
theorem idxb_miss {x : Nat} (hx : x < 256) (h : x ≠ 10 ∧ x ≠ 13) : ¬ (0 : Int) ≤ indexByte endsStr.data.toList (UInt8.ofNat x) := by
  have := idxb_all ⟨x, hx⟩
  rw [endsStr_list]
  simpa [h.1, h.2] using this

theorem run_idxb (c : Int) (w : World) : (callFunc 61 #[.string endsStr, .int .u8 c]).run Tryd.prog w = .ok (.value (.int .i64 (indexByte endsStr.data.toList c.toNat.toUInt8))) w := by
  rw [run_callFunc_extern Tryd.func61 (by kernel_rfl) (by kernel_rfl) (by kernel_rfl) (show Extern.find _ = some Extern.BytealgIndexByte.indexByte by kernel_rfl), run_indexByteString]
  rfl

/-- A letter of more bytes than the two ends stands nowhere in them. -/
theorem index_long {s : ByteArray} (h : 3 ≤ s.size) : index endsStr.data.toList s.data.toList = -1 := by
  refine index_none (fun j _ => ?_)
  cases ho : occAt endsStr.data.toList s.data.toList j with
  | false => rfl
  | true =>
    rcases occAt_room ho with g | g
    · rw [← size_eq, endsStr_list] at g
      simp at g
      omega
    · have : s.size = 0 := by rw [size_eq, g]; rfl
      omega

theorem run_idxs (s : ByteArray) (m : Int) (w : World) (hm : w.cell? ⟨0, 0, none⟩ = some (.int .i64 m)) (h3 : 3 ≤ s.size) (hb : (s.size : Int) ≤ m) : (callFunc 66 #[.string endsStr, .string s]).run Tryd.prog w = .ok (.value (.int .i64 (-1))) w := by
  rw [run_callFunc_extern Tryd.func66 (by kernel_rfl) (by kernel_rfl) (by kernel_rfl) (show Extern.find _ = some Extern.BytealgIndex.index by kernel_rfl), run_indexString endsStr s w 0 m (by kernel_rfl) hm (by omega) hb (by rw [endsStr_size]; omega), index_long h3]
  rfl

/-- All bytes of a letter of several bytes are 128 or more. -/
theorem dec_high {T : List Nat} {p : Nat} (hp : p < T.length) (h0 : 128 ≤ nth T p) : ∀ j, p ≤ j → j < p + sizeAt T p → nth T j ≠ 10 ∧ nth T j ≠ 13 := by
  intro j h1 h2
  unfold sizeAt decL at h2
  rw [if_neg (by rw [List.length_drop]; omega), List.length_drop, nth_drop, nth_drop, nth_drop, nth_drop] at h2
  obtain ⟨d, rfl⟩ : ∃ d, j = p + d := ⟨j - p, by omega⟩
  have hd : d < (decodeN (T.length - p) (nth T (p + 0)) (nth T (p + 1)) (nth T (p + 2)) (nth T (p + 3))).2 := by omega
  rw [Nat.add_zero] at hd
  clear h2
  generalize hx0 : nth T p = x0 at *
  generalize hx1 : nth T (p + 1) = x1 at *
  generalize hx2 : nth T (p + 2) = x2 at *
  generalize hx3 : nth T (p + 3) = x3 at *
  unfold decodeN at hd
  have hd4 : d = 0 ∨ d = 1 ∨ d = 2 ∨ d = 3 ∨ 4 ≤ d := by omega
  rcases hd4 with rfl | rfl | rfl | rfl | hd4
  · rw [Nat.add_zero, hx0]; omega
  · rw [hx1]
    repeat' split at hd
    all_goals (simp only [] at hd; omega)
  · rw [hx2]
    repeat' split at hd
    all_goals (simp only [] at hd; omega)
  · rw [hx3]
    repeat' split at hd
    all_goals (simp only [] at hd; omega)
  · exfalso
    repeat' split at hd
    all_goals (simp only [] at hd; omega)

/-- The decoder's letter of a byte of 128 or more: the mark of none, or one of two to four bytes that is as long as it is written. -/
theorem dec_wide {T : List Nat} {p : Nat} (hT : ∀ x ∈ T, x < 256) (hp : p < T.length) (h0 : 128 ≤ nth T p) (hne : (decL (T.drop p)).1 ≠ 65533) :
    128 ≤ (decL (T.drop p)).1 ∧ (Utf8.encode (((decL (T.drop p)).1 : Nat) : Int)).size = (decL (T.drop p)).2 ∧ 2 ≤ (decL (T.drop p)).2 ∧ (decL (T.drop p)).2 ≤ 4 := by
  have b0 := nth_lt hT p
  have b1 := nth_lt hT (p + 1)
  have b2 := nth_lt hT (p + 2)
  have b3 := nth_lt hT (p + 3)
  unfold decL at hne ⊢
  rw [if_neg (by rw [List.length_drop]; omega), List.length_drop, nth_drop, nth_drop, nth_drop, nth_drop, Nat.add_zero] at hne ⊢
  generalize nth T p = x0 at *
  generalize nth T (p + 1) = x1 at *
  generalize nth T (p + 2) = x2 at *
  generalize nth T (p + 3) = x3 at *
  have key : ∀ c k : Nat, 128 ≤ c → ((c < 2048 ∧ k = 2) ∨ (2048 ≤ c ∧ c < 65536 ∧ k = 3) ∨ (65536 ≤ c ∧ k = 4)) → (c < 55296 ∨ (57344 ≤ c ∧ c ≤ 1114111)) → (Utf8.encode ((c : Nat) : Int)).size = k := by
    intro c k h1 h2 h3
    have hv : Utf8.valid ((c : Nat) : Int) = true := by
      unfold Utf8.valid
      rcases h3 with h | ⟨h, h'⟩ <;> simp <;> omega
    unfold Utf8.encode
    simp only [hv, if_true, Int.toNat_natCast]
    rw [if_neg (by omega)]
    rcases h2 with ⟨g, rfl⟩ | ⟨g, g', rfl⟩ | ⟨g, rfl⟩
    · rw [if_pos g]; rfl
    · rw [if_neg (by omega), if_pos g']; rfl
    · rw [if_neg (by omega), if_neg (by omega)]; rfl
  have fin : ∀ r : Nat × Nat, decodeN (T.length - p) x0 x1 x2 x3 = r → r.1 ≠ 65533 → 128 ≤ r.1 ∧ (Utf8.encode ((r.1 : Nat) : Int)).size = r.2 ∧ 2 ≤ r.2 ∧ r.2 ≤ 4 := by
    intro r hr hne
    unfold decodeN at hr
    repeat' split at hr
    all_goals (subst hr; simp only [] at hne ⊢)
    all_goals first
      | (exfalso; omega)
      | exact ⟨by omega, key _ _ (by omega) (by omega) (by omega), by omega, by omega⟩
  exact fin _ rfl hne

end Go.Proofs.YthhpfdjcggfhaaaDoor
