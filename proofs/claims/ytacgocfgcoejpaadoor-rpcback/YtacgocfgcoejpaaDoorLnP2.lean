/- Texts of json and rpc, part 2: RPos, RPosR, JPar, JRpcE, JEfn, JEq, RRead0, RRead, RpcBackW, JRow, JRowC, RRow. -/
import Derived.Test.YtacgocfgcoejpaaDoorLnP1
import Derived.Test.YtacgocfgcoejpaaDoorJPlain
import Derived.Test.YtacgocfgcoejpaaDoorJEq0
import Derived.Test.YtacgocfgcoejpaaDoorJsonMakesW
import Derived.Test.YtacgocfgcoejpaaDoorRows
import Derived.ProofKit
import Derived.OpenShut
import Derived.ChangeOld
import Derived.SizedLaws
import Derived.HandedShaped
import Derived.Lay
import Derived.MakeChecks
import Derived.Lib.LaidU8
import Derived.Shelf.Vars
import Derived.Deep.Strs
import Derived.Lib.LaidTab
import Derived.Stop.LaidErr
import Derived.Deep.Slices
namespace Go.Proofs.YtacgocfgcoejpaaDoor
set_option linter.unusedVariables false
set_option linter.unusedSimpArgs false
set_option maxRecDepth 100000
open Go Go.RowKit Go.Shelf Go.Lib

def kLine : ByteArray := ⟨#[108, 105, 110, 101]⟩
def kChar : ByteArray := ⟨#[99, 104, 97, 114, 97, 99, 116, 101, 114]⟩
def kStart : ByteArray := ⟨#[115, 116, 97, 114, 116]⟩
def kEnd : ByteArray := ⟨#[101, 110, 100]⟩
def numT (n : Int) : JT := .mk 3 (strOf (itoaT n)) [] []
def posT (a b : Int) : JT := .mk 6 ⟨#[]⟩ [kLine, kChar] [numT a, numT b]
def rangeT (a b c d : Int) : JT := .mk 6 ⟨#[]⟩ [kStart, kEnd] [posT a b, posT c d]
def Few (n : Int) : Prop := -999999999 ≤ n ∧ n ≤ 999999999
theorem clJ_num (n : Int) : clJ (numT n) = numT n := by
  unfold numT
  rw [clJ_eq]
  simp [sP, kP, lP, clJs]
theorem clJ_pos (a b : Int) : clJ (posT a b) = posT a b := by
  unfold posT
  rw [clJ_eq]
  simp [sP, kP, lP, clJs, clJ_num]
theorem itoa_len {n : Int} (h : Few n) : (itoaT n).length ≤ 100 := by
  have h1 := (int_some itoaT_lt (int_itoa h.1 h.2)).2.2.1
  have h2 := (restT_length (itoaT n)).1
  split at h2 <;> omega
theorem num_lt {n : Int} (h : Few n) : LtT (numT n) := .mk 3 _ [] [] (by simp) (by simp) (by rw [strOf_size]; have := itoa_len h; omega) (fun i hi => by simp at hi)
theorem two_lt {k1 k2 : ByteArray} {A B : JT} (h1 : LtT A) (h2 : LtT B) : LtT (.mk 6 ⟨#[]⟩ [k1, k2] [A, B]) := .mk 6 ⟨#[]⟩ _ _ (by simp) (by simp) (by decide) (fun i hi => by
  match i, hi with
  | 0, _ => exact h1
  | 1, _ => exact h2)
theorem pos_lt {a b : Int} (h1 : Few a) (h2 : Few b) : LtT (posT a b) := two_lt (num_lt h1) (num_lt h2)
theorem range_lt {a b c d : Int} (h1 : Few a) (h2 : Few b) (h3 : Few c) (h4 : Few d) : LtT (rangeT a b c d) := two_lt (pos_lt h1 h2) (pos_lt h3 h4)
/-- Two pairs in a new block. -/
theorem pairs_two {W : World} {B : Nat} {S : Nat → Prop} {k1 k2 : ByteArray} {x y : JC} {A C : JT} (hb : BoxC W B 80 (pair5 k1 x ++ pair5 k2 y).toArray) (hx : TIn W S x A) (hy : TIn W S y C) (h1 : LtT A) (h2 : LtT C) :
    PairsT W S (.slice (some ⟨B, 0, none⟩) 2 2) [k1, k2] (fun i => if i = 0 then x else y) [A, C] := by
  refine ⟨some ⟨B, 0, none⟩, 2, rfl, rfl, fun i hi => ?_⟩
  match i, hi with
  | 0, _ =>
    refine ⟨B, 0, A, rfl, fun r hr => ?_, rfl, hx, h1⟩
    have := hb.cell r
    rw [show 0 + (0 * 5 + r) = r by omega, this, List.getElem?_toArray]
    exact List.getElem?_append_left (by simpa [pair5] using hr)
  | 1, _ =>
    refine ⟨B, 0, C, rfl, fun r hr => ?_, rfl, hy, h2⟩
    have := hb.cell (5 + r)
    rw [show 0 + (1 * 5 + r) = 5 + r by omega, this, List.getElem?_toArray, List.getElem?_append_right (by simp [pair5])]
    simp [pair5, nthS]
/-- A tree that is answered, in new memory. -/
def NewT (T : JT) (w : World) (e : Ending) (w' : World) : Prop := ∃ y : JC, e = .returned (vagg y) ∧ Below w.heap.size w w' ∧ TIn w' (fun b => w.heap.size ≤ b) y T
theorem num_in (W : World) (S : Nat → Prop) (n : Int) : TIn W S (nC (strOf (itoaT n))) (numT n) := flat_in W S (x := nC (strOf (itoaT n))) ⟨rfl, rfl⟩

set_option maxHeartbeats 8000000 in
theorem frompos_any (w : World) (a b : Int) (ha : Few a) (hb : Few b) (hP : Pow w) : Calls Tryd.prog 13 #[.agg #[.int .i64 a, .int .i64 b]] w (NewT (posT a b) w) := by
  have hbl : Below w.heap.size w ((w.alloc (.cells #[.int .i64 a, .int .i64 b] 39)).alloc (.cells #[.int .i64 0, .string ⟨#[]⟩, .slice none 0 0, .slice none 0 0] 25)) := (bel w _).alloc (by simp) _
  have hp := (BoxC.new w 39 #[.int .i64 a, .int .i64 b]).alloc (.cells #[.int .i64 0, .string ⟨#[]⟩, .slice none 0 0, .slice none 0 0] 25)
  have hq := BoxC.new (w.alloc (.cells #[.int .i64 a, .int .i64 b] 39)) 25 #[.int .i64 0, .string ⟨#[]⟩, .slice none 0 0, .slice none 0 0]
  rw [World.size_alloc] at hq
  generalize hw0 : (w.alloc (.cells #[.int .i64 a, .int .i64 b] 39)).alloc (.cells #[.int .i64 0, .string ⟨#[]⟩, .slice none 0 0, .slice none 0 0] 25) = w0 at *
  have HOA := hide (fun W (hW : Below w0.heap.size w0 W) => ofn_any W a ha.1 ha.2 ((hP.below hbl).below hW))
  have HOB := hide (fun W (hW : Below w0.heap.size w0 W) => ofn_any W b hb.1 hb.2 ((hP.below hbl).below hW))
  have HMA : Hid (∀ W B, BoxC W B 80 (pair5 kLine (nC (strOf (itoaT a))) ++ pair5 kChar (nC (strOf (itoaT b)))).toArray → Calls Tryd.prog 31 #[.slice (some ⟨B, 0, none⟩) 2 2] W (NewT (posT a b) W)) := fun W B hB => by
    refine (made_any W (fun _ => True) _ _ _ _ (pairs_two hB (num_in W _ a) (num_in W _ b) (num_lt ha) (num_lt hb)) (by simp)).mono ?_
    rintro e w' ⟨y, rfl, h1, h2⟩
    refine ⟨y, rfl, h1, ?_⟩
    rw [List.map_cons, List.map_cons, List.map_nil, clJ_num, clJ_num] at h2
    exact h2
  unfold OfNR nC vagg at HOA HOB
  unfold nC pair5 at HMA
  simp only [List.cons_append, List.nil_append] at HOA HOB HMA
  generalize strOf (itoaT a) = sa at *
  generalize strOf (itoaT b) = sb at *
  have HS : Hid (∀ X0 : World, Below w0.heap.size w0 X0 → (X0.cell? ⟨w.heap.size, 0, none⟩ = some (.int .i64 a) ∧ X0.cell? ⟨w.heap.size, 1, none⟩ = some (.int .i64 b))) := fun X0 h => ⟨(hp.below h).cell 0, (hp.below h).cell 1⟩
  have HW0 := hide hw0
  have HQ := hide hq
  have HP := hide hp
  have HB1 := hide hbl
  clear hw0 hp hq hbl ha hb hP
  go_enter Tryd.func13, Tryd.ntmps13
  go_upto_region 1 with fail
  rw [HW0.out]
  clear HW0
  refine wp_region_held_drew (S := fun X0 : World => X0.cell? ⟨w.heap.size, 0, none⟩ = some (.int .i64 a) ∧ X0.cell? ⟨w.heap.size, 1, none⟩ = some (.int .i64 b)) (by kernel_rfl) (HS.out _ (Below.refl _ _).drew) (fun hHeld => ?_)
  have HB : Hid (Below w0.heap.size w0 w0.drew) := (Below.refl _ _).drew
  generalize w0.drew = wd at *
  refine takeD (i := 0) (v := ?v1) (some 3) rfl (by kernel_rfl) (by kernel_rfl) (by kernel_rfl) (fun _ _ _ h => h) (Or.inl ⟨by rfl, ?hy1⟩) (HS.out _ HB.out) (by rfl) ?rest1
  case hy1 => first | (intro w hSw; (try dsimp only at hSw); obtain ⟨s0, s1⟩ := hSw; go_simp; done) | (intro w hSw; (try dsimp only at hSw); obtain ⟨s0, s1⟩ := hSw; go_simp; with_reducible rfl)
  try simp only [Act.put, List.setIfInBounds_toArray, List.set_cons_zero, List.set_cons_succ, vagg]
  refine takeD (i := 1) (v := ?v2) (some 4) rfl (by kernel_rfl) (by kernel_rfl) (by kernel_rfl) (fun _ _ _ h => h) (Or.inl ⟨by rfl, ?hy2⟩) (HS.out _ HB.out) (by rfl) ?rest2
  case hy2 => first | (intro w hSw; (try dsimp only at hSw); obtain ⟨s0, s1⟩ := hSw; go_simp; done) | (intro w hSw; (try dsimp only at hSw); obtain ⟨s0, s1⟩ := hSw; go_simp; with_reducible rfl)
  try simp only [Act.put, List.setIfInBounds_toArray, List.set_cons_zero, List.set_cons_succ, vagg]
  refine takeD (i := 4) (v := ?v3) (some 7) rfl (by kernel_rfl) (by kernel_rfl) (by kernel_rfl) (fun _ _ _ h => h) (Or.inl ⟨by rfl, ?hy3⟩) (HS.out _ HB.out) (by rfl) ?rest3
  case hy3 => first | (intro w hSw; (try dsimp only at hSw); obtain ⟨s0, s1⟩ := hSw; go_simp; done) | (intro w hSw; (try dsimp only at hSw); obtain ⟨s0, s1⟩ := hSw; go_simp; with_reducible rfl)
  try simp only [Act.put, List.setIfInBounds_toArray, List.set_cons_zero, List.set_cons_succ, vagg]
  refine takeD (i := 5) (v := ?v4) (some 8) rfl (by kernel_rfl) (by kernel_rfl) (by kernel_rfl) (fun _ _ _ h => h) (Or.inl ⟨by rfl, ?hy4⟩) (HS.out _ HB.out) (by rfl) ?rest4
  case hy4 => first | (intro w hSw; (try dsimp only at hSw); obtain ⟨s0, s1⟩ := hSw; go_simp; done) | (intro w hSw; (try dsimp only at hSw); obtain ⟨s0, s1⟩ := hSw; go_simp; with_reducible rfl)
  try simp only [Act.put, List.setIfInBounds_toArray, List.set_cons_zero, List.set_cons_succ, vagg]
  refine wpAnyH_ready (rs := [2]) (by kernel_rfl) (by simp) ?_
  refine AllReadyH.cons rfl (fun K9 hK => ?_) AllReadyH.nil
  go_simp
  have hcall := HOA.out wd HB.out
  try unfold vagg at hcall
  try simp only at hcall
  refine hcall.mono ?_
  rintro e w1 ⟨rfl, hb9⟩
  have HB9 := hide (HB.out.trans (hb9.mono HB.out.size))
  clear hcall HB
  rename Hid (Below _ _ w1) => HB
  refine hK.out _ _ (HS.out _ HB.out) (fun _ => ?_)
  clear hK K9 hb9
  try simp only [Act.put, List.setIfInBounds_toArray, List.set_cons_zero, List.set_cons_succ, vagg]
  refine takeD (i := 3) (v := ?v5) (some 6) rfl (by kernel_rfl) (by kernel_rfl) (by kernel_rfl) (fun _ _ _ h => h) (Or.inl ⟨by rfl, ?hy5⟩) (HS.out _ HB.out) (by rfl) ?rest5
  case hy5 => first | (intro w hSw; (try dsimp only at hSw); obtain ⟨s0, s1⟩ := hSw; go_simp; done) | (intro w hSw; (try dsimp only at hSw); obtain ⟨s0, s1⟩ := hSw; go_simp; with_reducible rfl)
  try simp only [Act.put, List.setIfInBounds_toArray, List.set_cons_zero, List.set_cons_succ, vagg]
  refine wpAnyH_ready (rs := [6]) (by kernel_rfl) (by simp) ?_
  refine AllReadyH.cons rfl (fun K9 hK => ?_) AllReadyH.nil
  go_simp
  have hcall := HOB.out w1 HB.out
  try unfold vagg at hcall
  try simp only at hcall
  refine hcall.mono ?_
  rintro e w2 ⟨rfl, hb9⟩
  have HB9 := hide (HB.out.trans (hb9.mono HB.out.size))
  clear hcall HB
  rename Hid (Below _ _ w2) => HB
  refine hK.out _ _ (HS.out _ HB.out) (fun _ => ?_)
  clear hK K9 hb9
  try simp only [Act.put, List.setIfInBounds_toArray, List.set_cons_zero, List.set_cons_succ, vagg]
  refine takeD (i := 7) (v := ?v6) (some 10) rfl (by kernel_rfl) (by kernel_rfl) (by kernel_rfl) (fun _ _ _ h => h) (Or.inl ⟨by rfl, ?hy6⟩) (HS.out _ HB.out) (by rfl) ?rest6
  case hy6 => first | (intro w hSw; (try dsimp only at hSw); obtain ⟨s0, s1⟩ := hSw; go_simp; done) | (intro w hSw; (try dsimp only at hSw); obtain ⟨s0, s1⟩ := hSw; go_simp; with_reducible rfl)
  try simp only [Act.put, List.setIfInBounds_toArray, List.set_cons_zero, List.set_cons_succ, vagg]
  refine wpAnyH_ready (rs := [8]) (by kernel_rfl) (by simp) ?_
  refine AllReadyH.cons rfl (fun K9 hK => ?_) AllReadyH.nil
  go_simp
  have hb9 := bel w2 (.cells #[.string ⟨#[108, 105, 110, 101]⟩, .int .i64 3, .string sa, .slice none 0 0, .slice none 0 0, .string ⟨#[99, 104, 97, 114, 97, 99, 116, 101, 114]⟩, .int .i64 3, .string sb, .slice none 0 0, .slice none 0 0] 80)
  have hbx := BoxC.new w2 80 #[.string ⟨#[108, 105, 110, 101]⟩, .int .i64 3, .string sa, .slice none 0 0, .slice none 0 0, .string ⟨#[99, 104, 97, 114, 97, 99, 116, 101, 114]⟩, .int .i64 3, .string sb, .slice none 0 0, .slice none 0 0]
  have HB9 := hide (HB.out.trans (hb9.mono HB.out.size))
  refine hK.out _ _ (HS.out _ HB9.out) (fun _ => ?_)
  clear hK K9 hb9 HB
  try simp only [Act.put, List.setIfInBounds_toArray, List.set_cons_zero, List.set_cons_succ, vagg]
  generalize hB2 : w2.heap.size = B2 at *
  generalize hw3 : w2.alloc (.cells #[.string ⟨#[108, 105, 110, 101]⟩, .int .i64 3, .string sa, .slice none 0 0, .slice none 0 0, .string ⟨#[99, 104, 97, 114, 97, 99, 116, 101, 114]⟩, .int .i64 3, .string sb, .slice none 0 0, .slice none 0 0] 80) = w3 at *
  have HB := HB9
  clear HB9
  have HBX := hide hbx
  clear hbx hw3
  refine wpAnyH_ready (rs := [9]) (by kernel_rfl) (by simp) ?_
  refine AllReadyH.cons rfl (fun K9 hK => ?_) AllReadyH.nil
  go_simp
  have hcall := HMA.out w3 B2 HBX.out
  try unfold vagg at hcall
  try simp only at hcall
  refine hcall.mono ?_
  rintro e w4 ⟨⟨yk, ys, yK, yL⟩, rfl, hb9, hT⟩
  have HB9 := hide (HB.out.trans (hb9.mono HB.out.size))
  obtain ⟨h4, h5⟩ := hT.sl
  simp only at h4 h5
  obtain ⟨pa, pn, pc, rfl⟩ := h4
  obtain ⟨qa, qn, qc, rfl⟩ := h5
  have HT := hide hT
  have HL := hide (show w.heap.size + 1 < w3.heap.size from (HQ.out.below HB.out).lt)
  clear hT
  clear hcall HB
  rename Hid (Below _ _ w4) => HB
  refine hK.out _ _ (HS.out _ HB.out) (fun _ => ?_)
  clear hK K9 hb9
  try simp only [Act.put, List.setIfInBounds_toArray, List.set_cons_zero, List.set_cons_succ, vagg]
  have hq4 := HQ.out.below HB.out
  have z0 := hq4.cell 0
  have z1 := hq4.cell 1
  have z2 := hq4.cell 2
  have z3 := hq4.cell 3
  simp only [List.getElem?_toArray, List.getElem?_cons_zero, List.getElem?_cons_succ] at z0 z1 z2 z3
  have y0 := hq4.frozen 0
  have y1 := hq4.frozen 1
  have y2 := hq4.frozen 2
  have y3 := hq4.frozen 3
  have lX := hq4.lt
  have HQ4 := hide hq4
  have HBF : Hid (Below w0.heap.size w0 w4) := HB.out
  have HSF := hide (HS.out _ HBF.out)
  clear hq4
  refine wpAnyH_ready (rs := [10]) (by kernel_rfl) (by simp) ?_
  refine AllReadyH.cons rfl (fun K9 hK => ?_) AllReadyH.nil
  go_simp
  have hS4 := box_off4 (HP.out.below HBF.out) (show w.heap.size ≠ w.heap.size + 1 by omega) (.int .i64 yk) (.string ys) (.slice pa pn pc) (.slice qa qn qc)
  refine hK.out _ _ ⟨hS4.cell 0, hS4.cell 1⟩ (fun _ => ?_)
  clear hK K9 hS4
  try simp only [Act.put, List.setIfInBounds_toArray, List.set_cons_zero, List.set_cons_succ, vagg]
  refine wpAnyH_done (by kernel_rfl) ?_ _
  go_wp2
  refine bodyPost_ret (results_jv rfl rfl (resJ_v HQ4.out (.int .i64 yk) (.string ys) (.slice pa pn pc) (.slice qa qn qc))) rfl ?_
  refine ⟨(yk, ys, .slice pa pn pc, .slice qa qn qc), rfl, below4 (HB1.out.trans (HBF.out.mono HB1.out.size)) (by omega) _ _ _ _, HT.out.keep fun b hs _ => ?_⟩
  have hs' : w3.heap.size ≤ b := hs
  have hl := HL.out
  refine ⟨by show w.heap.size ≤ b; omega, ?_⟩
  have hne : b ≠ w.heap.size + 1 := by omega
  rw [Below.heap_setCell _ ⟨w.heap.size + 1, 3, none⟩ _ b hne, Below.heap_setCell _ ⟨w.heap.size + 1, 2, none⟩ _ b hne, Below.heap_setCell _ ⟨w.heap.size + 1, 1, none⟩ _ b hne, Below.heap_setCell _ ⟨w.heap.size + 1, 0, none⟩ _ b hne]

set_option maxHeartbeats 8000000 in
theorem fromrange_any (w : World) (a b c d : Int) (ha : Few a) (hb : Few b) (hc : Few c) (hd : Few d) (hP : Pow w) : Calls Tryd.prog 15 #[.agg #[.int .i64 a, .int .i64 b], .agg #[.int .i64 c, .int .i64 d]] w (NewT (rangeT a b c d) w) := by
  have hbl : Below w.heap.size w (((w.alloc (.cells #[.int .i64 a, .int .i64 b] 39)).alloc (.cells #[.int .i64 c, .int .i64 d] 39)).alloc (.cells #[.int .i64 0, .string ⟨#[]⟩, .slice none 0 0, .slice none 0 0] 25)) := ((bel w _).alloc (by simp) _).alloc (by simp only [World.size_alloc]; omega) _
  have hp := ((BoxC.new w 39 #[.int .i64 a, .int .i64 b]).alloc (.cells #[.int .i64 c, .int .i64 d] 39)).alloc (.cells #[.int .i64 0, .string ⟨#[]⟩, .slice none 0 0, .slice none 0 0] 25)
  have hp2 := (BoxC.new (w.alloc (.cells #[.int .i64 a, .int .i64 b] 39)) 39 #[.int .i64 c, .int .i64 d]).alloc (.cells #[.int .i64 0, .string ⟨#[]⟩, .slice none 0 0, .slice none 0 0] 25)
  have hq := BoxC.new ((w.alloc (.cells #[.int .i64 a, .int .i64 b] 39)).alloc (.cells #[.int .i64 c, .int .i64 d] 39)) 25 #[.int .i64 0, .string ⟨#[]⟩, .slice none 0 0, .slice none 0 0]
  rw [World.size_alloc] at hp2
  rw [World.size_alloc, World.size_alloc] at hq
  generalize hw0 : ((w.alloc (.cells #[.int .i64 a, .int .i64 b] 39)).alloc (.cells #[.int .i64 c, .int .i64 d] 39)).alloc (.cells #[.int .i64 0, .string ⟨#[]⟩, .slice none 0 0, .slice none 0 0] 25) = w0 at *
  have HOA := hide (fun W (hW : Below w0.heap.size w0 W) => frompos_any W a b ha hb ((hP.below hbl).below hW))
  have HOB := hide (fun W (hW : Below w0.heap.size w0 W) => frompos_any W c d hc hd ((hP.below hbl).below hW))
  have HMA : Hid (∀ W B x y S, TIn W S x (posT a b) → TIn W S y (posT c d) → BoxC W B 80 (pair5 kStart x ++ pair5 kEnd y).toArray → Calls Tryd.prog 31 #[.slice (some ⟨B, 0, none⟩) 2 2] W (NewT (rangeT a b c d) W)) := fun W B x y S hx hy hB => by
    refine (made_any W S _ _ _ _ (pairs_two hB hx hy (pos_lt ha hb) (pos_lt hc hd)) (by simp)).mono ?_
    rintro e w' ⟨y, rfl, h1, h2⟩
    refine ⟨y, rfl, h1, ?_⟩
    rw [List.map_cons, List.map_cons, List.map_nil, clJ_pos, clJ_pos] at h2
    exact h2
  have HS : Hid (∀ X0 : World, Below w0.heap.size w0 X0 → (X0.cell? ⟨w.heap.size, 0, none⟩ = some (.int .i64 a) ∧ X0.cell? ⟨w.heap.size, 1, none⟩ = some (.int .i64 b) ∧ X0.cell? ⟨w.heap.size + 1, 0, none⟩ = some (.int .i64 c) ∧ X0.cell? ⟨w.heap.size + 1, 1, none⟩ = some (.int .i64 d))) := fun X0 h => ⟨(hp.below h).cell 0, (hp.below h).cell 1, (hp2.below h).cell 0, (hp2.below h).cell 1⟩
  have HW0 := hide hw0
  have HQ := hide hq
  have HP := hide hp
  have HP2 := hide hp2
  have HB1 := hide hbl
  clear hw0 hp hp2 hq hbl ha hb hc hd hP
  go_enter Tryd.func15, Tryd.ntmps15
  go_upto_region 1 with fail
  rw [HW0.out]
  clear HW0
  refine wp_region_held_drew (S := fun X0 : World => X0.cell? ⟨w.heap.size, 0, none⟩ = some (.int .i64 a) ∧ X0.cell? ⟨w.heap.size, 1, none⟩ = some (.int .i64 b) ∧ X0.cell? ⟨w.heap.size + 1, 0, none⟩ = some (.int .i64 c) ∧ X0.cell? ⟨w.heap.size + 1, 1, none⟩ = some (.int .i64 d)) (by kernel_rfl) (HS.out _ (Below.refl _ _).drew) (fun hHeld => ?_)
  have HB : Hid (Below w0.heap.size w0 w0.drew) := (Below.refl _ _).drew
  generalize w0.drew = wd at *
  refine takeD (i := 0) (v := ?v7) (some 5) rfl (by kernel_rfl) (by kernel_rfl) (by kernel_rfl) (fun _ _ _ h => h) (Or.inl ⟨by rfl, ?hy7⟩) (HS.out _ HB.out) (by rfl) ?rest7
  case hy7 => first | (intro w hSw; (try dsimp only at hSw); obtain ⟨s0, s1, s2, s3⟩ := hSw; go_simp; done) | (intro w hSw; (try dsimp only at hSw); obtain ⟨s0, s1, s2, s3⟩ := hSw; go_simp; with_reducible rfl)
  try simp only [Act.put, List.setIfInBounds_toArray, List.set_cons_zero, List.set_cons_succ, vagg]
  refine takeD (i := 3) (v := ?v8) (some 8) rfl (by kernel_rfl) (by kernel_rfl) (by kernel_rfl) (fun _ _ _ h => h) (Or.inl ⟨by rfl, ?hy8⟩) (HS.out _ HB.out) (by rfl) ?rest8
  case hy8 => first | (intro w hSw; (try dsimp only at hSw); obtain ⟨s0, s1, s2, s3⟩ := hSw; go_simp; done) | (intro w hSw; (try dsimp only at hSw); obtain ⟨s0, s1, s2, s3⟩ := hSw; go_simp; with_reducible rfl)
  try simp only [Act.put, List.setIfInBounds_toArray, List.set_cons_zero, List.set_cons_succ, vagg]
  refine wpAnyH_ready (rs := [1]) (by kernel_rfl) (by simp) ?_
  refine AllReadyH.cons rfl (fun K9 hK => ?_) AllReadyH.nil
  go_simp
  have hcall := HOA.out wd HB.out
  try unfold vagg at hcall
  try simp only at hcall
  refine hcall.mono ?_
  rintro e w1 ⟨⟨uk, us, uK, uL⟩, rfl, hb9, hT⟩
  have HB9 := hide (HB.out.trans (hb9.mono HB.out.size))
  obtain ⟨h4, h5⟩ := hT.sl
  simp only at h4 h5
  obtain ⟨ua, un, uc, rfl⟩ := h4
  obtain ⟨va, vn, vc, rfl⟩ := h5
  have HU := hide hT
  clear hT
  clear hcall HB
  rename Hid (Below _ _ w1) => HB
  refine hK.out _ _ (HS.out _ HB.out) (fun _ => ?_)
  clear hK K9 hb9
  try simp only [Act.put, List.setIfInBounds_toArray, List.set_cons_zero, List.set_cons_succ, vagg]
  refine takeD (i := 2) (v := ?v9) (some 7) rfl (by kernel_rfl) (by kernel_rfl) (by kernel_rfl) (fun _ _ _ h => h) (Or.inl ⟨by rfl, ?hy9⟩) (HS.out _ HB.out) (by rfl) ?rest9
  case hy9 => first | (intro w hSw; (try dsimp only at hSw); obtain ⟨s0, s1, s2, s3⟩ := hSw; go_simp; done) | (intro w hSw; (try dsimp only at hSw); obtain ⟨s0, s1, s2, s3⟩ := hSw; go_simp; with_reducible rfl)
  try simp only [Act.put, List.setIfInBounds_toArray, List.set_cons_zero, List.set_cons_succ, vagg]
  refine wpAnyH_ready (rs := [4]) (by kernel_rfl) (by simp) ?_
  refine AllReadyH.cons rfl (fun K9 hK => ?_) AllReadyH.nil
  go_simp
  have hcall := HOB.out w1 HB.out
  try unfold vagg at hcall
  try simp only at hcall
  refine hcall.mono ?_
  rintro e w2 ⟨⟨xk, xs, xK, xL⟩, rfl, hb9, hT⟩
  have HB9 := hide (HB.out.trans (hb9.mono HB.out.size))
  obtain ⟨h4, h5⟩ := hT.sl
  simp only at h4 h5
  obtain ⟨xa, xn, xc, rfl⟩ := h4
  obtain ⟨za, zn, zc, rfl⟩ := h5
  have HX := hide hT
  clear hT
  have HU9 := hide (HU.out.bel hb9)
  clear hcall HB HU
  rename Hid (Below _ _ w2) => HB
  have HU := HU9
  clear HU9
  refine hK.out _ _ (HS.out _ HB.out) (fun _ => ?_)
  clear hK K9 hb9
  try simp only [Act.put, List.setIfInBounds_toArray, List.set_cons_zero, List.set_cons_succ, vagg]
  refine takeD (i := 5) (v := ?v10) (some 10) rfl (by kernel_rfl) (by kernel_rfl) (by kernel_rfl) (fun _ _ _ h => h) (Or.inl ⟨by rfl, ?hy10⟩) (HS.out _ HB.out) (by rfl) ?rest10
  case hy10 => first | (intro w hSw; (try dsimp only at hSw); obtain ⟨s0, s1, s2, s3⟩ := hSw; go_simp; done) | (intro w hSw; (try dsimp only at hSw); obtain ⟨s0, s1, s2, s3⟩ := hSw; go_simp; with_reducible rfl)
  try simp only [Act.put, List.setIfInBounds_toArray, List.set_cons_zero, List.set_cons_succ, vagg]
  refine wpAnyH_ready (rs := [6]) (by kernel_rfl) (by simp) ?_
  refine AllReadyH.cons rfl (fun K9 hK => ?_) AllReadyH.nil
  go_simp
  have hb9 := bel w2 (.cells #[.string ⟨#[115, 116, 97, 114, 116]⟩, .int .i64 uk, .string us, .slice ua un uc, .slice va vn vc, .string ⟨#[101, 110, 100]⟩, .int .i64 xk, .string xs, .slice xa xn xc, .slice za zn zc] 80)
  have hbx := BoxC.new w2 80 #[.string ⟨#[115, 116, 97, 114, 116]⟩, .int .i64 uk, .string us, .slice ua un uc, .slice va vn vc, .string ⟨#[101, 110, 100]⟩, .int .i64 xk, .string xs, .slice xa xn xc, .slice za zn zc]
  have HB9 := hide (HB.out.trans (hb9.mono HB.out.size))
  have HU9 := hide ((HU.out.keep (W' := w2.alloc (.cells #[.string ⟨#[115, 116, 97, 114, 116]⟩, .int .i64 uk, .string us, .slice ua un uc, .slice va vn vc, .string ⟨#[101, 110, 100]⟩, .int .i64 xk, .string xs, .slice xa xn xc, .slice za zn zc] 80)) (S' := fun _ => True) (fun b _ hlt => ⟨trivial, hb9.block b hlt⟩)))
  have HX9 := hide ((HX.out.keep (W' := w2.alloc (.cells #[.string ⟨#[115, 116, 97, 114, 116]⟩, .int .i64 uk, .string us, .slice ua un uc, .slice va vn vc, .string ⟨#[101, 110, 100]⟩, .int .i64 xk, .string xs, .slice xa xn xc, .slice za zn zc] 80)) (S' := fun _ => True) (fun b _ hlt => ⟨trivial, hb9.block b hlt⟩)))
  refine hK.out _ _ (HS.out _ HB9.out) (fun _ => ?_)
  clear hK K9 hb9 HB HU HX
  try simp only [Act.put, List.setIfInBounds_toArray, List.set_cons_zero, List.set_cons_succ, vagg]
  generalize hB2 : w2.heap.size = B2 at *
  generalize hw3 : w2.alloc (.cells #[.string ⟨#[115, 116, 97, 114, 116]⟩, .int .i64 uk, .string us, .slice ua un uc, .slice va vn vc, .string ⟨#[101, 110, 100]⟩, .int .i64 xk, .string xs, .slice xa xn xc, .slice za zn zc] 80) = w3 at *
  have HB := HB9
  clear HB9
  have HBX := hide hbx
  clear hbx hw3
  refine wpAnyH_ready (rs := [7]) (by kernel_rfl) (by simp) ?_
  refine AllReadyH.cons rfl (fun K9 hK => ?_) AllReadyH.nil
  go_simp
  have hcall := HMA.out w3 B2 _ _ _ HU9.out HX9.out HBX.out
  try unfold vagg at hcall
  try simp only at hcall
  refine hcall.mono ?_
  rintro e w4 ⟨⟨yk, ys, yK, yL⟩, rfl, hb9, hT⟩
  have HB9 := hide (HB.out.trans (hb9.mono HB.out.size))
  obtain ⟨h4, h5⟩ := hT.sl
  simp only at h4 h5
  obtain ⟨pa, pn, pc, rfl⟩ := h4
  obtain ⟨qa, qn, qc, rfl⟩ := h5
  have HT := hide hT
  have HL := hide (show w.heap.size + 1 + 1 < w3.heap.size from (HQ.out.below HB.out).lt)
  clear hT
  clear hcall HB
  rename Hid (Below _ _ w4) => HB
  refine hK.out _ _ (HS.out _ HB.out) (fun _ => ?_)
  clear hK K9 hb9
  try simp only [Act.put, List.setIfInBounds_toArray, List.set_cons_zero, List.set_cons_succ, vagg]
  have hq4 := HQ.out.below HB.out
  have z0 := hq4.cell 0
  have z1 := hq4.cell 1
  have z2 := hq4.cell 2
  have z3 := hq4.cell 3
  simp only [List.getElem?_toArray, List.getElem?_cons_zero, List.getElem?_cons_succ] at z0 z1 z2 z3
  have y0 := hq4.frozen 0
  have y1 := hq4.frozen 1
  have y2 := hq4.frozen 2
  have y3 := hq4.frozen 3
  have lX := hq4.lt
  have HQ4 := hide hq4
  have HBF : Hid (Below w0.heap.size w0 w4) := HB.out
  have HSF := hide (HS.out _ HBF.out)
  clear hq4
  refine wpAnyH_ready (rs := [8]) (by kernel_rfl) (by simp) ?_
  refine AllReadyH.cons rfl (fun K9 hK => ?_) AllReadyH.nil
  go_simp
  have hS4 := box_off4 (HP.out.below HBF.out) (show w.heap.size ≠ w.heap.size + 1 + 1 by omega) (.int .i64 yk) (.string ys) (.slice pa pn pc) (.slice qa qn qc)
  have hS5 := box_off4 (HP2.out.below HBF.out) (show w.heap.size + 1 ≠ w.heap.size + 1 + 1 by omega) (.int .i64 yk) (.string ys) (.slice pa pn pc) (.slice qa qn qc)
  refine hK.out _ _ ⟨hS4.cell 0, hS4.cell 1, hS5.cell 0, hS5.cell 1⟩ (fun _ => ?_)
  clear hK K9 hS4 hS5
  try simp only [Act.put, List.setIfInBounds_toArray, List.set_cons_zero, List.set_cons_succ, vagg]
  refine wpAnyH_done (by kernel_rfl) ?_ _
  go_wp2
  refine bodyPost_ret (results_jv rfl rfl (resJ_v HQ4.out (.int .i64 yk) (.string ys) (.slice pa pn pc) (.slice qa qn qc))) rfl ?_
  refine ⟨(yk, ys, .slice pa pn pc, .slice qa qn qc), rfl, below4 (HB1.out.trans (HBF.out.mono HB1.out.size)) (by omega) _ _ _ _, HT.out.keep fun b hs _ => ?_⟩
  have hs' : w3.heap.size ≤ b := hs
  have hl := HL.out
  refine ⟨by show w.heap.size ≤ b; omega, ?_⟩
  have hne : b ≠ w.heap.size + 1 + 1 := by omega
  rw [Below.heap_setCell _ ⟨w.heap.size + 1 + 1, 3, none⟩ _ b hne, Below.heap_setCell _ ⟨w.heap.size + 1 + 1, 2, none⟩ _ b hne, Below.heap_setCell _ ⟨w.heap.size + 1 + 1, 1, none⟩ _ b hne, Below.heap_setCell _ ⟨w.heap.size + 1 + 1, 0, none⟩ _ b hne]


end Go.Proofs.YtacgocfgcoejpaaDoor

namespace Go.Proofs.YtacgocfgcoejpaaDoor
set_option linter.unusedVariables false
set_option linter.unusedSimpArgs false
set_option maxRecDepth 100000
open Go Go.RowKit Go.Shelf Go.Lib

theorem results_pt2 {fn : Func} {i k : Tmp} (h : fn.results = #[.cell i 39, .tmp k]) {tmps : Array Value} {W : World} {b : Nat} {x y : Value} {t : TypeId} {ev : Value} (hp : tmps.getD i undef = .pointer (some ⟨b, 0, none⟩)) (he : tmps.getD k undef = ev) (T : BoxC W b t #[x, y]) :
    (results fn tmps).run Tryd.prog W = .ok (.tuple #[.agg #[x, y], ev]) W := by
  have c0 : W.cell? ⟨b, 0, none⟩ = some x := T.cell 0
  have c1 : W.cell? ⟨b, 1, none⟩ = some y := T.cell 1
  have hp' : tmps[i]?.getD undef = .pointer (some ⟨b, 0, none⟩) := by simpa using hp
  have he' : tmps[k]?.getD undef = ev := by simpa using he
  simp [results, h, hp', he', go_sem, c0, c1]
theorem results_pt3 {fn : Func} {i j k : Tmp} (h : fn.results = #[.cell i 39, .cell j 39, .tmp k]) {tmps : Array Value} {W : World} {b b' : Nat} {x y x' y' : Value} {t t' : TypeId} {ev : Value} (hp : tmps.getD i undef = .pointer (some ⟨b, 0, none⟩)) (hq : tmps.getD j undef = .pointer (some ⟨b', 0, none⟩)) (he : tmps.getD k undef = ev) (T : BoxC W b t #[x, y]) (T' : BoxC W b' t' #[x', y']) :
    (results fn tmps).run Tryd.prog W = .ok (.tuple #[.agg #[x, y], .agg #[x', y'], ev]) W := by
  have c0 : W.cell? ⟨b, 0, none⟩ = some x := T.cell 0
  have c1 : W.cell? ⟨b, 1, none⟩ = some y := T.cell 1
  have c2 : W.cell? ⟨b', 0, none⟩ = some x' := T'.cell 0
  have c3 : W.cell? ⟨b', 1, none⟩ = some y' := T'.cell 1
  have hp' : tmps[i]?.getD undef = .pointer (some ⟨b, 0, none⟩) := by simpa using hp
  have hq' : tmps[j]?.getD undef = .pointer (some ⟨b', 0, none⟩) := by simpa using hq
  have he' : tmps[k]?.getD undef = ev := by simpa using he
  simp [results, h, hp', hq', he', go_sem, c0, c1, c2, c3]
theorem num_is {W : World} {S : Nat → Prop} {y : JC} {n : Int} (h : TIn W S y (numT n)) : ∃ ka kn kc la ln lc, y = (3, strOf (itoaT n), .slice ka kn kc, .slice la ln lc) := by
  obtain ⟨h1, h2⟩ := h.sl
  cases h with
  | mk k s kv la lc K L xs hK hc hsl ht =>
    simp only at h1 h2
    obtain ⟨ka, kn, kc, rfl⟩ := h1
    exact ⟨ka, kn, kc, la, _, lc, rfl⟩
theorem int_num (w : World) {n : Int} (h : Few n) (ka la : Option Addr) (kn kc ln lc : Nat) (hE : ErrS w) :
    Calls Tryd.prog 54 #[.agg #[.int .i64 3, .string (strOf (itoaT n)), .slice ka kn kc, .slice la ln lc]] w fun e w' => e = .returned (.tuple #[.int .i64 n, .bool true]) ∧ Below w.heap.size w w' := by
  have hj := jint_any w 3 (itoaT n) itoaT_lt (by have := itoa_len h; omega) ka la kn kc ln lc hE
  unfold vagg at hj
  simp only at hj
  refine hj.mono ?_
  rintro e w' ⟨rfl, hb⟩
  refine ⟨?_, hb⟩
  unfold intJ
  rw [if_pos rfl, int_itoa h.1 h.2]
  rfl

set_option maxHeartbeats 8000000 in
theorem whole_ok (w : World) {S : Nat → Prop} {x : JC} {T : JT} (key : ByteArray) (n : Int) (hn : Few n) (hx : TIn w S x T) (hl : LtT T) (hg : getJ T key = some (numT n)) (hE : ErrS w) :
    Calls Tryd.prog 30 #[vagg x, .string key] w fun e w' => e = .returned (.tuple #[.int .i64 n, .bool true]) ∧ Below w.heap.size w w' := by
  obtain ⟨hs2, hs3⟩ := hx.sl
  obtain ⟨k, s, kv, lv⟩ := x
  obtain ⟨ka, kn, kc, rfl⟩ := hs2
  obtain ⟨la, ln, lc, rfl⟩ := hs3
  have hb := bel w (.cells #[.int .i64 k, .string s, .slice ka kn kc, .slice la ln lc] 25)
  have hp := BoxC.new w 25 #[.int .i64 k, .string s, .slice ka kn kc, .slice la ln lc]
  generalize hw0 : w.alloc (.cells #[.int .i64 k, .string s, .slice ka kn kc, .slice la ln lc] 25) = w0 at *
  have HGT := hide (get_any key w0 (hx.bel hb) hl)
  rw [hg] at HGT
  have HES := hide (hE.below hb)
  have HFN := hide hn
  unfold vagg at HGT ⊢
  simp only at HGT ⊢
  have v0 : w0.cell? ⟨w.heap.size, 0, none⟩ = some (.int .i64 k) := hp.cell 0
  have v1 : w0.cell? ⟨w.heap.size, 1, none⟩ = some (.string s) := hp.cell 1
  have v2 : w0.cell? ⟨w.heap.size, 2, none⟩ = some (.slice ka kn kc) := hp.cell 2
  have v3 : w0.cell? ⟨w.heap.size, 3, none⟩ = some (.slice la ln lc) := hp.cell 3
  have HW0 := hide hw0
  have HB1 := hide hb
  clear hw0 hp hb hx hl hg hE hn
  go_enter Tryd.func30, Tryd.ntmps30
  go_upto_region 1 with fail
  rw [HW0.out]
  clear HW0
  go_wp2_with fail
  refine HGT.out.mono ?_
  rintro e w1 ⟨y, rfl, hb1, hT⟩
  rw [Option.map_some, Option.getD_some, clJ_num] at hT
  obtain ⟨qa, qn, qc, ra, rn, rc, rfl⟩ := num_is hT
  simp only [vagg, Option.isSome_some]
  have HBA := hide hb1
  clear v0 v1 v2 v3 hT hb1 HGT
  have hb2 := bel w1 (.cells #[.int .i64 3, .string (strOf (itoaT n)), .slice qa qn qc, .slice ra rn rc] 25)
  have hx2 := BoxC.new w1 25 #[.int .i64 3, .string (strOf (itoaT n)), .slice qa qn qc, .slice ra rn rc]
  have HB2 := hide (HBA.out.trans (hb2.mono HBA.out.size))
  have HIT : Hid (∀ W, Below w0.heap.size w0 W → Calls Tryd.prog 54 #[.agg #[.int .i64 3, .string (strOf (itoaT n)), .slice qa qn qc, .slice ra rn rc]] W fun e w' => e = .returned (.tuple #[.int .i64 n, .bool true]) ∧ Below W.heap.size W w') := fun W hW => int_num W HFN.out qa ra qn qc rn rc (HES.out.below hW)
  clear hb2 HBA
  generalize strOf (itoaT n) = sn at *
  go_upto_region 2 with fail
  generalize w1.alloc (.cells #[.int .i64 3, .string sn, .slice qa qn qc, .slice ra rn rc] 25) = w2 at *
  have u0 := hx2.cell 0
  have u1 := hx2.cell 1
  have u2 := hx2.cell 2
  have u3 := hx2.cell 3
  simp only [List.getElem?_toArray, List.getElem?_cons_zero, List.getElem?_cons_succ] at u0 u1 u2 u3
  clear hx2
  go_wp2_with fail
  refine (HIT.out w2 HB2.out).mono ?_
  rintro e w3 ⟨rfl, hb3⟩
  have HB3 := hide (HB1.out.trans ((HB2.out.trans (hb3.mono HB2.out.size)).mono HB1.out.size))
  clear hb3 u0 u1 u2 u3
  go_wp2
  go_ret2
  exact ⟨rfl, HB3.out⟩

set_option maxHeartbeats 8000000 in
theorem position_ok (w : World) {S : Nat → Prop} {x : JC} {T : JT} (a b : Int) (ha : Few a) (hbf : Few b) (hx : TIn w S x T) (hl : LtT T) (hg1 : getJ T kLine = some (numT a)) (hg2 : getJ T kChar = some (numT b)) (hE : ErrS w) :
    Calls Tryd.prog 12 #[vagg x] w fun e w' => e = .returned (.tuple #[.agg #[.int .i64 a, .int .i64 b], .bool true]) ∧ Below w.heap.size w w' := by
  obtain ⟨hs2, hs3⟩ := hx.sl
  obtain ⟨k, s, kv, lv⟩ := x
  obtain ⟨ka, kn, kc, rfl⟩ := hs2
  obtain ⟨la, ln, lc, rfl⟩ := hs3
  have hb : Below w.heap.size w ((w.alloc (.cells #[.int .i64 k, .string s, .slice ka kn kc, .slice la ln lc] 25)).alloc (.cells #[.int .i64 0, .int .i64 0] 39)) := (bel w _).alloc (by simp) _
  have hp := (BoxC.new w 25 #[.int .i64 k, .string s, .slice ka kn kc, .slice la ln lc]).alloc (.cells #[.int .i64 0, .int .i64 0] 39)
  have hq := BoxC.new (w.alloc (.cells #[.int .i64 k, .string s, .slice ka kn kc, .slice la ln lc] 25)) 39 #[.int .i64 0, .int .i64 0]
  rw [World.size_alloc] at hq
  generalize hw0 : (w.alloc (.cells #[.int .i64 k, .string s, .slice ka kn kc, .slice la ln lc] 25)).alloc (.cells #[.int .i64 0, .int .i64 0] 39) = w0 at *
  have HLC := hide (fun W (hW : Below w0.heap.size w0 W) => whole_ok W kLine a ha ((hx.bel hb).bel hW) hl hg1 ((hE.below hb).below hW))
  have HCC := hide (fun W (hW : Below w0.heap.size w0 W) => whole_ok W kChar b hbf ((hx.bel hb).bel hW) hl hg2 ((hE.below hb).below hW))
  unfold vagg kLine at HLC
  unfold vagg kChar at HCC
  unfold vagg
  simp only at HLC HCC ⊢
  have HPV := hide hp
  have HQ := hide hq
  have HB : Hid (Below w0.heap.size w0 w0) := Below.refl _ _
  have HW0 := hide hw0
  have HB1 := hide hb
  clear hw0 hp hq hb hx hl hg1 hg2 hE ha hbf
  have v0 : w0.cell? ⟨w.heap.size, 0, none⟩ = some (.int .i64 k) := (HPV.out.below HB.out).cell 0
  have v1 : w0.cell? ⟨w.heap.size, 1, none⟩ = some (.string s) := (HPV.out.below HB.out).cell 1
  have v2 : w0.cell? ⟨w.heap.size, 2, none⟩ = some (.slice ka kn kc) := (HPV.out.below HB.out).cell 2
  have v3 : w0.cell? ⟨w.heap.size, 3, none⟩ = some (.slice la ln lc) := (HPV.out.below HB.out).cell 3
  go_enter Tryd.func12, Tryd.ntmps12
  go_upto_region 1 with fail
  rw [HW0.out]
  clear HW0
  go_wp2_with fail
  refine (HLC.out w0 HB.out).mono ?_
  rintro e w1 ⟨rfl, hb1⟩
  have HB := hide hb1
  clear hb1 v0 v1 v2 v3 HLC
  have v0 : w1.cell? ⟨w.heap.size, 0, none⟩ = some (.int .i64 k) := (HPV.out.below HB.out).cell 0
  have v1 : w1.cell? ⟨w.heap.size, 1, none⟩ = some (.string s) := (HPV.out.below HB.out).cell 1
  have v2 : w1.cell? ⟨w.heap.size, 2, none⟩ = some (.slice ka kn kc) := (HPV.out.below HB.out).cell 2
  have v3 : w1.cell? ⟨w.heap.size, 3, none⟩ = some (.slice la ln lc) := (HPV.out.below HB.out).cell 3
  go_wp2_with fail
  refine (HCC.out w1 HB.out).mono ?_
  rintro e w2 ⟨rfl, hb9⟩
  have HB2 := hide (HB.out.trans (hb9.mono HB.out.size))
  have hq2 := HQ.out.below HB2.out
  have z0 := hq2.cell 0
  have z1 := hq2.cell 1
  simp only [List.getElem?_toArray, List.getElem?_cons_zero, List.getElem?_cons_succ] at z0 z1
  have y0 := hq2.frozen 0
  have y1 := hq2.frozen 1
  have lX := hq2.lt
  have HQ2 := hide hq2
  clear hb9 v0 v1 v2 v3 HCC hq2
  go_wp2
  refine bodyPost_ret (results_pt2 rfl rfl rfl ((HQ2.out.set 0 (.int .i64 a)).set 1 (.int .i64 b))) rfl ?_
  exact ⟨rfl, ((HB1.out.trans (HB2.out.mono HB1.out.size)).setCell (p := ⟨w.heap.size + 1, 0, none⟩) (Nat.le_succ _) _).setCell (p := ⟨w.heap.size + 1, 1, none⟩) (Nat.le_succ _) _⟩

theorem get_line (a b : Int) : getJ (posT a b) kLine = some (numT a) := by
  unfold getJ posT
  simp [fndK]
theorem get_char (a b : Int) : getJ (posT a b) kChar = some (numT b) := by
  unfold getJ posT
  simp [fndK, show kLine ≠ kChar by decide]
theorem get_start (a b c d : Int) : getJ (rangeT a b c d) kStart = some (posT a b) := by
  unfold getJ rangeT
  simp [fndK]
theorem get_end (a b c d : Int) : getJ (rangeT a b c d) kEnd = some (posT c d) := by
  unfold getJ rangeT
  simp [fndK, show kStart ≠ kEnd by decide]

set_option maxHeartbeats 8000000 in
theorem range_ok (w : World) {S : Nat → Prop} {x : JC} (a b c d : Int) (ha : Few a) (hbf : Few b) (hc : Few c) (hd : Few d) (hx : TIn w S x (rangeT a b c d)) (hE : ErrS w) :
    Calls Tryd.prog 14 #[vagg x] w fun e w' => e = .returned (.tuple #[.agg #[.int .i64 a, .int .i64 b], .agg #[.int .i64 c, .int .i64 d], .bool true]) ∧ Below w.heap.size w w' := by
  obtain ⟨hs2, hs3⟩ := hx.sl
  obtain ⟨k, s, kv, lv⟩ := x
  obtain ⟨ka, kn, kc, rfl⟩ := hs2
  obtain ⟨la, ln, lc, rfl⟩ := hs3
  have hb : Below w.heap.size w (((w.alloc (.cells #[.int .i64 k, .string s, .slice ka kn kc, .slice la ln lc] 25)).alloc (.cells #[.int .i64 0, .int .i64 0] 39)).alloc (.cells #[.int .i64 0, .int .i64 0] 39)) := ((bel w _).alloc (by simp) _).alloc (by simp only [World.size_alloc]; omega) _
  have hp := ((BoxC.new w 25 #[.int .i64 k, .string s, .slice ka kn kc, .slice la ln lc]).alloc (.cells #[.int .i64 0, .int .i64 0] 39)).alloc (.cells #[.int .i64 0, .int .i64 0] 39)
  have hqa := (BoxC.new (w.alloc (.cells #[.int .i64 k, .string s, .slice ka kn kc, .slice la ln lc] 25)) 39 #[.int .i64 0, .int .i64 0]).alloc (.cells #[.int .i64 0, .int .i64 0] 39)
  have hqb := BoxC.new ((w.alloc (.cells #[.int .i64 k, .string s, .slice ka kn kc, .slice la ln lc] 25)).alloc (.cells #[.int .i64 0, .int .i64 0] 39)) 39 #[.int .i64 0, .int .i64 0]
  rw [World.size_alloc] at hqa
  rw [World.size_alloc, World.size_alloc] at hqb
  generalize hw0 : ((w.alloc (.cells #[.int .i64 k, .string s, .slice ka kn kc, .slice la ln lc] 25)).alloc (.cells #[.int .i64 0, .int .i64 0] 39)).alloc (.cells #[.int .i64 0, .int .i64 0] 39) = w0 at *
  have HG1 := hide (fun W (h : TIn W S (k, s, .slice ka kn kc, .slice la ln lc) (rangeT a b c d)) => by
    have h := get_any kStart W h (range_lt ha hbf hc hd)
    rw [get_start] at h
    exact h)
  have HG2 := hide (fun W (h : TIn W S (k, s, .slice ka kn kc, .slice la ln lc) (rangeT a b c d)) => by
    have h := get_any kEnd W h (range_lt ha hbf hc hd)
    rw [get_end] at h
    exact h)
  have HP1 := hide (fun W S' y (h : TIn W S' y (posT a b)) (hw : Below w.heap.size w W) => position_ok W a b ha hbf h (pos_lt ha hbf) (get_line a b) (get_char a b) (hE.below hw))
  have HP2 := hide (fun W S' y (h : TIn W S' y (posT c d)) (hw : Below w.heap.size w W) => position_ok W c d hc hd h (pos_lt hc hd) (get_line c d) (get_char c d) (hE.below hw))
  unfold vagg kStart at HG1
  unfold vagg kEnd at HG2
  unfold vagg at HP1 HP2 ⊢
  simp only at HG1 HG2 HP1 HP2 ⊢
  have HPV := hide hp
  have HQA := hide hqa
  have HQB := hide hqb
  have HXT := hide (hx.bel hb)
  have HW0 := hide hw0
  have HB := hide hb
  clear hw0 hp hqa hqb hb hx hE ha hbf hc hd
  have v0 : w0.cell? ⟨w.heap.size, 0, none⟩ = some (.int .i64 k) := HPV.out.cell 0
  have v1 : w0.cell? ⟨w.heap.size, 1, none⟩ = some (.string s) := HPV.out.cell 1
  have v2 : w0.cell? ⟨w.heap.size, 2, none⟩ = some (.slice ka kn kc) := HPV.out.cell 2
  have v3 : w0.cell? ⟨w.heap.size, 3, none⟩ = some (.slice la ln lc) := HPV.out.cell 3
  go_enter Tryd.func14, Tryd.ntmps14
  go_upto_region 1 with fail
  rw [HW0.out]
  clear HW0
  go_wp2_with fail
  refine (HG1.out w0 HXT.out).mono ?_
  rintro e w1 ⟨⟨pk, ps, pK, pL⟩, rfl, hb9, hT⟩
  rw [Option.map_some, Option.getD_some, clJ_pos] at hT
  obtain ⟨h4, h5⟩ := hT.sl
  simp only at h4 h5
  obtain ⟨pa, pn, pc, rfl⟩ := h4
  obtain ⟨pd, pe, pf, rfl⟩ := h5
  simp only [vagg, Option.isSome_some]
  have HTp := hide hT
  have HSZp : Hid (w.heap.size + 1 + 1 < w0.heap.size) := HQB.out.lt
  have HLp : Hid (w.heap.size + 1 + 1 < w1.heap.size) := Nat.lt_of_lt_of_le HSZp.out hb9.size
  clear v0 v1 v2 v3 hT
  have HB9 := hide (HB.out.trans (hb9.mono HB.out.size))
  clear HB
  have HB := HB9
  clear HB9
  have HPV9 := hide (HPV.out.below hb9)
  clear HPV
  have HPV := HPV9
  clear HPV9
  have HQA9 := hide (HQA.out.below hb9)
  clear HQA
  have HQA := HQA9
  clear HQA9
  have HQB9 := hide (HQB.out.below hb9)
  clear HQB
  have HQB := HQB9
  clear HQB9
  have HXT9 := hide (HXT.out.bel hb9)
  clear HXT
  have HXT := HXT9
  clear HXT9
  clear hb9
  have hb9 := bel w1 (.cells #[.int .i64 pk, .string ps, .slice pa pn pc, .slice pd pe pf] 25)
  have HBp := hide (BoxC.new w1 25 #[.int .i64 pk, .string ps, .slice pa pn pc, .slice pd pe pf])
  have HB9 := hide (HB.out.trans (hb9.mono HB.out.size))
  clear HB
  have HB := HB9
  clear HB9
  have HPV9 := hide (HPV.out.below hb9)
  clear HPV
  have HPV := HPV9
  clear HPV9
  have HQA9 := hide (HQA.out.below hb9)
  clear HQA
  have HQA := HQA9
  clear HQA9
  have HQB9 := hide (HQB.out.below hb9)
  clear HQB
  have HQB := HQB9
  clear HQB9
  have HXT9 := hide (HXT.out.bel hb9)
  clear HXT
  have HXT := HXT9
  clear HXT9
  have HTp9 := hide (HTp.out.bel hb9)
  clear HTp
  have HTp := HTp9
  clear HTp9
  clear hb9
  go_upto_region 2 with fail
  generalize w1.heap.size = Bp at *
  generalize w1.alloc (.cells #[.int .i64 pk, .string ps, .slice pa pn pc, .slice pd pe pf] 25) = w2 at *
  have v0 : w2.cell? ⟨w.heap.size, 0, none⟩ = some (.int .i64 k) := HPV.out.cell 0
  have v1 : w2.cell? ⟨w.heap.size, 1, none⟩ = some (.string s) := HPV.out.cell 1
  have v2 : w2.cell? ⟨w.heap.size, 2, none⟩ = some (.slice ka kn kc) := HPV.out.cell 2
  have v3 : w2.cell? ⟨w.heap.size, 3, none⟩ = some (.slice la ln lc) := HPV.out.cell 3
  go_wp2_with fail
  refine (HG2.out w2 HXT.out).mono ?_
  rintro e w3 ⟨⟨qk, qs, qK, qL⟩, rfl, hb9, hT⟩
  rw [Option.map_some, Option.getD_some, clJ_pos] at hT
  obtain ⟨h4, h5⟩ := hT.sl
  simp only at h4 h5
  obtain ⟨qa, qn, qc, rfl⟩ := h4
  obtain ⟨qd, qe, qf, rfl⟩ := h5
  simp only [vagg, Option.isSome_some]
  have HTq := hide hT
  have HSZq : Hid (w.heap.size + 1 + 1 < w2.heap.size) := HQB.out.lt
  have HLq : Hid (w.heap.size + 1 + 1 < w3.heap.size) := Nat.lt_of_lt_of_le HSZq.out hb9.size
  clear v0 v1 v2 v3 hT
  have HB9 := hide (HB.out.trans (hb9.mono HB.out.size))
  clear HB
  have HB := HB9
  clear HB9
  have HPV9 := hide (HPV.out.below hb9)
  clear HPV
  have HPV := HPV9
  clear HPV9
  have HQA9 := hide (HQA.out.below hb9)
  clear HQA
  have HQA := HQA9
  clear HQA9
  have HQB9 := hide (HQB.out.below hb9)
  clear HQB
  have HQB := HQB9
  clear HQB9
  have HXT9 := hide (HXT.out.bel hb9)
  clear HXT
  have HXT := HXT9
  clear HXT9
  have HTp9 := hide (HTp.out.bel hb9)
  clear HTp
  have HTp := HTp9
  clear HTp9
  have HBp9 := hide (HBp.out.below hb9)
  clear HBp
  have HBp := HBp9
  clear HBp9
  clear hb9
  have hb9 := bel w3 (.cells #[.int .i64 qk, .string qs, .slice qa qn qc, .slice qd qe qf] 25)
  have HBq := hide (BoxC.new w3 25 #[.int .i64 qk, .string qs, .slice qa qn qc, .slice qd qe qf])
  have HB9 := hide (HB.out.trans (hb9.mono HB.out.size))
  clear HB
  have HB := HB9
  clear HB9
  have HPV9 := hide (HPV.out.below hb9)
  clear HPV
  have HPV := HPV9
  clear HPV9
  have HQA9 := hide (HQA.out.below hb9)
  clear HQA
  have HQA := HQA9
  clear HQA9
  have HQB9 := hide (HQB.out.below hb9)
  clear HQB
  have HQB := HQB9
  clear HQB9
  have HXT9 := hide (HXT.out.bel hb9)
  clear HXT
  have HXT := HXT9
  clear HXT9
  have HTp9 := hide (HTp.out.bel hb9)
  clear HTp
  have HTp := HTp9
  clear HTp9
  have HBp9 := hide (HBp.out.below hb9)
  clear HBp
  have HBp := HBp9
  clear HBp9
  have HTq9 := hide (HTq.out.bel hb9)
  clear HTq
  have HTq := HTq9
  clear HTq9
  clear hb9
  go_upto_region 3 with fail
  generalize w3.heap.size = Bq at *
  generalize w3.alloc (.cells #[.int .i64 qk, .string qs, .slice qa qn qc, .slice qd qe qf] 25) = w4 at *
  have v0 := HBp.out.cell 0
  have v1 := HBp.out.cell 1
  have v2 := HBp.out.cell 2
  have v3 := HBp.out.cell 3
  simp only [List.getElem?_toArray, List.getElem?_cons_zero, List.getElem?_cons_succ] at v0 v1 v2 v3
  go_wp2_with fail
  refine (HP1.out w4 _ _ HTp.out HB.out).mono ?_
  rintro e w5 ⟨rfl, hb9⟩
  clear v0 v1 v2 v3
  have HB9 := hide (HB.out.trans (hb9.mono HB.out.size))
  clear HB
  have HB := HB9
  clear HB9
  have HQA9 := hide (HQA.out.below hb9)
  clear HQA
  have HQA := HQA9
  clear HQA9
  have HQB9 := hide (HQB.out.below hb9)
  clear HQB
  have HQB := HQB9
  clear HQB9
  have HTq9 := hide (HTq.out.bel hb9)
  clear HTq
  have HTq := HTq9
  clear HTq9
  have HBq9 := hide (HBq.out.below hb9)
  clear HBq
  have HBq := HBq9
  clear HBq9
  clear hb9
  have z0 := HQA.out.cell 0
  have z1 := HQA.out.cell 1
  simp only [List.getElem?_toArray, List.getElem?_cons_zero, List.getElem?_cons_succ] at z0 z1
  have y0 := HQA.out.frozen 0
  have y1 := HQA.out.frozen 1
  have lX := HQA.out.lt
  have HQA2 : Hid (BoxC ((w5.setCell ⟨w.heap.size + 1, 0, none⟩ (.int .i64 a)).setCell ⟨w.heap.size + 1, 1, none⟩ (.int .i64 b)) (w.heap.size + 1) 39 #[.int .i64 a, .int .i64 b]) := (HQA.out.set 0 _).set 1 _
  have HQB2 := hide ((HQB.out.other (show w.heap.size + 1 + 1 ≠ w.heap.size + 1 by omega) 0 (.int .i64 a)).other (show w.heap.size + 1 + 1 ≠ w.heap.size + 1 by omega) 1 (.int .i64 b))
  have HBC : Hid (Below w.heap.size w ((w5.setCell ⟨w.heap.size + 1, 0, none⟩ (.int .i64 a)).setCell ⟨w.heap.size + 1, 1, none⟩ (.int .i64 b))) := (HB.out.setCell (p := ⟨w.heap.size + 1, 0, none⟩) (Nat.le_succ _) _).setCell (p := ⟨w.heap.size + 1, 1, none⟩) (Nat.le_succ _) _
  have HTq2 := hide (HTq.out.keep (W' := (w5.setCell ⟨w.heap.size + 1, 0, none⟩ (.int .i64 a)).setCell ⟨w.heap.size + 1, 1, none⟩ (.int .i64 b)) (S' := fun _ => True) (fun b' hs _ => by
    have hs' : w2.heap.size ≤ b' := hs
    have hl := HSZq.out
    have hne : b' ≠ w.heap.size + 1 := by omega
    exact ⟨trivial, by rw [Below.heap_setCell _ ⟨w.heap.size + 1, 1, none⟩ _ b' hne, Below.heap_setCell _ ⟨w.heap.size + 1, 0, none⟩ _ b' hne]⟩))
  have hlq : w.heap.size + 1 < Bq := by
    have h1 := HLq.out
    omega
  have HBq2 := hide ((HBq.out.other (show Bq ≠ w.heap.size + 1 by omega) 0 (.int .i64 a)).other (show Bq ≠ w.heap.size + 1 by omega) 1 (.int .i64 b))
  clear HQA HQB HB HTq HBq hlq HBp HTp
  have HQA := HQA2
  have HQB := HQB2
  have HB := HBC
  have HTq := HTq2
  have HBq := HBq2
  clear HQA2 HQB2 HBC HTq2 HBq2
  go_upto_region 4 with fail
  generalize (w5.setCell ⟨w.heap.size + 1, 0, none⟩ (.int .i64 a)).setCell ⟨w.heap.size + 1, 1, none⟩ (.int .i64 b) = w6 at *
  clear z0 z1 y0 y1 lX
  have v0 := HBq.out.cell 0
  have v1 := HBq.out.cell 1
  have v2 := HBq.out.cell 2
  have v3 := HBq.out.cell 3
  simp only [List.getElem?_toArray, List.getElem?_cons_zero, List.getElem?_cons_succ] at v0 v1 v2 v3
  go_wp2_with fail
  refine (HP2.out w6 _ _ HTq.out HB.out).mono ?_
  rintro e w7 ⟨rfl, hb9⟩
  clear v0 v1 v2 v3
  have HB9 := hide (HB.out.trans (hb9.mono HB.out.size))
  clear HB
  have HB := HB9
  clear HB9
  have HQA9 := hide (HQA.out.below hb9)
  clear HQA
  have HQA := HQA9
  clear HQA9
  have HQB9 := hide (HQB.out.below hb9)
  clear HQB
  have HQB := HQB9
  clear HQB9
  clear hb9 HTq HBq
  have z0 := HQB.out.cell 0
  have z1 := HQB.out.cell 1
  simp only [List.getElem?_toArray, List.getElem?_cons_zero, List.getElem?_cons_succ] at z0 z1
  have y0 := HQB.out.frozen 0
  have y1 := HQB.out.frozen 1
  have lX := HQB.out.lt
  have HQB2 : Hid (BoxC ((w7.setCell ⟨w.heap.size + 1 + 1, 0, none⟩ (.int .i64 c)).setCell ⟨w.heap.size + 1 + 1, 1, none⟩ (.int .i64 d)) (w.heap.size + 1 + 1) 39 #[.int .i64 c, .int .i64 d]) := (HQB.out.set 0 _).set 1 _
  have HQA2 := hide ((HQA.out.other (show w.heap.size + 1 ≠ w.heap.size + 1 + 1 by omega) 0 (.int .i64 c)).other (show w.heap.size + 1 ≠ w.heap.size + 1 + 1 by omega) 1 (.int .i64 d))
  have HBC : Hid (Below w.heap.size w ((w7.setCell ⟨w.heap.size + 1 + 1, 0, none⟩ (.int .i64 c)).setCell ⟨w.heap.size + 1 + 1, 1, none⟩ (.int .i64 d))) := (HB.out.setCell (p := ⟨w.heap.size + 1 + 1, 0, none⟩) (by show w.heap.size ≤ w.heap.size + 1 + 1; omega) _).setCell (p := ⟨w.heap.size + 1 + 1, 1, none⟩) (by show w.heap.size ≤ w.heap.size + 1 + 1; omega) _
  clear HQA HQB HB
  have HQA := HQA2
  have HQB := HQB2
  have HB := HBC
  clear HQA2 HQB2 HBC
  go_upto_region 7 with fail
  generalize (w7.setCell ⟨w.heap.size + 1 + 1, 0, none⟩ (.int .i64 c)).setCell ⟨w.heap.size + 1 + 1, 1, none⟩ (.int .i64 d) = w8 at *
  clear z0 z1 y0 y1 lX
  refine wp_region_held_drew (S := fun X0 : World => X0.cell? ⟨w.heap.size + 1, 0, none⟩ = some (.int .i64 a) ∧ X0.cell? ⟨w.heap.size + 1, 1, none⟩ = some (.int .i64 b) ∧ X0.cell? ⟨w.heap.size + 1 + 1, 0, none⟩ = some (.int .i64 c) ∧ X0.cell? ⟨w.heap.size + 1 + 1, 1, none⟩ = some (.int .i64 d)) (by kernel_rfl) ⟨HQA.out.cell 0, HQA.out.cell 1, HQB.out.cell 0, HQB.out.cell 1⟩ (fun hHeld => ?_)
  have HQA2 : Hid (BoxC w8.drew (w.heap.size + 1) 39 #[.int .i64 a, .int .i64 b]) := HQA.out
  have HQB2 : Hid (BoxC w8.drew (w.heap.size + 1 + 1) 39 #[.int .i64 c, .int .i64 d]) := HQB.out
  have HB2 : Hid (Below w.heap.size w w8.drew) := HB.out.drew
  clear HQA HQB HB
  generalize w8.drew = w9 at *
  have HS : Hid (w9.cell? ⟨w.heap.size + 1, 0, none⟩ = some (.int .i64 a) ∧ w9.cell? ⟨w.heap.size + 1, 1, none⟩ = some (.int .i64 b) ∧ w9.cell? ⟨w.heap.size + 1 + 1, 0, none⟩ = some (.int .i64 c) ∧ w9.cell? ⟨w.heap.size + 1 + 1, 1, none⟩ = some (.int .i64 d)) := ⟨HQA2.out.cell 0, HQA2.out.cell 1, HQB2.out.cell 0, HQB2.out.cell 1⟩
  refine takeD (i := 0) (v := ?v1) (some 39) rfl (by kernel_rfl) (by kernel_rfl) (by kernel_rfl) (fun _ _ _ h => h) (Or.inl ⟨by rfl, ?hy1⟩) (HS.out) (by rfl) ?rest1
  case hy1 => first | (intro w hSw; (try dsimp only at hSw); obtain ⟨s0, s1, s2, s3⟩ := hSw; go_simp; done) | (intro w hSw; (try dsimp only at hSw); obtain ⟨s0, s1, s2, s3⟩ := hSw; go_simp; with_reducible rfl)
  try simp only [Act.put, List.setIfInBounds_toArray, List.set_cons_zero, List.set_cons_succ, vagg]
  refine takeD (i := 1) (v := ?v2) (some 40) rfl (by kernel_rfl) (by kernel_rfl) (by kernel_rfl) (fun _ _ _ h => h) (Or.inl ⟨by rfl, ?hy2⟩) (HS.out) (by rfl) ?rest2
  case hy2 => first | (intro w hSw; (try dsimp only at hSw); obtain ⟨s0, s1, s2, s3⟩ := hSw; go_simp; done) | (intro w hSw; (try dsimp only at hSw); obtain ⟨s0, s1, s2, s3⟩ := hSw; go_simp; with_reducible rfl)
  try simp only [Act.put, List.setIfInBounds_toArray, List.set_cons_zero, List.set_cons_succ, vagg]
  have HQA3 : Hid (BoxC ((w9.setCell ⟨w.heap.size + 1, 0, none⟩ (.int .i64 a)).setCell ⟨w.heap.size + 1, 1, none⟩ (.int .i64 b)) (w.heap.size + 1) 39 #[.int .i64 a, .int .i64 b]) := (HQA2.out.set 0 _).set 1 _
  have HQB3 := hide ((HQB2.out.other (show w.heap.size + 1 + 1 ≠ w.heap.size + 1 by omega) 0 (.int .i64 a)).other (show w.heap.size + 1 + 1 ≠ w.heap.size + 1 by omega) 1 (.int .i64 b))
  have HBC : Hid (Below w.heap.size w ((w9.setCell ⟨w.heap.size + 1, 0, none⟩ (.int .i64 a)).setCell ⟨w.heap.size + 1, 1, none⟩ (.int .i64 b))) := (HB2.out.setCell (p := ⟨w.heap.size + 1, 0, none⟩) (Nat.le_succ _) _).setCell (p := ⟨w.heap.size + 1, 1, none⟩) (Nat.le_succ _) _
  have z0 := HQA2.out.cell 0
  have z1 := HQA2.out.cell 1
  simp only [List.getElem?_toArray, List.getElem?_cons_zero, List.getElem?_cons_succ] at z0 z1
  have y0 := HQA2.out.frozen 0
  have y1 := HQA2.out.frozen 1
  have lX := HQA2.out.lt
  refine wpAnyH_ready (rs := [2]) (by kernel_rfl) (by simp) ?_
  refine AllReadyH.cons rfl (fun K9 hK => ?_) AllReadyH.nil
  go_simp
  refine hK.out _ _ ⟨HQA3.out.cell 0, HQA3.out.cell 1, HQB3.out.cell 0, HQB3.out.cell 1⟩ (fun _ => ?_)
  clear hK K9 HQA2 HQB2 HB2 HS z0 z1 y0 y1 lX
  try simp only [Act.put, List.setIfInBounds_toArray, List.set_cons_zero, List.set_cons_succ, vagg]
  generalize (w9.setCell ⟨w.heap.size + 1, 0, none⟩ (.int .i64 a)).setCell ⟨w.heap.size + 1, 1, none⟩ (.int .i64 b) = wa at *
  have HQB4 : Hid (BoxC ((wa.setCell ⟨w.heap.size + 1 + 1, 0, none⟩ (.int .i64 c)).setCell ⟨w.heap.size + 1 + 1, 1, none⟩ (.int .i64 d)) (w.heap.size + 1 + 1) 39 #[.int .i64 c, .int .i64 d]) := (HQB3.out.set 0 _).set 1 _
  have HQA4 := hide ((HQA3.out.other (show w.heap.size + 1 ≠ w.heap.size + 1 + 1 by omega) 0 (.int .i64 c)).other (show w.heap.size + 1 ≠ w.heap.size + 1 + 1 by omega) 1 (.int .i64 d))
  have HBD : Hid (Below w.heap.size w ((wa.setCell ⟨w.heap.size + 1 + 1, 0, none⟩ (.int .i64 c)).setCell ⟨w.heap.size + 1 + 1, 1, none⟩ (.int .i64 d))) := (HBC.out.setCell (p := ⟨w.heap.size + 1 + 1, 0, none⟩) (by show w.heap.size ≤ w.heap.size + 1 + 1; omega) _).setCell (p := ⟨w.heap.size + 1 + 1, 1, none⟩) (by show w.heap.size ≤ w.heap.size + 1 + 1; omega) _
  have z0 := HQB3.out.cell 0
  have z1 := HQB3.out.cell 1
  simp only [List.getElem?_toArray, List.getElem?_cons_zero, List.getElem?_cons_succ] at z0 z1
  have y0 := HQB3.out.frozen 0
  have y1 := HQB3.out.frozen 1
  have lX := HQB3.out.lt
  refine wpAnyH_ready (rs := [3]) (by kernel_rfl) (by simp) ?_
  refine AllReadyH.cons rfl (fun K9 hK => ?_) AllReadyH.nil
  go_simp
  refine hK.out _ _ ⟨HQA4.out.cell 0, HQA4.out.cell 1, HQB4.out.cell 0, HQB4.out.cell 1⟩ (fun _ => ?_)
  clear hK K9 z0 z1 y0 y1 lX
  try simp only [Act.put, List.setIfInBounds_toArray, List.set_cons_zero, List.set_cons_succ, vagg]
  have HS : Hid (((wa.setCell ⟨w.heap.size + 1 + 1, 0, none⟩ (.int .i64 c)).setCell ⟨w.heap.size + 1 + 1, 1, none⟩ (.int .i64 d)).cell? ⟨w.heap.size + 1, 0, none⟩ = some (.int .i64 a) ∧ ((wa.setCell ⟨w.heap.size + 1 + 1, 0, none⟩ (.int .i64 c)).setCell ⟨w.heap.size + 1 + 1, 1, none⟩ (.int .i64 d)).cell? ⟨w.heap.size + 1, 1, none⟩ = some (.int .i64 b) ∧ ((wa.setCell ⟨w.heap.size + 1 + 1, 0, none⟩ (.int .i64 c)).setCell ⟨w.heap.size + 1 + 1, 1, none⟩ (.int .i64 d)).cell? ⟨w.heap.size + 1 + 1, 0, none⟩ = some (.int .i64 c) ∧ ((wa.setCell ⟨w.heap.size + 1 + 1, 0, none⟩ (.int .i64 c)).setCell ⟨w.heap.size + 1 + 1, 1, none⟩ (.int .i64 d)).cell? ⟨w.heap.size + 1 + 1, 1, none⟩ = some (.int .i64 d)) := ⟨HQA4.out.cell 0, HQA4.out.cell 1, HQB4.out.cell 0, HQB4.out.cell 1⟩
  refine takeD (i := 4) (v := ?v3) (some 4) rfl (by kernel_rfl) (by kernel_rfl) (by kernel_rfl) (fun _ _ _ h => h) (Or.inl ⟨by rfl, ?hy3⟩) (HS.out) (by rfl) ?rest3
  case hy3 => first | (intro w hSw; (try dsimp only at hSw); obtain ⟨s0, s1, s2, s3⟩ := hSw; go_simp; done) | (intro w hSw; (try dsimp only at hSw); obtain ⟨s0, s1, s2, s3⟩ := hSw; go_simp; with_reducible rfl)
  try simp only [Act.put, List.setIfInBounds_toArray, List.set_cons_zero, List.set_cons_succ, vagg]
  refine wpAnyH_done (by kernel_rfl) ?_ _
  go_wp2
  refine bodyPost_ret (results_pt3 rfl rfl rfl rfl HQA4.out HQB4.out) rfl ?_
  exact ⟨rfl, HBD.out⟩


end Go.Proofs.YtacgocfgcoejpaaDoor

namespace Go.Proofs.YtacgocfgcoejpaaDoor
set_option linter.unusedVariables false
set_option linter.unusedSimpArgs false
set_option maxRecDepth 100000
open Go Go.RowKit Go.Shelf Go.Lib

set_option maxHeartbeats 4000000 in
theorem parse_tree (w : World) (ao : Option Addr) (cap : Nat) (T : List Nat) (N : Nat) (T0 : JT) (z : Nat) (h : Byts w (.slice ao T.length cap) T) (hU : Utf8Tabs 0 1 w) (h1 : ∀ k, k < N → posL T k < T.length) (h2 : posL T N = T.length) (hv : ∀ k, k < N → runeAt T (posL T k) ≠ -1) (hlen : T.length ≤ 1000000) (hcap : T.length ≤ cap)
    (hb : 0 < T.length) (hval : ∀ W R, RdJ W R (.slice ao T.length cap) 0 0 → TxJ W R ao cap T → Calls Tryd.prog 24 #[.pointer (some ⟨R, 0, none⟩)] W (TreeJ T0 z W R (.slice ao T.length cap) 0)) (hz : z ≤ T.length) (hz2 : blEnd T z = T.length) :
    Calls Tryd.prog 9 #[.slice ao T.length cap] w fun e w' => (∃ x : JC, e = .returned (.tuple #[vagg x, .int .i64 0, .int .i64 0]) ∧ TIn w' (fun b => w.heap.size ≤ b) x T0) ∧ Below w.heap.size w w' := by
  have hmf : ∀ (fn : Fn) (first cap : Array Value) (w : World), (Instr.makeFunc fn first cap).run Tryd.prog w = .ok (.func fn first cap) w := fun _ _ _ _ => rfl
  have hb0 : Below w.heap.size w (((w.alloc (.cells jv0 25)).alloc (.cells #[.int .i64 0] 3)).alloc (.cells #[.int .i64 0] 29)) := ((bel w _).alloc (by simp) _).alloc (by simp; omega) _
  have hv0 := ((BoxC.new w 25 jv0).alloc (.cells #[.int .i64 0] 3)).alloc (.cells #[.int .i64 0] 29)
  have hp0 := (BoxC.new (w.alloc (.cells jv0 25)) 3 #[.int .i64 0]).alloc (.cells #[.int .i64 0] 29)
  have he0 := BoxC.new ((w.alloc (.cells jv0 25)).alloc (.cells #[.int .i64 0] 3)) 29 #[.int .i64 0]
  rw [World.size_alloc] at hp0
  rw [World.size_alloc, World.size_alloc] at he0
  unfold jv0 at hb0 hv0 hp0 he0
  have hR0 : ResJ _ w.heap.size (.int .i64 0) (.string ⟨#[]⟩) (.slice none 0 0) (.slice none 0 0) (.int .i64 0) (.int .i64 0) := ⟨hv0, hp0, he0⟩
  have hs0 : (((w.alloc (.cells #[.int .i64 0, .string ⟨#[]⟩, .slice none 0 0, .slice none 0 0] 25)).alloc (.cells #[.int .i64 0] 3)).alloc (.cells #[.int .i64 0] 29)).heap.size = w.heap.size + 3 := by simp
  generalize hw0 : ((w.alloc (.cells #[.int .i64 0, .string ⟨#[]⟩, .slice none 0 0, .slice none 0 0] 25)).alloc (.cells #[.int .i64 0] 3)).alloc (.cells #[.int .i64 0] 29) = w0 at *
  have HVC := hide (valid_calls w0 ao cap T N (h.below hb0) (Utf8Tabs_below hU hb0) h1 h2 (by omega) hcap)
  have HR0 := hide hR0
  have HB0 := hide hb0
  have HS0 := hide hs0
  have HW0 := hide hw0
  have HH := hide h
  have HV := hide hv
  have HVT := hide hval
  have HZ := hide (And.intro hz hz2)
  have HLN := hide hlen
  have HCP := hide hcap
  have HBB := hide hb
  clear hb0 hv0 hp0 he0 hR0 hs0 hw0 h hU h1 h2 hv hlen hcap hb hval hz hz2
  go_enter_defers Tryd.func9, Tryd.ntmps9
  go_wp2_with fail
  rw [HW0.out]
  clear HW0
  refine HVC.out.mono ?_
  rintro e w1 ⟨at', er, rfl, hTold, hB1⟩
  have ht : at' = 0 ∧ er = 0 := by
    rcases hTold with ⟨k, hk, _, hx, _⟩ | ⟨_, ha, he⟩
    · exact absurd hx (HV.out k hk)
    · exact ⟨ha, he⟩
  obtain ⟨rfl, rfl⟩ := ht
  have hB1' := hB1
  have hR1 := (⟨HR0.out.v.below hB1, HR0.out.p.below hB1, HR0.out.e.below hB1⟩ : ResJ w1 w.heap.size _ _ _ _ _ _)
  have hb2 := bel w1 (.cells #[.slice ao T.length cap, .int .i64 0, .int .i64 0] 64)
  have hr2 : RdJ (w1.alloc (.cells #[.slice ao T.length cap, .int .i64 0, .int .i64 0] 64)) w1.heap.size (.slice ao T.length cap) 0 0 := BoxC.new w1 64 #[.slice ao T.length cap, .int .i64 0, .int .i64 0]
  have hR2 := (⟨hR1.v.below hb2, hR1.p.below hb2, hR1.e.below hb2⟩ : ResJ (w1.alloc (.cells #[.slice ao T.length cap, .int .i64 0, .int .i64 0] 64)) w.heap.size _ _ _ _ _ _)
  have hB2 : Below w.heap.size w (w1.alloc (.cells #[.slice ao T.length cap, .int .i64 0, .int .i64 0] 64)) := (HB0.out.trans (hB1.mono HB0.out.size)).trans (hb2.mono (Nat.le_trans HB0.out.size hB1.size))
  have hlt : w.heap.size + 1 + 1 < w1.heap.size := hR1.e.lt
  have hT2 : TxJ (w1.alloc (.cells #[.slice ao T.length cap, .int .i64 0, .int .i64 0] 64)) w1.heap.size ao cap T := by
    refine ⟨HH.out.below hB2, fun a e => ?_, HLN.out, HCP.out⟩
    obtain ⟨ao', c', e', _, hx⟩ := HH.out
    cases e'
    have hpos := HBB.out
    obtain ⟨b, off, e2, hx⟩ := hx 0 (by omega)
    rw [e] at e2
    cases e2
    have := block_lt hx
    have := hlt
    show b ≠ _
    omega
  generalize hw2 : w1.alloc (.cells #[.slice ao T.length cap, .int .i64 0, .int .i64 0] 64) = w2 at *
  generalize hRR : w1.heap.size = R at *
  have HW2 := hide hw2
  have HRR := hide hRR
  have HVA := hide (HVT.out w2 R hr2 hT2)
  have HR2 := hide hR2
  have HB2 := hide hB2
  have HT2 := hide hT2
  have HLT := hide hlt
  have HRL := hide hr2.lt
  clear hB1 hB1' hR1 hb2 hr2 hR2 hB2 hlt hT2 hw2 hRR HR0 HVC HS0 hTold HB0
  go_wp2_with fail
  rw [HW2.out, HRR.out]
  clear HW2 HRR
  refine HVA.out.mono ?_
  rintro e w3 ⟨⟨xk, xs, xK, xL⟩, rfl, hT0, hr3, hf⟩
  obtain ⟨h4, h5⟩ := hT0.sl
  simp only at h4 h5
  obtain ⟨ua, un, uc, rfl⟩ := h4
  obtain ⟨va, vn, vc, rfl⟩ := h5
  unfold vagg
  simp only
  obtain ⟨hz1', hz2'⟩ := HZ.out
  have n1 : w.heap.size ≠ R := by have := HLT.out; omega
  have n2 : w.heap.size + 1 ≠ R := by have := HLT.out; omega
  have n3 : w.heap.size + 1 + 1 ≠ R := by have := HLT.out; omega
  have hR3 := (⟨HR2.out.v.fr hf n1 (by simp), HR2.out.p.fr hf n2 (by simp), HR2.out.e.fr hf n3 (by simp)⟩ : ResJ w3 w.heap.size _ _ _ _ _ _)
  have hT3 := HT2.out.fr hf
  have hB3 : Below w.heap.size w w3 := HB2.out.trans (hf.below (by have := HLT.out; omega) (fun k e => by cases e) HB2.out.size)
  have hle2 : w.heap.size + 1 + 1 < w2.heap.size := HR2.out.e.lt
  have a0 := hR3.v.cell 0
  have a1 := hR3.v.cell 1
  have a2 := hR3.v.cell 2
  have a3 := hR3.v.cell 3
  simp only [List.getElem?_toArray, List.getElem?_cons_zero, List.getElem?_cons_succ, Nat.reduceAdd] at a0 a1 a2 a3
  have f0 := hR3.v.frozen 0
  have f1 := hR3.v.frozen 1
  have f2 := hR3.v.frozen 2
  have f3 := hR3.v.frozen 3
  have lA := hR3.v.lt
  have hv4 := resJ_v hR3.v (.int .i64 xk) (.string xs) (.slice ua un uc) (.slice va vn vc)
  have hp4 := box_off4 hR3.p (show w.heap.size + 1 ≠ w.heap.size by omega) (.int .i64 xk) (.string xs) (.slice ua un uc) (.slice va vn vc)
  have he4 := box_off4 hR3.e (show w.heap.size + 1 + 1 ≠ w.heap.size by omega) (.int .i64 xk) (.string xs) (.slice ua un uc) (.slice va vn vc)
  have hr4 := box_off4 hr3 n1.symm (.int .i64 xk) (.string xs) (.slice ua un uc) (.slice va vn vc)
  have hB4 : Below w.heap.size w ((((w3.setCell ⟨w.heap.size, 0, none⟩ (.int .i64 xk)).setCell ⟨w.heap.size, 1, none⟩ (.string xs)).setCell ⟨w.heap.size, 2, none⟩ (.slice ua un uc)).setCell ⟨w.heap.size, 3, none⟩ (.slice va vn vc)) :=
    (((hB3.setCell (p := ⟨w.heap.size, 0, none⟩) (Nat.le_refl _) _).setCell (p := ⟨w.heap.size, 1, none⟩) (Nat.le_refl _) _).setCell (p := ⟨w.heap.size, 2, none⟩) (Nat.le_refl _) _).setCell (p := ⟨w.heap.size, 3, none⟩) (Nat.le_refl _) _
  have hT4 : TxJ ((((w3.setCell ⟨w.heap.size, 0, none⟩ (.int .i64 xk)).setCell ⟨w.heap.size, 1, none⟩ (.string xs)).setCell ⟨w.heap.size, 2, none⟩ (.slice ua un uc)).setCell ⟨w.heap.size, 3, none⟩ (.slice va vn vc)) R ao cap T := ⟨HH.out.below hB4, hT3.off, hT3.len, hT3.cap⟩
  have hT4' : TIn ((((w3.setCell ⟨w.heap.size, 0, none⟩ (.int .i64 xk)).setCell ⟨w.heap.size, 1, none⟩ (.string xs)).setCell ⟨w.heap.size, 2, none⟩ (.slice ua un uc)).setCell ⟨w.heap.size, 3, none⟩ (.slice va vn vc)) (fun b => w2.heap.size ≤ b) (xk, xs, .slice ua un uc, .slice va vn vc) T0 := hT0.keep fun b hs _ => by
    have hs' : w2.heap.size ≤ b := hs
    have hne : b ≠ w.heap.size := by omega
    refine ⟨hs, ?_⟩
    rw [Below.heap_setCell _ ⟨w.heap.size, 3, none⟩ _ b hne, Below.heap_setCell _ ⟨w.heap.size, 2, none⟩ _ b hne, Below.heap_setCell _ ⟨w.heap.size, 1, none⟩ _ b hne, Below.heap_setCell _ ⟨w.heap.size, 0, none⟩ _ b hne]
  generalize hw4 : (((w3.setCell ⟨w.heap.size, 0, none⟩ (.int .i64 xk)).setCell ⟨w.heap.size, 1, none⟩ (.string xs)).setCell ⟨w.heap.size, 2, none⟩ (.slice ua un uc)).setCell ⟨w.heap.size, 3, none⟩ (.slice va vn vc) = w4 at *
  have HW4 := hide hw4
  have HSK := hide (skipBlanks_calls w4 R z 0 ao cap T hr4 hT4 hz1')
  rw [hz2'] at HSK
  have HV4 := hide hv4
  have HP4 := hide hp4
  have HE4 := hide he4
  have HO4 := hide hT4'
  have HB4 := hide hB4
  clear hT0 hT4' hr3 hf hR3 hT3 hB3 hv4 hp4 he4 hr4 hB4 hT4 hw4 hz1' hz2' HB2 HT2 n1 n2 n3
  go_wp2_with fail
  rw [HW4.out]
  clear HW4 a0 a1 a2 a3 f0 f1 f2 f3 lA
  refine HSK.out.mono ?_
  rintro e w5 ⟨rfl, hr5, _, hf5⟩
  have n1 : w.heap.size ≠ R := by have := HLT.out; omega
  have n2 : w.heap.size + 1 ≠ R := by have := HLT.out; omega
  have n3 : w.heap.size + 1 + 1 ≠ R := by have := HLT.out; omega
  have hv5 := HV4.out.fr hf5 n1 (by simp)
  have hp5 := HP4.out.fr hf5 n2 (by simp)
  have he5 := HE4.out.fr hf5 n3 (by simp)
  have hle2 : w.heap.size + 1 + 1 < w2.heap.size := HR2.out.e.lt
  have hT5 := HO4.out.keep (W' := w5) (S' := fun b => w2.heap.size ≤ b) (fun b hs hlt => ⟨hs, hf5.block hlt (fun q => by have hs' : w2.heap.size ≤ b := hs; have := HRL.out; omega) (by simp)⟩)
  have hB5 := HB4.out.trans (hf5.below (by have := HLT.out; omega) (fun k e => by cases e) HB4.out.size)
  have c1 : w5.cell? ⟨R, 1, none⟩ = some (.int .i64 (T.length : Int)) := hr5.cell 1
  have lR := hr5.lt
  have a0 := hv5.cell 0
  have a1 := hv5.cell 1
  have a2 := hv5.cell 2
  have a3 := hv5.cell 3
  have b0 := hp5.cell 0
  have b1 := he5.cell 0
  simp only [List.getElem?_toArray, List.getElem?_cons_zero, List.getElem?_cons_succ, Nat.reduceAdd] at a0 a1 a2 a3 b0 b1
  have f0 := hv5.frozen 0
  have f1 := hv5.frozen 1
  have f2 := hv5.frozen 2
  have f3 := hv5.frozen 3
  have f4 := hp5.frozen 0
  have f5 := he5.frozen 0
  have lA := hv5.lt
  have dlt : ¬ (T.length : Int) < (T.length : Int) := by omega
  have HR5 : Hid (ResJ w5 w.heap.size (.int .i64 xk) (.string xs) (.slice ua un uc) (.slice va vn vc) (.int .i64 0) (.int .i64 0)) := ⟨hv5, hp5, he5⟩
  have HO5 := hide hT5
  have HLE := hide hle2
  have HB5 := hide hB5
  clear hr5 hf5 hv5 hp5 he5 hT5 hle2 hB5 HV4 HP4 HE4 HO4 HB4 HR2 n1 n2 n3 HSK
  go_wp2
  have HR6 := resJ_put HR5.out (.int .i64 xk) (.string xs) (.slice ua un uc) (.slice va vn vc) (.int .i64 0) (.int .i64 0)
  have HB6 := below_put HB5.out (Nat.le_refl _) (.int .i64 xk) (.string xs) (.slice ua un uc) (.slice va vn vc) (.int .i64 0) (.int .i64 0)
  have HO6 := HO5.out.keep (W' := (((((w5.setCell ⟨w.heap.size, 0, none⟩ (.int .i64 xk)).setCell ⟨w.heap.size, 1, none⟩ (.string xs)).setCell ⟨w.heap.size, 2, none⟩ (.slice ua un uc)).setCell ⟨w.heap.size, 3, none⟩ (.slice va vn vc)).setCell ⟨w.heap.size + 1, 0, none⟩ (.int .i64 0)).setCell ⟨w.heap.size + 1 + 1, 0, none⟩ (.int .i64 0)) (S' := fun b => w.heap.size ≤ b) (fun b hs hlt => by
    have hs' : w2.heap.size ≤ b := hs
    have hle := HLE.out
    have hne : b ≠ w.heap.size := by omega
    refine ⟨by show w.heap.size ≤ b; omega, ?_⟩
    rw [Below.heap_setCell _ ⟨w.heap.size + 1 + 1, 0, none⟩ _ b (by show b ≠ w.heap.size + 1 + 1; omega), Below.heap_setCell _ ⟨w.heap.size + 1, 0, none⟩ _ b (by show b ≠ w.heap.size + 1; omega), Below.heap_setCell _ ⟨w.heap.size, 3, none⟩ _ b hne, Below.heap_setCell _ ⟨w.heap.size, 2, none⟩ _ b hne, Below.heap_setCell _ ⟨w.heap.size, 1, none⟩ _ b hne, Below.heap_setCell _ ⟨w.heap.size, 0, none⟩ _ b hne])
  refine leaves_cons (f := 23) (args := #[.pointer (some ⟨w.heap.size, 0, none⟩), .pointer (some ⟨w.heap.size + 1, 0, none⟩), .pointer (some ⟨w.heap.size + 1 + 1, 0, none⟩)]) (by simp) (by simp [go_sem]) ?_
  refine (parse1_ret _ _ _ _).mono ?_
  rintro e u' w6 ⟨rfl, rfl, hw6⟩
  rw [hw6]
  clear hw6
  show Leaves _ _ _ _ [] .returning _
  exact ⟨_, results_p3 rfl rfl rfl rfl HR6, ⟨_, rfl, HO6⟩, HB6⟩

end Go.Proofs.YtacgocfgcoejpaaDoor

namespace Go.Proofs.YtacgocfgcoejpaaDoor
set_option linter.unusedVariables false
set_option linter.unusedSimpArgs false
set_option maxRecDepth 100000
open Go Go.RowKit Go.Shelf Go.Lib

def ex6 : List Nat := [123, 34, 106, 115, 111, 110, 114, 112, 99, 34, 58, 34, 50, 46, 48, 34, 44, 34, 105, 100, 34, 58, 49, 44, 34, 109, 101, 116, 104, 111, 100, 34, 58, 34, 109, 34, 125]
def ex7 : List Nat := [91, 49, 93]
theorem ex6_small : ∀ x ∈ ex6, x < 256 := by decide
theorem ex7_small : ∀ x ∈ ex7, x < 256 := by decide
theorem ex6_pos : ∀ k, k < 37 → posL ex6 k < ex6.length := by decide +kernel
theorem ex7_pos : ∀ k, k < 3 → posL ex7 k < ex7.length := by decide +kernel
theorem ex6_end : posL ex6 37 = ex6.length := by decide +kernel
theorem ex7_end : posL ex7 3 = ex7.length := by decide +kernel
theorem ex6_rune : ∀ k, k < 37 → runeAt ex6 (posL ex6 k) ≠ -1 := by decide +kernel
theorem ex7_rune : ∀ k, k < 3 → runeAt ex7 (posL ex7 k) ≠ -1 := by decide +kernel
def kJson : ByteArray := ⟨#[106, 115, 111, 110, 114, 112, 99]⟩
def kId : ByteArray := ⟨#[105, 100]⟩
def kMethod : ByteArray := ⟨#[109, 101, 116, 104, 111, 100]⟩
def sVer : ByteArray := ⟨#[50, 46, 48]⟩
def sM : ByteArray := ⟨#[109]⟩
def sOne : ByteArray := ⟨#[49]⟩
def cVer : JC := (4, sVer, .slice none 0 0, .slice none 0 0)
def cOne : JC := (3, sOne, .slice none 0 0, .slice none 0 0)
def cM : JC := (4, sM, .slice none 0 0, .slice none 0 0)
def tree6 : JT := .mk 6 ⟨#[]⟩ [kJson, kId, kMethod] [flatT cVer, flatT cOne, flatT cM]
def tree7 : JT := .mk 5 ⟨#[]⟩ [] [flatT cOne]
def val6 (q : Nat) : Option VR := if q = 11 then some (.ok cVer 16) else if q = 22 then some (.ok cOne 23) else if q = 33 then some (.ok cM 36) else none
def parts6 : List OP := [⟨1, 9, kJson, cVer, 16⟩, ⟨17, 20, kId, cOne, 23⟩, ⟨24, 31, kMethod, cM, 36⟩]
theorem plainR {T : List Nat} {a q : Nat} (h : ∀ j, j < q → a ≤ j → 32 ≤ nth T j ∧ nth T j ≠ 34 ∧ nth T j ≠ 92) : ∀ j, a ≤ j → j < q → 32 ≤ nth T j ∧ nth T j ≠ 34 ∧ nth T j ≠ 92 := fun j h1 h2 => h j h2 h1
theorem chain6 : Chain ex6 val6 1 true parts6 37 := by
  refine ⟨by kernel_rfl, by kernel_rfl, by decide, by decide, by kernel_rfl, plainR (by decide +kernel), by kernel_rfl, by decide +kernel, by kernel_rfl, by kernel_rfl, ?_⟩
  refine ⟨by kernel_rfl, by kernel_rfl, by decide, by decide, by kernel_rfl, plainR (by decide +kernel), by kernel_rfl, by decide +kernel, by kernel_rfl, by kernel_rfl, ?_⟩
  refine ⟨by kernel_rfl, by kernel_rfl, by decide, by decide, by kernel_rfl, plainR (by decide +kernel), by kernel_rfl, by decide +kernel, by kernel_rfl, by kernel_rfl, ?_⟩
  show endL ex6 125 36 false = .yes 37
  kernel_rfl
theorem hval6 (R d : Nat) (ao : Option Addr) (cap : Nat) : HVal val6 R d ao cap ex6 := by
  intro W q r h hq hr hT
  unfold val6 at h
  split at h
  · rename_i e
    subst e
    cases h
    have hb : blEnd ex6 11 = 11 := by decide +kernel
    have := value_str W R 11 d ao cap ex6 15 hr hT hq (by rw [hb]; decide) (by rw [hb]; kernel_rfl) (by rw [hb]; exact ⟨by decide, by decide, by kernel_rfl, plainR (by decide +kernel)⟩)
    rw [hb] at this
    exact this
  split at h
  · rename_i e
    subst e
    cases h
    exact value_num W R 22 d ao cap ex6 (.ok cOne 23) (by kernel_rfl) hr hT hq
  split at h
  · rename_i e
    subst e
    cases h
    have hb : blEnd ex6 33 = 33 := by decide +kernel
    have := value_str W R 33 d ao cap ex6 35 hr hT hq (by rw [hb]; decide) (by rw [hb]; kernel_rfl) (by rw [hb]; exact ⟨by decide, by decide, by kernel_rfl, plainR (by decide +kernel)⟩)
    rw [hb] at this
    exact this
  · cases h
theorem okv6 : OkV val6 ex6 := by
  intro q x p h
  unfold val6 at h
  split at h
  · rename_i e
    subst e
    cases h
    exact ⟨by decide, by decide, rfl, rfl⟩
  split at h
  · rename_i e
    subst e
    cases h
    exact ⟨by decide, by decide, rfl, rfl⟩
  split at h
  · rename_i e
    subst e
    cases h
    exact ⟨by decide, by decide, rfl, rfl⟩
  · cases h
theorem value6 (W : World) (R : Nat) (ao : Option Addr) (cap : Nat) (hr : RdJ W R (.slice ao ex6.length cap) 0 0) (hT : TxJ W R ao cap ex6) : Calls Tryd.prog 24 #[.pointer (some ⟨R, 0, none⟩)] W (TreeJ tree6 37 W R (.slice ao ex6.length cap) 0) := by
  have hb : blEnd ex6 0 = 0 := by decide +kernel
  refine value_obj W R 0 0 ao cap ex6 tree6 37 hr hT (Nat.zero_le _) (by rw [hb]; decide) (by rw [hb]; kernel_rfl) (by decide) (fun W' hr' hT' => ?_)
  rw [hb] at hr'
  refine (object_ok val6 W' R 1 1 ao cap ex6 parts6 37 [kJson, kId, kMethod] [cVer, cOne, cM] hr' hT' (by decide) (hval6 R 1 ao cap) okv6 rfl rfl chain6 (by decide +kernel)).mono ?_
  rintro e w' ⟨kv, lv, rfl, hk, hv, hat⟩
  exact ⟨_, rfl, own_tree 6 ⟨#[]⟩ (own_strs hk) hv (fun x hx => by
    simp only [List.mem_cons, List.not_mem_nil, or_false] at hx
    rcases hx with rfl | rfl | rfl <;> exact ⟨rfl, rfl⟩), hat⟩
theorem parse6 (w : World) (ao : Option Addr) (cap : Nat) (h : Byts w (.slice ao ex6.length cap) ex6) (hU : Utf8Tabs 0 1 w) (hcap : ex6.length ≤ cap) :
    Calls Tryd.prog 9 #[.slice ao ex6.length cap] w fun e w' => (∃ x : JC, e = .returned (.tuple #[vagg x, .int .i64 0, .int .i64 0]) ∧ TIn w' (fun b => w.heap.size ≤ b) x tree6) ∧ Below w.heap.size w w' :=
  parse_tree w ao cap ex6 37 tree6 37 h hU ex6_pos ex6_end ex6_rune (by decide) hcap (by decide) (fun W R hr hT => value6 W R ao cap hr hT) (by decide) (by decide +kernel)
theorem parse7 (w : World) (ao : Option Addr) (cap : Nat) (h : Byts w (.slice ao ex7.length cap) ex7) (hU : Utf8Tabs 0 1 w) (hcap : ex7.length ≤ cap) :
    Calls Tryd.prog 9 #[.slice ao ex7.length cap] w fun e w' => (∃ x : JC, e = .returned (.tuple #[vagg x, .int .i64 0, .int .i64 0]) ∧ TIn w' (fun b => w.heap.size ≤ b) x tree7) ∧ Below w.heap.size w w' := by
  refine (parse_calls w ao cap ex7 3 5 (.ok [cOne] 3) h hU ex7_pos ex7_end ex7_rune (by decide) hcap (by decide +kernel) (by decide +kernel) (by kernel_rfl) (fun M q e => by cases e; exact ⟨by decide +kernel, by decide⟩)).mono ?_
  rintro e w' ⟨⟨lv, rfl, ho, _⟩, hb⟩
  exact ⟨⟨_, rfl, own_tree 5 ⟨#[]⟩ (K := []) ⟨none, 0, rfl, fun j hj => by simp at hj⟩ ho (fun x hx => by
    simp only [List.mem_cons, List.not_mem_nil, or_false] at hx
    rw [hx]
    exact ⟨rfl, rfl⟩)⟩, hb⟩

end Go.Proofs.YtacgocfgcoejpaaDoor

namespace Go.Proofs.YtacgocfgcoejpaaDoor
set_option linter.unusedVariables false
set_option linter.unusedSimpArgs false
set_option maxRecDepth 100000
open Go Go.RowKit Go.Shelf Go.Lib

def EfnR (w : World) (ln ln' : Nat) (f : Nat → Bool) (e : Ending) (w' : World) : Prop := ∃ r, e = .returned (.bool r) ∧ (r = true ↔ ln = ln' ∧ ∀ i, i < ln → f i = true) ∧ Below w.heap.size w w'
set_option maxHeartbeats 8000000 in
theorem efn_any (w : World) (la la' : Option Addr) (ln ln' lc lc' : Nat) (xs ys : Nat → JC) (f : Nat → Bool)
    (hc : ∀ w2, Below w.heap.size w w2 → ∀ i, i < ln → ∃ b off, la = some ⟨b, off, none⟩ ∧ ∀ r, r < 4 → w2.cell? ⟨b, off + (i * 4 + r), none⟩ = (vcell (xs i))[r]?)
    (hc' : ∀ w2, Below w.heap.size w w2 → ∀ i, i < ln' → ∃ b off, la' = some ⟨b, off, none⟩ ∧ ∀ r, r < 4 → w2.cell? ⟨b, off + (i * 4 + r), none⟩ = (vcell (ys i))[r]?)
    (hsl : ∀ i, i < ln → IsSl (xs i).2.2.1 ∧ IsSl (xs i).2.2.2) (hsl' : ∀ i, i < ln' → IsSl (ys i).2.2.1 ∧ IsSl (ys i).2.2.2)
    (hf : ∀ i, i < ln → i < ln' → ∀ w2, Below w.heap.size w w2 → Calls Tryd.prog 10 #[vagg (xs i), vagg (ys i)] w2 fun e w' => e = .returned (.bool (f i)) ∧ Below w2.heap.size w2 w') (hl : ln ≤ 1000) :
    Calls Tryd.prog 28 #[.slice la ln lc, .slice la' ln' lc', .func (.func 10) #[] #[]] w (EfnR w ln ln' f) := by
  have HC := hide hc
  have HC' := hide hc'
  have HSL := hide hsl
  have HSL' := hide hsl'
  have HF := hide hf
  have HH := hide hl
  clear hc hc' hsl hsl' hf hl
  by_cases hK : ln = ln'
  rotate_left
  · have d1 : ((ln : Int) != (ln' : Int)) = true := by simp; omega
    have HKK := hide hK
    clear hK
    go_enter Tryd.func28, Tryd.ntmps28
    go_wp2
    go_ret
    exact ⟨false, rfl, ⟨fun h => (by cases h), fun h => absurd h.1 HKK.out⟩, Below.refl _ _⟩
  subst hK
  go_enter Tryd.func28, Tryd.ntmps28
  go_wp2
  go_loopw [17] (fun iv wr => ∃ i : Nat, i ≤ ln ∧ iv = .int .i64 (i : Int) ∧ Below w.heap.size w wr ∧ ∀ q, q < i → f q = true) (fun iv _ => ln - (RowKit.intOf iv).toNat)
  case atStart => exact ⟨0, Nat.zero_le _, rfl, Below.refl _ _, fun q h => by omega⟩
  case round =>
    obtain ⟨i, hi, rfl, hB, hQ⟩ := hrel
    have HQ := hide hQ
    have HBR := hide hB
    clear hB hQ
    generalize wr = wo at *
    by_cases hlt : i < ln
    · obtain ⟨b, off, rfl, cx⟩ := HC.out wo HBR.out i hlt
      obtain ⟨b', off', rfl, cy⟩ := HC'.out wo HBR.out i hlt
      obtain ⟨hs2, hs3⟩ := HSL.out i hlt
      obtain ⟨hs4, hs5⟩ := HSL'.out i hlt
      have hcall := HF.out i hlt hlt
      generalize xs i = y at *
      obtain ⟨yk, ys', yK, yL⟩ := y
      generalize ys i = z at *
      obtain ⟨zk, zs, zK, zL⟩ := z
      simp only [vagg, vcell] at hcall cx cy hs2 hs3 hs4 hs5
      obtain ⟨pa, pn, pc, rfl⟩ := hs2
      obtain ⟨qa, qn, qc, rfl⟩ := hs3
      obtain ⟨pa', pn', pc', rfl⟩ := hs4
      obtain ⟨qa', qn', qc', rfl⟩ := hs5
      have x0 := cx 0 (by omega)
      have x1 := cx 1 (by omega)
      have x2 := cx 2 (by omega)
      have x3 := cx 3 (by omega)
      have y0 := cy 0 (by omega)
      have y1 := cy 1 (by omega)
      have y2 := cy 2 (by omega)
      have y3 := cy 3 (by omega)
      simp only [List.getElem?_cons_zero, List.getElem?_cons_succ, ← Nat.add_assoc, Nat.add_zero] at x0 x1 x2 x3 y0 y1 y2 y3
      obtain ⟨i1, hi1⟩ : ∃ i1, i + 1 = i1 := ⟨_, rfl⟩
      have e1 : (i : Int) + 1 = (i1 : Int) := by omega
      have g1 : (i1 : Int) ≤ 1000000000 := by have := HH.out; omega
      have d1 : (i : Int) < (ln : Int) := by omega
      have d0 : (0 : Int) ≤ (i : Int) := by omega
      have HI := hide (And.intro hlt hi1)
      have hb2 : Below w.heap.size w ((wo.alloc (.cells #[.int .i64 yk, .string ys', .slice pa pn pc, .slice qa qn qc] 25)).alloc (.cells #[.int .i64 zk, .string zs, .slice pa' pn' pc', .slice qa' qn' qc'] 25)) := HBR.out.trans (((bel wo _).alloc (by simp) _).mono HBR.out.size)
      have hcall2 := hcall _ hb2
      have HB2 := hide hb2
      have ly := block_lt (show wo.cell? ⟨b', off' + i * 4, none⟩ = some _ from y0)
      obtain ⟨r, hr⟩ : ∃ r, f i = r := ⟨_, rfl⟩
      rw [hr] at hcall2
      have HR := hide hr
      clear hcall hlt hi1 hi cx cy hb2 hr
      go_wp2_with fail
      refine hcall2.mono ?_
      rintro e w3 ⟨rfl, hb3⟩
      have HB3 := hide (HB2.out.trans (hb3.mono HB2.out.size))
      clear hcall2 hb3
      cases r
      · go_wp2
        go_ret
        refine ⟨false, rfl, ⟨fun h => (by cases h), fun h => ?_⟩, HB3.out⟩
        have := h.2 i HI.out.1
        rw [HR.out] at this
        cases this
      · go_wp2
        go_roundw
        case rel =>
          refine ⟨i1, by have := HI.out; omega, by first | rfl | go_num, HB3.out, fun q hq => ?_⟩
          rcases Nat.lt_or_ge q i with h | h
          · exact HQ.out q h
          · obtain rfl : q = i := by have := HI.out; omega
            exact HR.out
        case measure => have := HI.out; simp [RowKit.intOf]; omega
    · obtain rfl : i = ln := by omega
      have d5 : ¬ (i : Int) < (i : Int) := by omega
      clear hlt hi
      go_wp2
      go_ret
      exact ⟨true, rfl, ⟨fun _ => ⟨rfl, fun q h => HQ.out q h⟩, fun _ => rfl⟩, HBR.out⟩

end Go.Proofs.YtacgocfgcoejpaaDoor

namespace Go.Proofs.YtacgocfgcoejpaaDoor
set_option linter.unusedVariables false
set_option linter.unusedSimpArgs false
set_option maxRecDepth 100000
open Go Go.RowKit Go.Shelf Go.Lib

def fP (L L' : List JT) (i : Nat) : Bool := match L[i]?, L'[i]? with | some a, some b => eqJ a b | _, _ => false
theorem fP_all {L L' : List JT} : (L.length = L'.length ∧ ∀ i, i < L.length → fP L L' i = true) ↔ eqJs L L' = true := by
  rw [eqJs_iff]
  constructor
  · rintro ⟨h1, h2⟩
    refine ⟨h1, fun i a b ha hb => ?_⟩
    have := h2 i (List.getElem?_eq_some_iff.1 ha).1
    simpa [fP, ha, hb] using this
  · rintro ⟨h1, h2⟩
    refine ⟨h1, fun i hi => ?_⟩
    have ha : L[i]? = some L[i] := List.getElem?_eq_getElem hi
    have hb : L'[i]? = some (L'[i]'(by omega)) := List.getElem?_eq_getElem (by omega)
    simp only [fP, ha, hb]
    exact h2 i _ _ ha hb

set_option maxHeartbeats 16000000 in
theorem equal_any {W : World} {S : Nat → Prop} {x : JC} {T : JT} (h : TIn W S x T) (hl : LtT T) : ∀ {S' : Nat → Prop} {y : JC} {T' : JT}, TIn W S' y T' → LtT T' → ∀ (w : World), Below W.heap.size W w → Calls Tryd.prog 10 #[vagg x, vagg y] w (REqR w T T') := by
  induction h with
  | mk k s kv la lc K L xs hK hc hsl ht ih =>
    intro S' y T' hy hl' w hW
    cases hy with
    | mk k' s' kv' la' lc' K' L' ys hK' hc' hsl' ht' =>
    obtain ⟨_, _, _, _, hKl, hLl, hsz, hll⟩ := hl
    obtain ⟨_, _, _, _, hKl', hLl', hsz', hll'⟩ := hl'
    obtain ⟨ka, kc, rfl, hKc⟩ := hK
    obtain ⟨ka', kc', rfl, hKc'⟩ := hK'
    obtain ⟨a1, c1, a2, c2, hpx, hk1, hp1⟩ := plain_parts (la := la) (lc := lc) (L := L) k s (show StrsS W S (.slice ka K.length kc) K from ⟨ka, kc, rfl, hKc⟩)
    obtain ⟨a1', c1', a2', c2', hpy, hk1', hp1'⟩ := plain_parts (la := la') (lc := lc') (L := L') k' s' (show StrsS W S' (.slice ka' K'.length kc') K' from ⟨ka', kc', rfl, hKc'⟩)
    have HIH : Hid (∀ i (hi : i < L.length) (hi' : i < L'.length) w2, Below w.heap.size w w2 → Calls Tryd.prog 10 #[vagg (xs i), vagg (ys i)] w2 (REqR w2 L[i] L'[i])) := fun i hi hi' w2 h2 => ih i hi (hll i hi) (ht' i hi') (hll' i hi') w2 (hW.trans (h2.mono hW.size))
    have HLC : Hid (∀ w2, Below w.heap.size w w2 → ∀ i, i < (lP k L).length → ∃ b off, a2 = some ⟨b, off, none⟩ ∧ ∀ r, r < 4 → w2.cell? ⟨b, off + (i * 4 + r), none⟩ = (vcell (xs i))[r]?) := fun w2 h2 i hi => by
      obtain ⟨b, off, e, _, hx⟩ := hc i (hp1 i hi).1
      refine ⟨b, off, (hp1 i hi).2.2.trans e, fun r hr => ?_⟩
      have h0 := hx 0 (by omega)
      simp only [vcell, List.getElem?_cons_zero] at h0
      exact ((hW.trans (h2.mono hW.size)).cell (p := ⟨b, off + (i * 4 + r), none⟩) (block_lt h0)).trans (hx r hr)
    have HSL : Hid (∀ i, i < (lP k L).length → IsSl (xs i).2.2.1 ∧ IsSl (xs i).2.2.2) := fun i hi => hsl i (hp1 i hi).1
    have HLC' : Hid (∀ w2, Below w.heap.size w w2 → ∀ i, i < (lP k' L').length → ∃ b off, a2' = some ⟨b, off, none⟩ ∧ ∀ r, r < 4 → w2.cell? ⟨b, off + (i * 4 + r), none⟩ = (vcell (ys i))[r]?) := fun w2 h2 i hi => by
      obtain ⟨b, off, e, _, hx⟩ := hc' i (hp1' i hi).1
      refine ⟨b, off, (hp1' i hi).2.2.trans e, fun r hr => ?_⟩
      have h0 := hx 0 (by omega)
      simp only [vcell, List.getElem?_cons_zero] at h0
      exact ((hW.trans (h2.mono hW.size)).cell (p := ⟨b, off + (i * 4 + r), none⟩) (block_lt h0)).trans (hx r hr)
    have HSL' : Hid (∀ i, i < (lP k' L').length → IsSl (ys i).2.2.1 ∧ IsSl (ys i).2.2.2) := fun i hi => hsl' i (hp1' i hi).1
    have HF : Hid (∀ i, i < (lP k L).length → i < (lP k' L').length → ∀ w2, Below w.heap.size w w2 → Calls Tryd.prog 10 #[vagg (xs i), vagg (ys i)] w2 fun e w' => e = .returned (.bool (fP (lP k L) (lP k' L') i)) ∧ Below w2.heap.size w2 w') := fun i hi hi' w2 h2 => by
      obtain ⟨g1, g2, _⟩ := hp1 i hi
      obtain ⟨g1', g2', _⟩ := hp1' i hi'
      refine (HIH.out i g1 g1' w2 h2).mono fun e w3 h3 => ⟨?_, h3.2⟩
      rw [h3.1, g2, g2']
      simp only [fP, List.getElem?_eq_getElem g1, List.getElem?_eq_getElem g1']
    have HSEQ : Hid (∀ w2, Below w.heap.size w w2 → Calls Tryd.prog 27 #[.slice a1 (kP k K).length c1, .slice a1' (kP k' K').length c1'] w2 (SeqR w2 (kP k K) (kP k' K'))) := fun w2 h2 => seq_any hk1 hk1' (Nat.le_trans (show (kP k K).length ≤ K.length by unfold kP; split <;> simp) (by omega)) w2 (hW.trans (h2.mono hW.size))
    have HLL : Hid ((lP k L).length ≤ 1000) := by
      show _ ≤ _
      unfold lP
      split
      · omega
      · simp
    have HEFN : Hid (∀ w2, Below w.heap.size w w2 → Calls Tryd.prog 28 #[.slice a2 (lP k L).length c2, .slice a2' (lP k' L').length c2', .func (.func 10) #[] #[]] w2 (EfnR w2 (lP k L).length (lP k' L').length (fP (lP k L) (lP k' L')))) := fun w2 h2 => efn_any w2 a2 a2' _ _ c2 c2' xs ys _ (fun w3 h3 => HLC.out w3 (h2.trans (h3.mono h2.size))) (fun w3 h3 => HLC'.out w3 (h2.trans (h3.mono h2.size))) HSL.out HSL'.out (fun i hi hi' w3 h3 => HF.out i hi hi' w3 (h2.trans (h3.mono h2.size))) HLL.out
    have HEQ : Hid (eqJ (.mk k s K L) (.mk k' s' K' L') = true ↔ k = k' ∧ sP k s = sP k' s' ∧ kP k K = kP k' K' ∧ (lP k L).length = (lP k' L').length ∧ ∀ i, i < (lP k L).length → fP (lP k L) (lP k' L') i = true) := by show _ ↔ _; rw [eqJ_by, fP_all]
    obtain ⟨kn, hkn⟩ : ∃ kn, K.length = kn := ⟨_, rfl⟩
    obtain ⟨ln, hln⟩ : ∃ ln, L.length = ln := ⟨_, rfl⟩
    obtain ⟨kn', hkn'⟩ : ∃ kn, K'.length = kn := ⟨_, rfl⟩
    obtain ⟨ln', hln'⟩ : ∃ ln, L'.length = ln := ⟨_, rfl⟩
    obtain ⟨R, hR⟩ : ∃ R, eqJ (.mk k s K L) (.mk k' s' K' L') = R := ⟨_, rfl⟩
    unfold REqR
    rw [hR] at HEQ ⊢
    rw [hkn, hln] at hpx
    rw [hkn', hln'] at hpy
    unfold vagg
    simp only
    rw [hkn, hln, hkn', hln']
    clear HIH HLC HLC' HSL HSL' HF HLL ih ht ht' hc hc' hsl hsl' hKc hKc' hll hll' hKl hKl' hLl hLl' hsz hsz' hkn hln hkn' hln' hk1 hk1' hp1 hp1' hR hW
    generalize sP k s = s1 at *
    generalize sP k' s' = s1' at *
    generalize kP k K = K1 at *
    generalize kP k' K' = K1' at *
    generalize lP k L = L1 at *
    generalize lP k' L' = L1' at *
    generalize fP L1 L1' = f at *
    generalize K1.length = n1 at *
    generalize K1'.length = n1' at *
    generalize L1.length = n2 at *
    generalize L1'.length = n2' at *
    have HCX : Hid (∀ W2, Calls Tryd.prog 26 #[.agg #[.int .i64 k, .string s, .slice ka kn kc, .slice la ln lc]] W2 fun e w' => e = .returned (.agg #[.int .i64 k, .string s1, .slice a1 n1 c1, .slice a2 n2 c2]) ∧ Below W2.heap.size W2 w') := fun W2 => (plain_any W2 k s ka la kn kc ln lc).mono fun e w' h => ⟨by rw [h.1, hpx]; rfl, h.2⟩
    have HCY : Hid (∀ W2, Calls Tryd.prog 26 #[.agg #[.int .i64 k', .string s', .slice ka' kn' kc', .slice la' ln' lc']] W2 fun e w' => e = .returned (.agg #[.int .i64 k', .string s1', .slice a1' n1' c1', .slice a2' n2' c2']) ∧ Below W2.heap.size W2 w') := fun W2 => (plain_any W2 k' s' ka' la' kn' kc' ln' lc').mono fun e w' h => ⟨by rw [h.1, hpy]; rfl, h.2⟩
    clear hpx hpy
    have hb : Below w.heap.size w ((w.alloc (.cells #[.int .i64 k, .string s, .slice ka kn kc, .slice la ln lc] 25)).alloc (.cells #[.int .i64 k', .string s', .slice ka' kn' kc', .slice la' ln' lc'] 25)) := (bel w _).alloc (by simp) _
    have hp := (BoxC.new w 25 #[.int .i64 k, .string s, .slice ka kn kc, .slice la ln lc]).alloc (.cells #[.int .i64 k', .string s', .slice ka' kn' kc', .slice la' ln' lc'] 25)
    have hq := BoxC.new (w.alloc (.cells #[.int .i64 k, .string s, .slice ka kn kc, .slice la ln lc] 25)) 25 #[.int .i64 k', .string s', .slice ka' kn' kc', .slice la' ln' lc']
    rw [World.size_alloc] at hq
    generalize hw0 : (w.alloc (.cells #[.int .i64 k, .string s, .slice ka kn kc, .slice la ln lc] 25)).alloc (.cells #[.int .i64 k', .string s', .slice ka' kn' kc', .slice la' ln' lc'] 25) = w0 at *
    have HW0 := hide hw0
    have HPD : Hid (BoxC w0.drew w.heap.size 25 #[.int .i64 k, .string s, .slice ka kn kc, .slice la ln lc]) := hp
    have HQD : Hid (BoxC w0.drew (w.heap.size + 1) 25 #[.int .i64 k', .string s', .slice ka' kn' kc', .slice la' ln' lc']) := hq
    have HBD : Hid (Below w.heap.size w w0.drew) := hb.drew
    have HS : Hid (∀ X0 : World, BoxC X0 w.heap.size 25 #[.int .i64 k, .string s, .slice ka kn kc, .slice la ln lc] → BoxC X0 (w.heap.size + 1) 25 #[.int .i64 k', .string s', .slice ka' kn' kc', .slice la' ln' lc'] → (X0.cell? ⟨w.heap.size, 0, none⟩ = some (.int .i64 k) ∧ X0.cell? ⟨w.heap.size, 1, none⟩ = some (.string s) ∧ X0.cell? ⟨w.heap.size, 2, none⟩ = some (.slice ka kn kc) ∧ X0.cell? ⟨w.heap.size, 3, none⟩ = some (.slice la ln lc) ∧ X0.cell? ⟨w.heap.size + 1, 0, none⟩ = some (.int .i64 k') ∧ X0.cell? ⟨w.heap.size + 1, 1, none⟩ = some (.string s') ∧ X0.cell? ⟨w.heap.size + 1, 2, none⟩ = some (.slice ka' kn' kc') ∧ X0.cell? ⟨w.heap.size + 1, 3, none⟩ = some (.slice la' ln' lc'))) := fun X0 h k => ⟨h.cell 0, h.cell 1, h.cell 2, h.cell 3, k.cell 0, k.cell 1, k.cell 2, k.cell 3⟩
    clear hw0 hp hq hb
    go_enter Tryd.func10, Tryd.ntmps10
    go_upto_region 1 with fail
    rw [HW0.out]
    clear HW0
    refine wp_region_held_drew (S := fun X0 : World => True) (by kernel_rfl) trivial (fun hHeld => ?_)
    generalize w0.drew = wd at *
    refine wpAnyH_ready (rs := [0, 2]) (by kernel_rfl) (by simp) ?_
    refine AllReadyH.cons rfl (fun K9 hK => ?_) (AllReadyH.cons rfl (fun K9 hK => ?_) AllReadyH.nil)
    · have pf0 := HPD.out.frozen 0
      have pc0 : wd.cell? ⟨w.heap.size, 0, none⟩ = some (.int .i64 k) := HPD.out.cell 0
      have pf1 := HPD.out.frozen 1
      have pc1 : wd.cell? ⟨w.heap.size, 1, none⟩ = some (.string s) := HPD.out.cell 1
      have pf2 := HPD.out.frozen 2
      have pc2 : wd.cell? ⟨w.heap.size, 2, none⟩ = some (.slice ka kn kc) := HPD.out.cell 2
      have pf3 := HPD.out.frozen 3
      have pc3 : wd.cell? ⟨w.heap.size, 3, none⟩ = some (.slice la ln lc) := HPD.out.cell 3
      have pl := HPD.out.lt
      have qf0 := HQD.out.frozen 0
      have qc0 : wd.cell? ⟨w.heap.size + 1, 0, none⟩ = some (.int .i64 k') := HQD.out.cell 0
      have qf1 := HQD.out.frozen 1
      have qc1 : wd.cell? ⟨w.heap.size + 1, 1, none⟩ = some (.string s') := HQD.out.cell 1
      have qf2 := HQD.out.frozen 2
      have qc2 : wd.cell? ⟨w.heap.size + 1, 2, none⟩ = some (.slice ka' kn' kc') := HQD.out.cell 2
      have qf3 := HQD.out.frozen 3
      have qc3 : wd.cell? ⟨w.heap.size + 1, 3, none⟩ = some (.slice la' ln' lc') := HQD.out.cell 3
      have ql := HQD.out.lt
      go_simp
      refine hK.out _ _ trivial (fun _ => ?_)
      clear hK K9
      clear pf0 pf1 pf2 pf3 pc0 pc1 pc2 pc3 qf0 qf1 qf2 qf3 qc0 qc1 qc2 qc3 pl ql
      try simp only [Act.put, List.setIfInBounds_toArray, List.set_cons_zero, List.set_cons_succ, vagg]
      refine wpAnyH_ready (rs := [1, 2]) (by kernel_rfl) (by simp) ?_
      refine AllReadyH.cons rfl (fun K9 hK => ?_) (AllReadyH.cons rfl (fun K9 hK => ?_) AllReadyH.nil)
      · go_simp
        refine (HCX.out _).mono ?_
        rintro e w1 ⟨rfl, hB9⟩
        have HP1 := hide (HPD.out.below hB9)
        have HQ1 := hide (HQD.out.below hB9)
        have HB1 := hide (HBD.out.trans (hB9.mono HBD.out.size))
        refine hK.out _ _ trivial (fun _ => ?_)
        clear hK K9 hB9
        try simp only [Act.put, List.setIfInBounds_toArray, List.set_cons_zero, List.set_cons_succ, vagg]
        refine wpAnyH_ready (rs := [2]) (by kernel_rfl) (by simp) ?_
        refine AllReadyH.cons rfl (fun K9 hK => ?_) AllReadyH.nil
        have pf0 := HP1.out.frozen 0
        have pc0 : w1.cell? ⟨w.heap.size, 0, none⟩ = some (.int .i64 k) := HP1.out.cell 0
        have pf1 := HP1.out.frozen 1
        have pc1 : w1.cell? ⟨w.heap.size, 1, none⟩ = some (.string s) := HP1.out.cell 1
        have pf2 := HP1.out.frozen 2
        have pc2 : w1.cell? ⟨w.heap.size, 2, none⟩ = some (.slice ka kn kc) := HP1.out.cell 2
        have pf3 := HP1.out.frozen 3
        have pc3 : w1.cell? ⟨w.heap.size, 3, none⟩ = some (.slice la ln lc) := HP1.out.cell 3
        have pl := HP1.out.lt
        have qf0 := HQ1.out.frozen 0
        have qc0 : w1.cell? ⟨w.heap.size + 1, 0, none⟩ = some (.int .i64 k') := HQ1.out.cell 0
        have qf1 := HQ1.out.frozen 1
        have qc1 : w1.cell? ⟨w.heap.size + 1, 1, none⟩ = some (.string s') := HQ1.out.cell 1
        have qf2 := HQ1.out.frozen 2
        have qc2 : w1.cell? ⟨w.heap.size + 1, 2, none⟩ = some (.slice ka' kn' kc') := HQ1.out.cell 2
        have qf3 := HQ1.out.frozen 3
        have qc3 : w1.cell? ⟨w.heap.size + 1, 3, none⟩ = some (.slice la' ln' lc') := HQ1.out.cell 3
        have ql := HQ1.out.lt
        go_simp
        refine hK.out _ _ trivial (fun _ => ?_)
        clear hK K9
        clear pf0 pf1 pf2 pf3 pc0 pc1 pc2 pc3 qf0 qf1 qf2 qf3 qc0 qc1 qc2 qc3 pl ql
        try simp only [Act.put, List.setIfInBounds_toArray, List.set_cons_zero, List.set_cons_succ, vagg]
        refine wpAnyH_ready (rs := [3]) (by kernel_rfl) (by simp) ?_
        refine AllReadyH.cons rfl (fun K9 hK => ?_) AllReadyH.nil
        go_simp
        refine (HCY.out _).mono ?_
        rintro e w2 ⟨rfl, hB9⟩
        have HP2 := hide (HP1.out.below hB9)
        have HQ2 := hide (HQ1.out.below hB9)
        have HB2 := hide (HB1.out.trans (hB9.mono HB1.out.size))
        refine hK.out _ _ trivial (fun _ => ?_)
        clear hK K9 hB9
        try simp only [Act.put, List.setIfInBounds_toArray, List.set_cons_zero, List.set_cons_succ, vagg]
        refine wpAnyH_ready (rs := [4]) (by kernel_rfl) (by simp) ?_
        refine AllReadyH.cons rfl (fun K9 hK => ?_) AllReadyH.nil
        have pf0 := HP2.out.frozen 0
        have pc0 : w2.cell? ⟨w.heap.size, 0, none⟩ = some (.int .i64 k) := HP2.out.cell 0
        have pf1 := HP2.out.frozen 1
        have pc1 : w2.cell? ⟨w.heap.size, 1, none⟩ = some (.string s) := HP2.out.cell 1
        have pf2 := HP2.out.frozen 2
        have pc2 : w2.cell? ⟨w.heap.size, 2, none⟩ = some (.slice ka kn kc) := HP2.out.cell 2
        have pf3 := HP2.out.frozen 3
        have pc3 : w2.cell? ⟨w.heap.size, 3, none⟩ = some (.slice la ln lc) := HP2.out.cell 3
        have pl := HP2.out.lt
        have qf0 := HQ2.out.frozen 0
        have qc0 : w2.cell? ⟨w.heap.size + 1, 0, none⟩ = some (.int .i64 k') := HQ2.out.cell 0
        have qf1 := HQ2.out.frozen 1
        have qc1 : w2.cell? ⟨w.heap.size + 1, 1, none⟩ = some (.string s') := HQ2.out.cell 1
        have qf2 := HQ2.out.frozen 2
        have qc2 : w2.cell? ⟨w.heap.size + 1, 2, none⟩ = some (.slice ka' kn' kc') := HQ2.out.cell 2
        have qf3 := HQ2.out.frozen 3
        have qc3 : w2.cell? ⟨w.heap.size + 1, 3, none⟩ = some (.slice la' ln' lc') := HQ2.out.cell 3
        have ql := HQ2.out.lt
        go_simp
        have HP3 := hide (resJ_v HP2.out (.int .i64 k) (.string s1) (.slice a1 n1 c1) (.slice a2 n2 c2))
        have HQ3 := hide (box_off4 HQ2.out (show w.heap.size + 1 ≠ w.heap.size by omega) (.int .i64 k) (.string s1) (.slice a1 n1 c1) (.slice a2 n2 c2))
        have HB3 := hide (below4 HB2.out (Nat.le_refl _) (.int .i64 k) (.string s1) (.slice a1 n1 c1) (.slice a2 n2 c2))
        refine hK.out _ _ trivial (fun _ => ?_)
        clear hK K9
        try simp only [Act.put, List.setIfInBounds_toArray, List.set_cons_zero, List.set_cons_succ, vagg]
        generalize ((((w2.setCell ⟨w.heap.size, 0, none⟩ (.int .i64 k)).setCell ⟨w.heap.size, 1, none⟩ (.string s1)).setCell ⟨w.heap.size, 2, none⟩ (.slice a1 n1 c1)).setCell ⟨w.heap.size, 3, none⟩ (.slice a2 n2 c2)) = w3 at *
        clear pf0 pf1 pf2 pf3 pc0 pc1 pc2 pc3 qf0 qf1 qf2 qf3 qc0 qc1 qc2 qc3 pl ql
        refine wpAnyH_ready (rs := [5]) (by kernel_rfl) (by simp) ?_
        refine AllReadyH.cons rfl (fun K9 hK => ?_) AllReadyH.nil
        have pf0 := HP3.out.frozen 0
        have pc0 : w3.cell? ⟨w.heap.size, 0, none⟩ = some (.int .i64 k) := HP3.out.cell 0
        have pf1 := HP3.out.frozen 1
        have pc1 : w3.cell? ⟨w.heap.size, 1, none⟩ = some (.string s1) := HP3.out.cell 1
        have pf2 := HP3.out.frozen 2
        have pc2 : w3.cell? ⟨w.heap.size, 2, none⟩ = some (.slice a1 n1 c1) := HP3.out.cell 2
        have pf3 := HP3.out.frozen 3
        have pc3 : w3.cell? ⟨w.heap.size, 3, none⟩ = some (.slice a2 n2 c2) := HP3.out.cell 3
        have pl := HP3.out.lt
        have qf0 := HQ3.out.frozen 0
        have qc0 : w3.cell? ⟨w.heap.size + 1, 0, none⟩ = some (.int .i64 k') := HQ3.out.cell 0
        have qf1 := HQ3.out.frozen 1
        have qc1 : w3.cell? ⟨w.heap.size + 1, 1, none⟩ = some (.string s') := HQ3.out.cell 1
        have qf2 := HQ3.out.frozen 2
        have qc2 : w3.cell? ⟨w.heap.size + 1, 2, none⟩ = some (.slice ka' kn' kc') := HQ3.out.cell 2
        have qf3 := HQ3.out.frozen 3
        have qc3 : w3.cell? ⟨w.heap.size + 1, 3, none⟩ = some (.slice la' ln' lc') := HQ3.out.cell 3
        have ql := HQ3.out.lt
        go_simp
        have HQ4 := hide (resJ_v HQ3.out (.int .i64 k') (.string s1') (.slice a1' n1' c1') (.slice a2' n2' c2'))
        have HP4 := hide (box_off4 HP3.out (show w.heap.size ≠ w.heap.size + 1 by omega) (.int .i64 k') (.string s1') (.slice a1' n1' c1') (.slice a2' n2' c2'))
        have HB4 := hide (below4 HB3.out (Nat.le_succ _) (.int .i64 k') (.string s1') (.slice a1' n1' c1') (.slice a2' n2' c2'))
        refine hK.out _ _ trivial (fun _ => ?_)
        clear hK K9
        try simp only [Act.put, List.setIfInBounds_toArray, List.set_cons_zero, List.set_cons_succ, vagg]
        generalize ((((w3.setCell ⟨w.heap.size + 1, 0, none⟩ (.int .i64 k')).setCell ⟨w.heap.size + 1, 1, none⟩ (.string s1')).setCell ⟨w.heap.size + 1, 2, none⟩ (.slice a1' n1' c1')).setCell ⟨w.heap.size + 1, 3, none⟩ (.slice a2' n2' c2')) = w4 at *
        clear pf0 pf1 pf2 pf3 pc0 pc1 pc2 pc3 qf0 qf1 qf2 qf3 qc0 qc1 qc2 qc3 pl ql
        refine wpAnyH_done (by kernel_rfl) ?_ _
        have pf0 := HP4.out.frozen 0
        have pc0 : w4.cell? ⟨w.heap.size, 0, none⟩ = some (.int .i64 k) := HP4.out.cell 0
        have pf1 := HP4.out.frozen 1
        have pc1 : w4.cell? ⟨w.heap.size, 1, none⟩ = some (.string s1) := HP4.out.cell 1
        have pf2 := HP4.out.frozen 2
        have pc2 : w4.cell? ⟨w.heap.size, 2, none⟩ = some (.slice a1 n1 c1) := HP4.out.cell 2
        have pf3 := HP4.out.frozen 3
        have pc3 : w4.cell? ⟨w.heap.size, 3, none⟩ = some (.slice a2 n2 c2) := HP4.out.cell 3
        have pl := HP4.out.lt
        have qf0 := HQ4.out.frozen 0
        have qc0 : w4.cell? ⟨w.heap.size + 1, 0, none⟩ = some (.int .i64 k') := HQ4.out.cell 0
        have qf1 := HQ4.out.frozen 1
        have qc1 : w4.cell? ⟨w.heap.size + 1, 1, none⟩ = some (.string s1') := HQ4.out.cell 1
        have qf2 := HQ4.out.frozen 2
        have qc2 : w4.cell? ⟨w.heap.size + 1, 2, none⟩ = some (.slice a1' n1' c1') := HQ4.out.cell 2
        have qf3 := HQ4.out.frozen 3
        have qc3 : w4.cell? ⟨w.heap.size + 1, 3, none⟩ = some (.slice a2' n2' c2') := HQ4.out.cell 3
        have ql := HQ4.out.lt
        by_cases hk : k = k'
        rotate_left
        · have d1 : (k == k') = false := by simpa using hk
          have HKK := hide hk
          clear hk
          go_wp2
          go_ret
          refine ⟨?_, HB4.out⟩
          have hR : R = false := Bool.eq_false_iff.2 (fun h => HKK.out ((HEQ.out.1 h).1))
          rw [hR]
          rfl
        subst hk
        by_cases hs : s1 = s1'
        rotate_left
        · have d1 : (s1.toList == s1'.toList) = false := str_ne hs
          have HKK := hide hs
          clear hs
          go_wp2
          go_ret
          refine ⟨?_, HB4.out⟩
          have hR : R = false := Bool.eq_false_iff.2 (fun h => HKK.out ((HEQ.out.1 h).2.1))
          rw [hR]
          rfl
        subst hs
        have hse : (s1.toList == s1.toList) = true := by simp
        go_wp2_with fail
        refine (HSEQ.out w4 HB4.out).mono ?_
        rintro e w5 ⟨rfl, hb5⟩
        have HP5 := hide (HP4.out.below hb5)
        have HQ5 := hide (HQ4.out.below hb5)
        have HB5 := hide (HB4.out.trans (hb5.mono HB4.out.size))
        clear hb5
        clear pf0 pf1 pf2 pf3 pc0 pc1 pc2 pc3 qf0 qf1 qf2 qf3 qc0 qc1 qc2 qc3 pl ql
        have pf0 := HP5.out.frozen 0
        have pc0 : w5.cell? ⟨w.heap.size, 0, none⟩ = some (.int .i64 k) := HP5.out.cell 0
        have pf1 := HP5.out.frozen 1
        have pc1 : w5.cell? ⟨w.heap.size, 1, none⟩ = some (.string s1) := HP5.out.cell 1
        have pf2 := HP5.out.frozen 2
        have pc2 : w5.cell? ⟨w.heap.size, 2, none⟩ = some (.slice a1 n1 c1) := HP5.out.cell 2
        have pf3 := HP5.out.frozen 3
        have pc3 : w5.cell? ⟨w.heap.size, 3, none⟩ = some (.slice a2 n2 c2) := HP5.out.cell 3
        have pl := HP5.out.lt
        have qf0 := HQ5.out.frozen 0
        have qc0 : w5.cell? ⟨w.heap.size + 1, 0, none⟩ = some (.int .i64 k) := HQ5.out.cell 0
        have qf1 := HQ5.out.frozen 1
        have qc1 : w5.cell? ⟨w.heap.size + 1, 1, none⟩ = some (.string s1) := HQ5.out.cell 1
        have qf2 := HQ5.out.frozen 2
        have qc2 : w5.cell? ⟨w.heap.size + 1, 2, none⟩ = some (.slice a1' n1' c1') := HQ5.out.cell 2
        have qf3 := HQ5.out.frozen 3
        have qc3 : w5.cell? ⟨w.heap.size + 1, 3, none⟩ = some (.slice a2' n2' c2') := HQ5.out.cell 3
        have ql := HQ5.out.lt
        by_cases hKK : K1 = K1'
        rotate_left
        · rw [decide_eq_false hKK]
          have HKK := hide hKK
          clear hKK
          go_wp2
          go_ret
          refine ⟨?_, HB5.out⟩
          have hR : R = false := Bool.eq_false_iff.2 (fun h => HKK.out ((HEQ.out.1 h).2.2.1))
          rw [hR]
          rfl
        rw [decide_eq_true hKK]
        have HKK := hide hKK
        clear hKK
        go_wp2_with fail
        refine (HEFN.out w5 HB5.out).mono ?_
        rintro e w6 ⟨r, rfl, hr, hb6⟩
        have HB6 := hide (HB5.out.trans (hb6.mono HB5.out.size))
        have HRR := hide hr
        clear hb6 hr
        clear pf0 pf1 pf2 pf3 pc0 pc1 pc2 pc3 qf0 qf1 qf2 qf3 qc0 qc1 qc2 qc3 pl ql
        go_wp2
        go_ret
        refine ⟨?_, HB6.out⟩
        have hR : R = r := Bool.eq_iff_iff.2 ⟨fun h => HRR.out.2 (HEQ.out.1 h).2.2.2, fun h => HEQ.out.2 ⟨trivial, trivial, HKK.out, HRR.out.1 h⟩⟩
        rw [hR]
        rfl
      · have pf0 := HPD.out.frozen 0
        have pc0 : wd.cell? ⟨w.heap.size, 0, none⟩ = some (.int .i64 k) := HPD.out.cell 0
        have pf1 := HPD.out.frozen 1
        have pc1 : wd.cell? ⟨w.heap.size, 1, none⟩ = some (.string s) := HPD.out.cell 1
        have pf2 := HPD.out.frozen 2
        have pc2 : wd.cell? ⟨w.heap.size, 2, none⟩ = some (.slice ka kn kc) := HPD.out.cell 2
        have pf3 := HPD.out.frozen 3
        have pc3 : wd.cell? ⟨w.heap.size, 3, none⟩ = some (.slice la ln lc) := HPD.out.cell 3
        have pl := HPD.out.lt
        have qf0 := HQD.out.frozen 0
        have qc0 : wd.cell? ⟨w.heap.size + 1, 0, none⟩ = some (.int .i64 k') := HQD.out.cell 0
        have qf1 := HQD.out.frozen 1
        have qc1 : wd.cell? ⟨w.heap.size + 1, 1, none⟩ = some (.string s') := HQD.out.cell 1
        have qf2 := HQD.out.frozen 2
        have qc2 : wd.cell? ⟨w.heap.size + 1, 2, none⟩ = some (.slice ka' kn' kc') := HQD.out.cell 2
        have qf3 := HQD.out.frozen 3
        have qc3 : wd.cell? ⟨w.heap.size + 1, 3, none⟩ = some (.slice la' ln' lc') := HQD.out.cell 3
        have ql := HQD.out.lt
        go_simp
        refine hK.out _ _ trivial (fun _ => ?_)
        clear hK K9
        clear pf0 pf1 pf2 pf3 pc0 pc1 pc2 pc3 qf0 qf1 qf2 qf3 qc0 qc1 qc2 qc3 pl ql
        try simp only [Act.put, List.setIfInBounds_toArray, List.set_cons_zero, List.set_cons_succ, vagg]
        refine wpAnyH_ready (rs := [1]) (by kernel_rfl) (by simp) ?_
        refine AllReadyH.cons rfl (fun K9 hK => ?_) AllReadyH.nil
        go_simp
        refine (HCX.out _).mono ?_
        rintro e w1 ⟨rfl, hB9⟩
        have HP1 := hide (HPD.out.below hB9)
        have HQ1 := hide (HQD.out.below hB9)
        have HB1 := hide (HBD.out.trans (hB9.mono HBD.out.size))
        refine hK.out _ _ trivial (fun _ => ?_)
        clear hK K9 hB9
        try simp only [Act.put, List.setIfInBounds_toArray, List.set_cons_zero, List.set_cons_succ, vagg]
        refine wpAnyH_ready (rs := [3]) (by kernel_rfl) (by simp) ?_
        refine AllReadyH.cons rfl (fun K9 hK => ?_) AllReadyH.nil
        go_simp
        refine (HCY.out _).mono ?_
        rintro e w2 ⟨rfl, hB9⟩
        have HP2 := hide (HP1.out.below hB9)
        have HQ2 := hide (HQ1.out.below hB9)
        have HB2 := hide (HB1.out.trans (hB9.mono HB1.out.size))
        refine hK.out _ _ trivial (fun _ => ?_)
        clear hK K9 hB9
        try simp only [Act.put, List.setIfInBounds_toArray, List.set_cons_zero, List.set_cons_succ, vagg]
        refine wpAnyH_ready (rs := [4]) (by kernel_rfl) (by simp) ?_
        refine AllReadyH.cons rfl (fun K9 hK => ?_) AllReadyH.nil
        have pf0 := HP2.out.frozen 0
        have pc0 : w2.cell? ⟨w.heap.size, 0, none⟩ = some (.int .i64 k) := HP2.out.cell 0
        have pf1 := HP2.out.frozen 1
        have pc1 : w2.cell? ⟨w.heap.size, 1, none⟩ = some (.string s) := HP2.out.cell 1
        have pf2 := HP2.out.frozen 2
        have pc2 : w2.cell? ⟨w.heap.size, 2, none⟩ = some (.slice ka kn kc) := HP2.out.cell 2
        have pf3 := HP2.out.frozen 3
        have pc3 : w2.cell? ⟨w.heap.size, 3, none⟩ = some (.slice la ln lc) := HP2.out.cell 3
        have pl := HP2.out.lt
        have qf0 := HQ2.out.frozen 0
        have qc0 : w2.cell? ⟨w.heap.size + 1, 0, none⟩ = some (.int .i64 k') := HQ2.out.cell 0
        have qf1 := HQ2.out.frozen 1
        have qc1 : w2.cell? ⟨w.heap.size + 1, 1, none⟩ = some (.string s') := HQ2.out.cell 1
        have qf2 := HQ2.out.frozen 2
        have qc2 : w2.cell? ⟨w.heap.size + 1, 2, none⟩ = some (.slice ka' kn' kc') := HQ2.out.cell 2
        have qf3 := HQ2.out.frozen 3
        have qc3 : w2.cell? ⟨w.heap.size + 1, 3, none⟩ = some (.slice la' ln' lc') := HQ2.out.cell 3
        have ql := HQ2.out.lt
        go_simp
        have HP3 := hide (resJ_v HP2.out (.int .i64 k) (.string s1) (.slice a1 n1 c1) (.slice a2 n2 c2))
        have HQ3 := hide (box_off4 HQ2.out (show w.heap.size + 1 ≠ w.heap.size by omega) (.int .i64 k) (.string s1) (.slice a1 n1 c1) (.slice a2 n2 c2))
        have HB3 := hide (below4 HB2.out (Nat.le_refl _) (.int .i64 k) (.string s1) (.slice a1 n1 c1) (.slice a2 n2 c2))
        refine hK.out _ _ trivial (fun _ => ?_)
        clear hK K9
        try simp only [Act.put, List.setIfInBounds_toArray, List.set_cons_zero, List.set_cons_succ, vagg]
        generalize ((((w2.setCell ⟨w.heap.size, 0, none⟩ (.int .i64 k)).setCell ⟨w.heap.size, 1, none⟩ (.string s1)).setCell ⟨w.heap.size, 2, none⟩ (.slice a1 n1 c1)).setCell ⟨w.heap.size, 3, none⟩ (.slice a2 n2 c2)) = w3 at *
        clear pf0 pf1 pf2 pf3 pc0 pc1 pc2 pc3 qf0 qf1 qf2 qf3 qc0 qc1 qc2 qc3 pl ql
        refine wpAnyH_ready (rs := [5]) (by kernel_rfl) (by simp) ?_
        refine AllReadyH.cons rfl (fun K9 hK => ?_) AllReadyH.nil
        have pf0 := HP3.out.frozen 0
        have pc0 : w3.cell? ⟨w.heap.size, 0, none⟩ = some (.int .i64 k) := HP3.out.cell 0
        have pf1 := HP3.out.frozen 1
        have pc1 : w3.cell? ⟨w.heap.size, 1, none⟩ = some (.string s1) := HP3.out.cell 1
        have pf2 := HP3.out.frozen 2
        have pc2 : w3.cell? ⟨w.heap.size, 2, none⟩ = some (.slice a1 n1 c1) := HP3.out.cell 2
        have pf3 := HP3.out.frozen 3
        have pc3 : w3.cell? ⟨w.heap.size, 3, none⟩ = some (.slice a2 n2 c2) := HP3.out.cell 3
        have pl := HP3.out.lt
        have qf0 := HQ3.out.frozen 0
        have qc0 : w3.cell? ⟨w.heap.size + 1, 0, none⟩ = some (.int .i64 k') := HQ3.out.cell 0
        have qf1 := HQ3.out.frozen 1
        have qc1 : w3.cell? ⟨w.heap.size + 1, 1, none⟩ = some (.string s') := HQ3.out.cell 1
        have qf2 := HQ3.out.frozen 2
        have qc2 : w3.cell? ⟨w.heap.size + 1, 2, none⟩ = some (.slice ka' kn' kc') := HQ3.out.cell 2
        have qf3 := HQ3.out.frozen 3
        have qc3 : w3.cell? ⟨w.heap.size + 1, 3, none⟩ = some (.slice la' ln' lc') := HQ3.out.cell 3
        have ql := HQ3.out.lt
        go_simp
        have HQ4 := hide (resJ_v HQ3.out (.int .i64 k') (.string s1') (.slice a1' n1' c1') (.slice a2' n2' c2'))
        have HP4 := hide (box_off4 HP3.out (show w.heap.size ≠ w.heap.size + 1 by omega) (.int .i64 k') (.string s1') (.slice a1' n1' c1') (.slice a2' n2' c2'))
        have HB4 := hide (below4 HB3.out (Nat.le_succ _) (.int .i64 k') (.string s1') (.slice a1' n1' c1') (.slice a2' n2' c2'))
        refine hK.out _ _ trivial (fun _ => ?_)
        clear hK K9
        try simp only [Act.put, List.setIfInBounds_toArray, List.set_cons_zero, List.set_cons_succ, vagg]
        generalize ((((w3.setCell ⟨w.heap.size + 1, 0, none⟩ (.int .i64 k')).setCell ⟨w.heap.size + 1, 1, none⟩ (.string s1')).setCell ⟨w.heap.size + 1, 2, none⟩ (.slice a1' n1' c1')).setCell ⟨w.heap.size + 1, 3, none⟩ (.slice a2' n2' c2')) = w4 at *
        clear pf0 pf1 pf2 pf3 pc0 pc1 pc2 pc3 qf0 qf1 qf2 qf3 qc0 qc1 qc2 qc3 pl ql
        refine wpAnyH_done (by kernel_rfl) ?_ _
        have pf0 := HP4.out.frozen 0
        have pc0 : w4.cell? ⟨w.heap.size, 0, none⟩ = some (.int .i64 k) := HP4.out.cell 0
        have pf1 := HP4.out.frozen 1
        have pc1 : w4.cell? ⟨w.heap.size, 1, none⟩ = some (.string s1) := HP4.out.cell 1
        have pf2 := HP4.out.frozen 2
        have pc2 : w4.cell? ⟨w.heap.size, 2, none⟩ = some (.slice a1 n1 c1) := HP4.out.cell 2
        have pf3 := HP4.out.frozen 3
        have pc3 : w4.cell? ⟨w.heap.size, 3, none⟩ = some (.slice a2 n2 c2) := HP4.out.cell 3
        have pl := HP4.out.lt
        have qf0 := HQ4.out.frozen 0
        have qc0 : w4.cell? ⟨w.heap.size + 1, 0, none⟩ = some (.int .i64 k') := HQ4.out.cell 0
        have qf1 := HQ4.out.frozen 1
        have qc1 : w4.cell? ⟨w.heap.size + 1, 1, none⟩ = some (.string s1') := HQ4.out.cell 1
        have qf2 := HQ4.out.frozen 2
        have qc2 : w4.cell? ⟨w.heap.size + 1, 2, none⟩ = some (.slice a1' n1' c1') := HQ4.out.cell 2
        have qf3 := HQ4.out.frozen 3
        have qc3 : w4.cell? ⟨w.heap.size + 1, 3, none⟩ = some (.slice a2' n2' c2') := HQ4.out.cell 3
        have ql := HQ4.out.lt
        by_cases hk : k = k'
        rotate_left
        · have d1 : (k == k') = false := by simpa using hk
          have HKK := hide hk
          clear hk
          go_wp2
          go_ret
          refine ⟨?_, HB4.out⟩
          have hR : R = false := Bool.eq_false_iff.2 (fun h => HKK.out ((HEQ.out.1 h).1))
          rw [hR]
          rfl
        subst hk
        by_cases hs : s1 = s1'
        rotate_left
        · have d1 : (s1.toList == s1'.toList) = false := str_ne hs
          have HKK := hide hs
          clear hs
          go_wp2
          go_ret
          refine ⟨?_, HB4.out⟩
          have hR : R = false := Bool.eq_false_iff.2 (fun h => HKK.out ((HEQ.out.1 h).2.1))
          rw [hR]
          rfl
        subst hs
        have hse : (s1.toList == s1.toList) = true := by simp
        go_wp2_with fail
        refine (HSEQ.out w4 HB4.out).mono ?_
        rintro e w5 ⟨rfl, hb5⟩
        have HP5 := hide (HP4.out.below hb5)
        have HQ5 := hide (HQ4.out.below hb5)
        have HB5 := hide (HB4.out.trans (hb5.mono HB4.out.size))
        clear hb5
        clear pf0 pf1 pf2 pf3 pc0 pc1 pc2 pc3 qf0 qf1 qf2 qf3 qc0 qc1 qc2 qc3 pl ql
        have pf0 := HP5.out.frozen 0
        have pc0 : w5.cell? ⟨w.heap.size, 0, none⟩ = some (.int .i64 k) := HP5.out.cell 0
        have pf1 := HP5.out.frozen 1
        have pc1 : w5.cell? ⟨w.heap.size, 1, none⟩ = some (.string s1) := HP5.out.cell 1
        have pf2 := HP5.out.frozen 2
        have pc2 : w5.cell? ⟨w.heap.size, 2, none⟩ = some (.slice a1 n1 c1) := HP5.out.cell 2
        have pf3 := HP5.out.frozen 3
        have pc3 : w5.cell? ⟨w.heap.size, 3, none⟩ = some (.slice a2 n2 c2) := HP5.out.cell 3
        have pl := HP5.out.lt
        have qf0 := HQ5.out.frozen 0
        have qc0 : w5.cell? ⟨w.heap.size + 1, 0, none⟩ = some (.int .i64 k) := HQ5.out.cell 0
        have qf1 := HQ5.out.frozen 1
        have qc1 : w5.cell? ⟨w.heap.size + 1, 1, none⟩ = some (.string s1) := HQ5.out.cell 1
        have qf2 := HQ5.out.frozen 2
        have qc2 : w5.cell? ⟨w.heap.size + 1, 2, none⟩ = some (.slice a1' n1' c1') := HQ5.out.cell 2
        have qf3 := HQ5.out.frozen 3
        have qc3 : w5.cell? ⟨w.heap.size + 1, 3, none⟩ = some (.slice a2' n2' c2') := HQ5.out.cell 3
        have ql := HQ5.out.lt
        by_cases hKK : K1 = K1'
        rotate_left
        · rw [decide_eq_false hKK]
          have HKK := hide hKK
          clear hKK
          go_wp2
          go_ret
          refine ⟨?_, HB5.out⟩
          have hR : R = false := Bool.eq_false_iff.2 (fun h => HKK.out ((HEQ.out.1 h).2.2.1))
          rw [hR]
          rfl
        rw [decide_eq_true hKK]
        have HKK := hide hKK
        clear hKK
        go_wp2_with fail
        refine (HEFN.out w5 HB5.out).mono ?_
        rintro e w6 ⟨r, rfl, hr, hb6⟩
        have HB6 := hide (HB5.out.trans (hb6.mono HB5.out.size))
        have HRR := hide hr
        clear hb6 hr
        clear pf0 pf1 pf2 pf3 pc0 pc1 pc2 pc3 qf0 qf1 qf2 qf3 qc0 qc1 qc2 qc3 pl ql
        go_wp2
        go_ret
        refine ⟨?_, HB6.out⟩
        have hR : R = r := Bool.eq_iff_iff.2 ⟨fun h => HRR.out.2 (HEQ.out.1 h).2.2.2, fun h => HEQ.out.2 ⟨trivial, trivial, HKK.out, HRR.out.1 h⟩⟩
        rw [hR]
        rfl
    · have pf0 := HPD.out.frozen 0
      have pc0 : wd.cell? ⟨w.heap.size, 0, none⟩ = some (.int .i64 k) := HPD.out.cell 0
      have pf1 := HPD.out.frozen 1
      have pc1 : wd.cell? ⟨w.heap.size, 1, none⟩ = some (.string s) := HPD.out.cell 1
      have pf2 := HPD.out.frozen 2
      have pc2 : wd.cell? ⟨w.heap.size, 2, none⟩ = some (.slice ka kn kc) := HPD.out.cell 2
      have pf3 := HPD.out.frozen 3
      have pc3 : wd.cell? ⟨w.heap.size, 3, none⟩ = some (.slice la ln lc) := HPD.out.cell 3
      have pl := HPD.out.lt
      have qf0 := HQD.out.frozen 0
      have qc0 : wd.cell? ⟨w.heap.size + 1, 0, none⟩ = some (.int .i64 k') := HQD.out.cell 0
      have qf1 := HQD.out.frozen 1
      have qc1 : wd.cell? ⟨w.heap.size + 1, 1, none⟩ = some (.string s') := HQD.out.cell 1
      have qf2 := HQD.out.frozen 2
      have qc2 : wd.cell? ⟨w.heap.size + 1, 2, none⟩ = some (.slice ka' kn' kc') := HQD.out.cell 2
      have qf3 := HQD.out.frozen 3
      have qc3 : wd.cell? ⟨w.heap.size + 1, 3, none⟩ = some (.slice la' ln' lc') := HQD.out.cell 3
      have ql := HQD.out.lt
      go_simp
      refine hK.out _ _ trivial (fun _ => ?_)
      clear hK K9
      clear pf0 pf1 pf2 pf3 pc0 pc1 pc2 pc3 qf0 qf1 qf2 qf3 qc0 qc1 qc2 qc3 pl ql
      try simp only [Act.put, List.setIfInBounds_toArray, List.set_cons_zero, List.set_cons_succ, vagg]
      refine wpAnyH_ready (rs := [0]) (by kernel_rfl) (by simp) ?_
      refine AllReadyH.cons rfl (fun K9 hK => ?_) AllReadyH.nil
      have pf0 := HPD.out.frozen 0
      have pc0 : wd.cell? ⟨w.heap.size, 0, none⟩ = some (.int .i64 k) := HPD.out.cell 0
      have pf1 := HPD.out.frozen 1
      have pc1 : wd.cell? ⟨w.heap.size, 1, none⟩ = some (.string s) := HPD.out.cell 1
      have pf2 := HPD.out.frozen 2
      have pc2 : wd.cell? ⟨w.heap.size, 2, none⟩ = some (.slice ka kn kc) := HPD.out.cell 2
      have pf3 := HPD.out.frozen 3
      have pc3 : wd.cell? ⟨w.heap.size, 3, none⟩ = some (.slice la ln lc) := HPD.out.cell 3
      have pl := HPD.out.lt
      have qf0 := HQD.out.frozen 0
      have qc0 : wd.cell? ⟨w.heap.size + 1, 0, none⟩ = some (.int .i64 k') := HQD.out.cell 0
      have qf1 := HQD.out.frozen 1
      have qc1 : wd.cell? ⟨w.heap.size + 1, 1, none⟩ = some (.string s') := HQD.out.cell 1
      have qf2 := HQD.out.frozen 2
      have qc2 : wd.cell? ⟨w.heap.size + 1, 2, none⟩ = some (.slice ka' kn' kc') := HQD.out.cell 2
      have qf3 := HQD.out.frozen 3
      have qc3 : wd.cell? ⟨w.heap.size + 1, 3, none⟩ = some (.slice la' ln' lc') := HQD.out.cell 3
      have ql := HQD.out.lt
      go_simp
      refine hK.out _ _ trivial (fun _ => ?_)
      clear hK K9
      clear pf0 pf1 pf2 pf3 pc0 pc1 pc2 pc3 qf0 qf1 qf2 qf3 qc0 qc1 qc2 qc3 pl ql
      try simp only [Act.put, List.setIfInBounds_toArray, List.set_cons_zero, List.set_cons_succ, vagg]
      refine wpAnyH_ready (rs := [1]) (by kernel_rfl) (by simp) ?_
      refine AllReadyH.cons rfl (fun K9 hK => ?_) AllReadyH.nil
      go_simp
      refine (HCX.out _).mono ?_
      rintro e w1 ⟨rfl, hB9⟩
      have HP1 := hide (HPD.out.below hB9)
      have HQ1 := hide (HQD.out.below hB9)
      have HB1 := hide (HBD.out.trans (hB9.mono HBD.out.size))
      refine hK.out _ _ trivial (fun _ => ?_)
      clear hK K9 hB9
      try simp only [Act.put, List.setIfInBounds_toArray, List.set_cons_zero, List.set_cons_succ, vagg]
      refine wpAnyH_ready (rs := [3]) (by kernel_rfl) (by simp) ?_
      refine AllReadyH.cons rfl (fun K9 hK => ?_) AllReadyH.nil
      go_simp
      refine (HCY.out _).mono ?_
      rintro e w2 ⟨rfl, hB9⟩
      have HP2 := hide (HP1.out.below hB9)
      have HQ2 := hide (HQ1.out.below hB9)
      have HB2 := hide (HB1.out.trans (hB9.mono HB1.out.size))
      refine hK.out _ _ trivial (fun _ => ?_)
      clear hK K9 hB9
      try simp only [Act.put, List.setIfInBounds_toArray, List.set_cons_zero, List.set_cons_succ, vagg]
      refine wpAnyH_ready (rs := [4]) (by kernel_rfl) (by simp) ?_
      refine AllReadyH.cons rfl (fun K9 hK => ?_) AllReadyH.nil
      have pf0 := HP2.out.frozen 0
      have pc0 : w2.cell? ⟨w.heap.size, 0, none⟩ = some (.int .i64 k) := HP2.out.cell 0
      have pf1 := HP2.out.frozen 1
      have pc1 : w2.cell? ⟨w.heap.size, 1, none⟩ = some (.string s) := HP2.out.cell 1
      have pf2 := HP2.out.frozen 2
      have pc2 : w2.cell? ⟨w.heap.size, 2, none⟩ = some (.slice ka kn kc) := HP2.out.cell 2
      have pf3 := HP2.out.frozen 3
      have pc3 : w2.cell? ⟨w.heap.size, 3, none⟩ = some (.slice la ln lc) := HP2.out.cell 3
      have pl := HP2.out.lt
      have qf0 := HQ2.out.frozen 0
      have qc0 : w2.cell? ⟨w.heap.size + 1, 0, none⟩ = some (.int .i64 k') := HQ2.out.cell 0
      have qf1 := HQ2.out.frozen 1
      have qc1 : w2.cell? ⟨w.heap.size + 1, 1, none⟩ = some (.string s') := HQ2.out.cell 1
      have qf2 := HQ2.out.frozen 2
      have qc2 : w2.cell? ⟨w.heap.size + 1, 2, none⟩ = some (.slice ka' kn' kc') := HQ2.out.cell 2
      have qf3 := HQ2.out.frozen 3
      have qc3 : w2.cell? ⟨w.heap.size + 1, 3, none⟩ = some (.slice la' ln' lc') := HQ2.out.cell 3
      have ql := HQ2.out.lt
      go_simp
      have HP3 := hide (resJ_v HP2.out (.int .i64 k) (.string s1) (.slice a1 n1 c1) (.slice a2 n2 c2))
      have HQ3 := hide (box_off4 HQ2.out (show w.heap.size + 1 ≠ w.heap.size by omega) (.int .i64 k) (.string s1) (.slice a1 n1 c1) (.slice a2 n2 c2))
      have HB3 := hide (below4 HB2.out (Nat.le_refl _) (.int .i64 k) (.string s1) (.slice a1 n1 c1) (.slice a2 n2 c2))
      refine hK.out _ _ trivial (fun _ => ?_)
      clear hK K9
      try simp only [Act.put, List.setIfInBounds_toArray, List.set_cons_zero, List.set_cons_succ, vagg]
      generalize ((((w2.setCell ⟨w.heap.size, 0, none⟩ (.int .i64 k)).setCell ⟨w.heap.size, 1, none⟩ (.string s1)).setCell ⟨w.heap.size, 2, none⟩ (.slice a1 n1 c1)).setCell ⟨w.heap.size, 3, none⟩ (.slice a2 n2 c2)) = w3 at *
      clear pf0 pf1 pf2 pf3 pc0 pc1 pc2 pc3 qf0 qf1 qf2 qf3 qc0 qc1 qc2 qc3 pl ql
      refine wpAnyH_ready (rs := [5]) (by kernel_rfl) (by simp) ?_
      refine AllReadyH.cons rfl (fun K9 hK => ?_) AllReadyH.nil
      have pf0 := HP3.out.frozen 0
      have pc0 : w3.cell? ⟨w.heap.size, 0, none⟩ = some (.int .i64 k) := HP3.out.cell 0
      have pf1 := HP3.out.frozen 1
      have pc1 : w3.cell? ⟨w.heap.size, 1, none⟩ = some (.string s1) := HP3.out.cell 1
      have pf2 := HP3.out.frozen 2
      have pc2 : w3.cell? ⟨w.heap.size, 2, none⟩ = some (.slice a1 n1 c1) := HP3.out.cell 2
      have pf3 := HP3.out.frozen 3
      have pc3 : w3.cell? ⟨w.heap.size, 3, none⟩ = some (.slice a2 n2 c2) := HP3.out.cell 3
      have pl := HP3.out.lt
      have qf0 := HQ3.out.frozen 0
      have qc0 : w3.cell? ⟨w.heap.size + 1, 0, none⟩ = some (.int .i64 k') := HQ3.out.cell 0
      have qf1 := HQ3.out.frozen 1
      have qc1 : w3.cell? ⟨w.heap.size + 1, 1, none⟩ = some (.string s') := HQ3.out.cell 1
      have qf2 := HQ3.out.frozen 2
      have qc2 : w3.cell? ⟨w.heap.size + 1, 2, none⟩ = some (.slice ka' kn' kc') := HQ3.out.cell 2
      have qf3 := HQ3.out.frozen 3
      have qc3 : w3.cell? ⟨w.heap.size + 1, 3, none⟩ = some (.slice la' ln' lc') := HQ3.out.cell 3
      have ql := HQ3.out.lt
      go_simp
      have HQ4 := hide (resJ_v HQ3.out (.int .i64 k') (.string s1') (.slice a1' n1' c1') (.slice a2' n2' c2'))
      have HP4 := hide (box_off4 HP3.out (show w.heap.size ≠ w.heap.size + 1 by omega) (.int .i64 k') (.string s1') (.slice a1' n1' c1') (.slice a2' n2' c2'))
      have HB4 := hide (below4 HB3.out (Nat.le_succ _) (.int .i64 k') (.string s1') (.slice a1' n1' c1') (.slice a2' n2' c2'))
      refine hK.out _ _ trivial (fun _ => ?_)
      clear hK K9
      try simp only [Act.put, List.setIfInBounds_toArray, List.set_cons_zero, List.set_cons_succ, vagg]
      generalize ((((w3.setCell ⟨w.heap.size + 1, 0, none⟩ (.int .i64 k')).setCell ⟨w.heap.size + 1, 1, none⟩ (.string s1')).setCell ⟨w.heap.size + 1, 2, none⟩ (.slice a1' n1' c1')).setCell ⟨w.heap.size + 1, 3, none⟩ (.slice a2' n2' c2')) = w4 at *
      clear pf0 pf1 pf2 pf3 pc0 pc1 pc2 pc3 qf0 qf1 qf2 qf3 qc0 qc1 qc2 qc3 pl ql
      refine wpAnyH_done (by kernel_rfl) ?_ _
      have pf0 := HP4.out.frozen 0
      have pc0 : w4.cell? ⟨w.heap.size, 0, none⟩ = some (.int .i64 k) := HP4.out.cell 0
      have pf1 := HP4.out.frozen 1
      have pc1 : w4.cell? ⟨w.heap.size, 1, none⟩ = some (.string s1) := HP4.out.cell 1
      have pf2 := HP4.out.frozen 2
      have pc2 : w4.cell? ⟨w.heap.size, 2, none⟩ = some (.slice a1 n1 c1) := HP4.out.cell 2
      have pf3 := HP4.out.frozen 3
      have pc3 : w4.cell? ⟨w.heap.size, 3, none⟩ = some (.slice a2 n2 c2) := HP4.out.cell 3
      have pl := HP4.out.lt
      have qf0 := HQ4.out.frozen 0
      have qc0 : w4.cell? ⟨w.heap.size + 1, 0, none⟩ = some (.int .i64 k') := HQ4.out.cell 0
      have qf1 := HQ4.out.frozen 1
      have qc1 : w4.cell? ⟨w.heap.size + 1, 1, none⟩ = some (.string s1') := HQ4.out.cell 1
      have qf2 := HQ4.out.frozen 2
      have qc2 : w4.cell? ⟨w.heap.size + 1, 2, none⟩ = some (.slice a1' n1' c1') := HQ4.out.cell 2
      have qf3 := HQ4.out.frozen 3
      have qc3 : w4.cell? ⟨w.heap.size + 1, 3, none⟩ = some (.slice a2' n2' c2') := HQ4.out.cell 3
      have ql := HQ4.out.lt
      by_cases hk : k = k'
      rotate_left
      · have d1 : (k == k') = false := by simpa using hk
        have HKK := hide hk
        clear hk
        go_wp2
        go_ret
        refine ⟨?_, HB4.out⟩
        have hR : R = false := Bool.eq_false_iff.2 (fun h => HKK.out ((HEQ.out.1 h).1))
        rw [hR]
        rfl
      subst hk
      by_cases hs : s1 = s1'
      rotate_left
      · have d1 : (s1.toList == s1'.toList) = false := str_ne hs
        have HKK := hide hs
        clear hs
        go_wp2
        go_ret
        refine ⟨?_, HB4.out⟩
        have hR : R = false := Bool.eq_false_iff.2 (fun h => HKK.out ((HEQ.out.1 h).2.1))
        rw [hR]
        rfl
      subst hs
      have hse : (s1.toList == s1.toList) = true := by simp
      go_wp2_with fail
      refine (HSEQ.out w4 HB4.out).mono ?_
      rintro e w5 ⟨rfl, hb5⟩
      have HP5 := hide (HP4.out.below hb5)
      have HQ5 := hide (HQ4.out.below hb5)
      have HB5 := hide (HB4.out.trans (hb5.mono HB4.out.size))
      clear hb5
      clear pf0 pf1 pf2 pf3 pc0 pc1 pc2 pc3 qf0 qf1 qf2 qf3 qc0 qc1 qc2 qc3 pl ql
      have pf0 := HP5.out.frozen 0
      have pc0 : w5.cell? ⟨w.heap.size, 0, none⟩ = some (.int .i64 k) := HP5.out.cell 0
      have pf1 := HP5.out.frozen 1
      have pc1 : w5.cell? ⟨w.heap.size, 1, none⟩ = some (.string s1) := HP5.out.cell 1
      have pf2 := HP5.out.frozen 2
      have pc2 : w5.cell? ⟨w.heap.size, 2, none⟩ = some (.slice a1 n1 c1) := HP5.out.cell 2
      have pf3 := HP5.out.frozen 3
      have pc3 : w5.cell? ⟨w.heap.size, 3, none⟩ = some (.slice a2 n2 c2) := HP5.out.cell 3
      have pl := HP5.out.lt
      have qf0 := HQ5.out.frozen 0
      have qc0 : w5.cell? ⟨w.heap.size + 1, 0, none⟩ = some (.int .i64 k) := HQ5.out.cell 0
      have qf1 := HQ5.out.frozen 1
      have qc1 : w5.cell? ⟨w.heap.size + 1, 1, none⟩ = some (.string s1) := HQ5.out.cell 1
      have qf2 := HQ5.out.frozen 2
      have qc2 : w5.cell? ⟨w.heap.size + 1, 2, none⟩ = some (.slice a1' n1' c1') := HQ5.out.cell 2
      have qf3 := HQ5.out.frozen 3
      have qc3 : w5.cell? ⟨w.heap.size + 1, 3, none⟩ = some (.slice a2' n2' c2') := HQ5.out.cell 3
      have ql := HQ5.out.lt
      by_cases hKK : K1 = K1'
      rotate_left
      · rw [decide_eq_false hKK]
        have HKK := hide hKK
        clear hKK
        go_wp2
        go_ret
        refine ⟨?_, HB5.out⟩
        have hR : R = false := Bool.eq_false_iff.2 (fun h => HKK.out ((HEQ.out.1 h).2.2.1))
        rw [hR]
        rfl
      rw [decide_eq_true hKK]
      have HKK := hide hKK
      clear hKK
      go_wp2_with fail
      refine (HEFN.out w5 HB5.out).mono ?_
      rintro e w6 ⟨r, rfl, hr, hb6⟩
      have HB6 := hide (HB5.out.trans (hb6.mono HB5.out.size))
      have HRR := hide hr
      clear hb6 hr
      clear pf0 pf1 pf2 pf3 pc0 pc1 pc2 pc3 qf0 qf1 qf2 qf3 qc0 qc1 qc2 qc3 pl ql
      go_wp2
      go_ret
      refine ⟨?_, HB6.out⟩
      have hR : R = r := Bool.eq_iff_iff.2 ⟨fun h => HRR.out.2 (HEQ.out.1 h).2.2.2, fun h => HEQ.out.2 ⟨trivial, trivial, HKK.out, HRR.out.1 h⟩⟩
      rw [hR]
      rfl

end Go.Proofs.YtacgocfgcoejpaaDoor

namespace Go.Proofs.YtacgocfgcoejpaaDoor
set_option linter.unusedVariables false
set_option linter.unusedSimpArgs false
set_option maxRecDepth 100000
open Go Go.RowKit Go.Shelf Go.Lib

theorem results_cf {fn : Func} {i j k : Tmp} (h : fn.results = #[.cell i 70, .cell j 72, .tmp k]) {tmps : Array Value} {W : World} {b b' : Nat} {c0 c1 c2 c3 c4 c5 c6 c7 c8 c9 f0 f1 f2 f3 f4 : Value} {t t' : TypeId} {ev : Value} (hp : tmps.getD i undef = .pointer (some ⟨b, 0, none⟩)) (hq : tmps.getD j undef = .pointer (some ⟨b', 0, none⟩)) (he : tmps.getD k undef = ev) (T : BoxC W b t #[c0, c1, c2, c3, c4, c5, c6, c7, c8, c9]) (T' : BoxC W b' t' #[f0, f1, f2, f3, f4]) :
    (results fn tmps).run Tryd.prog W = .ok (.tuple #[.agg #[c0, c1, c2, c3, c4, c5, c6, c7, c8, c9], .agg #[f0, f1, f2, f3, f4], ev]) W := by
  have a0 : W.cell? ⟨b, 0, none⟩ = some c0 := T.cell 0
  have a1 : W.cell? ⟨b, 1, none⟩ = some c1 := T.cell 1
  have a2 : W.cell? ⟨b, 2, none⟩ = some c2 := T.cell 2
  have a3 : W.cell? ⟨b, 3, none⟩ = some c3 := T.cell 3
  have a4 : W.cell? ⟨b, 4, none⟩ = some c4 := T.cell 4
  have a5 : W.cell? ⟨b, 5, none⟩ = some c5 := T.cell 5
  have a6 : W.cell? ⟨b, 6, none⟩ = some c6 := T.cell 6
  have a7 : W.cell? ⟨b, 7, none⟩ = some c7 := T.cell 7
  have a8 : W.cell? ⟨b, 8, none⟩ = some c8 := T.cell 8
  have a9 : W.cell? ⟨b, 9, none⟩ = some c9 := T.cell 9
  have b0 : W.cell? ⟨b', 0, none⟩ = some f0 := T'.cell 0
  have b1 : W.cell? ⟨b', 1, none⟩ = some f1 := T'.cell 1
  have b2 : W.cell? ⟨b', 2, none⟩ = some f2 := T'.cell 2
  have b3 : W.cell? ⟨b', 3, none⟩ = some f3 := T'.cell 3
  have b4 : W.cell? ⟨b', 4, none⟩ = some f4 := T'.cell 4
  have hp' : tmps[i]?.getD undef = .pointer (some ⟨b, 0, none⟩) := by simpa using hp
  have hq' : tmps[j]?.getD undef = .pointer (some ⟨b', 0, none⟩) := by simpa using hq
  have he' : tmps[k]?.getD undef = ev := by simpa using he
  simp [results, h, hp', hq', he', go_sem, a0, a1, a2, a3, a4, a5, a6, a7, a8, a9, b0, b1, b2, b3, b4]
theorem flat_is {W : World} {S : Nat → Prop} {y : JC} {x : JC} (h : TIn W S y (flatT x)) : ∃ ka kn kc la ln lc, y = (x.1, x.2.1, .slice ka kn kc, .slice la ln lc) := by
  obtain ⟨h1, h2⟩ := h.sl
  obtain ⟨k, s, kv, lv⟩ := x
  unfold flatT at h
  cases h with
  | mk k s kv la lc K L xs hK hc hsl ht =>
    simp only at h1 h2
    obtain ⟨ka, kn, kc, rfl⟩ := h1
    exact ⟨ka, kn, kc, la, _, lc, rfl⟩
theorem flat_lt (k : Int) (s : ByteArray) (h : s.size ≤ 1000) : LtT (.mk k s [] []) := .mk k s [] [] (by simp) (by simp) h (fun i hi => by simp at hi)
theorem tree6_lt : LtT tree6 := .mk 6 ⟨#[]⟩ _ _ (by decide) (by decide) (by decide) (fun i hi => by
  match i, hi with
  | 0, _ => exact flat_lt _ _ (by decide)
  | 1, _ => exact flat_lt _ _ (by decide)
  | 2, _ => exact flat_lt _ _ (by decide))
theorem tree7_lt : LtT tree7 := .mk 5 ⟨#[]⟩ _ _ (by decide) (by decide) (by decide) (fun i hi => by
  match i, hi with
  | 0, _ => exact flat_lt _ _ (by decide))
def kParams : ByteArray := ⟨#[112, 97, 114, 97, 109, 115]⟩
theorem get6_id : getJ tree6 kId = some (flatT cOne) := by unfold getJ tree6; simp [fndK, show kJson ≠ kId by decide]
theorem get6_ver : getJ tree6 kJson = some (flatT cVer) := by unfold getJ tree6; simp [fndK]
theorem get6_method : getJ tree6 kMethod = some (flatT cM) := by unfold getJ tree6; simp [fndK, show kJson ≠ kMethod by decide, show kId ≠ kMethod by decide]
theorem get6_params : getJ tree6 kParams = none := by unfold getJ tree6; simp [fndK, show kJson ≠ kParams by decide, show kId ≠ kParams by decide, show kMethod ≠ kParams by decide]
theorem get7 (key : ByteArray) : getJ tree7 key = none := by unfold getJ tree7; simp
theorem clJ_one : clJ (flatT cOne) = flatT cOne := by unfold flatT cOne; rw [clJ_eq]; simp [sP, kP, lP, clJs]
theorem clJ_ver : clJ (flatT cVer) = flatT cVer := by unfold flatT cVer; rw [clJ_eq]; simp [sP, kP, lP, clJs]
theorem clJ_m : clJ (flatT cM) = flatT cM := by unfold flatT cM; rw [clJ_eq]; simp [sP, kP, lP, clJs]
theorem getT_lt {T : JT} (h : LtT T) (s : ByteArray) : LtT ((getJ T s).getD zeroT) := by
  have hz : LtT zeroT := .mk 0 ⟨#[]⟩ [] [] (by simp) (by simp) (by decide) (fun i hi => by simp at hi)
  obtain ⟨k, s0, K, L⟩ := T
  obtain ⟨_, _, _, _, hK, hL, hs, ht⟩ := h
  show LtT ((if k = 6 ∧ K.length = L.length then (fndK K s).bind (fun j => L[j]?) else none).getD zeroT)
  by_cases hc : k = 6 ∧ K.length = L.length
  · rw [if_pos hc]
    cases fndK K s with
    | none => exact hz
    | some j =>
      show LtT ((L[j]?).getD zeroT)
      rcases Nat.lt_or_ge j L.length with h | h
      · rw [List.getElem?_eq_getElem h]
        exact ht j h
      · rw [List.getElem?_eq_none h]
        exact hz
  · rw [if_neg hc]
    exact hz
theorem getT_clt {o : Option JT} (h : LtT (o.getD zeroT)) : LtT ((o.map clJ).getD zeroT) := by
  cases o with
  | none => exact h
  | some t => exact LtT.clone h
theorem zero_lt : LtT zeroT := flat_lt 0 ⟨#[]⟩ (by decide)

set_option maxHeartbeats 4000000 in
theorem isid_ok (w : World) (ka la : Option Addr) (kn kc ln lc : Nat) (hE : ErrS w) : Calls Tryd.prog 50 #[.agg #[.int .i64 3, .string sOne, .slice ka kn kc, .slice la ln lc]] w fun e w' => e = .returned (.bool true) ∧ Below w.heap.size w w' := by
  have hb := bel w (.cells #[.int .i64 3, .string sOne, .slice ka kn kc, .slice la ln lc] 25)
  have hp := BoxC.new w 25 #[.int .i64 3, .string sOne, .slice ka kn kc, .slice la ln lc]
  generalize hw0 : w.alloc (.cells #[.int .i64 3, .string sOne, .slice ka kn kc, .slice la ln lc] 25) = w0 at *
  have hj := jint_any w0 3 [49] (by decide) (by decide) ka la kn kc ln lc (hE.below hb)
  have hij : optV (intJ 3 [49]) = .tuple #[.int .i64 1, .bool true] := by kernel_rfl
  unfold IntR vagg at hj
  rw [hij] at hj
  simp only at hj
  rw [show strOf [49] = sOne from rfl] at hj
  have HJ := hide hj
  have v0 : w0.cell? ⟨w.heap.size, 0, none⟩ = some (.int .i64 3) := hp.cell 0
  have v1 : w0.cell? ⟨w.heap.size, 1, none⟩ = some (.string sOne) := hp.cell 1
  have v2 : w0.cell? ⟨w.heap.size, 2, none⟩ = some (.slice ka kn kc) := hp.cell 2
  have v3 : w0.cell? ⟨w.heap.size, 3, none⟩ = some (.slice la ln lc) := hp.cell 3
  have HW0 := hide hw0
  have HB1 := hide hb
  clear hw0 hp hb hE hj hij
  go_enter Tryd.func50, Tryd.ntmps50
  go_upto_region 1 with fail
  rw [HW0.out]
  clear HW0
  go_wp2_with fail
  refine HJ.out.mono ?_
  rintro e w1 ⟨rfl, hb1⟩
  have HB2 := hide (HB1.out.trans (hb1.mono HB1.out.size))
  clear hb1 v0 v1 v2 v3
  go_wp2
  go_ret
  exact ⟨rfl, HB2.out⟩

set_option maxHeartbeats 8000000 in
theorem hasv_any (w : World) {S : Nat → Prop} {x : JC} {T : JT} (o : Option JT) (hx : TIn w S x T) (hl : LtT T) (hg : getJ T kJson = o) (r : Bool) (hr : eqJ ((o.map clJ).getD zeroT) (flatT cVer) = r) : Calls Tryd.prog 51 #[vagg x] w fun e w' => e = .returned (.bool r) ∧ Below w.heap.size w w' := by
  obtain ⟨hs2, hs3⟩ := hx.sl
  obtain ⟨k, s, kv, lv⟩ := x
  obtain ⟨ka, kn, kc, rfl⟩ := hs2
  obtain ⟨la, ln, lc, rfl⟩ := hs3
  have hb := bel w (.cells #[.int .i64 k, .string s, .slice ka kn kc, .slice la ln lc] 25)
  have hp := BoxC.new w 25 #[.int .i64 k, .string s, .slice ka kn kc, .slice la ln lc]
  generalize hw0 : w.alloc (.cells #[.int .i64 k, .string s, .slice ka kn kc, .slice la ln lc] 25) = w0 at *
  have HGT := hide (get_any kJson w0 (hx.bel hb) hl)
  have HLT : Hid (LtT ((o.map clJ).getD zeroT)) := by
    have h := getT_lt hl kJson
    rw [hg] at h
    exact getT_clt h
  rw [hg] at HGT
  unfold vagg kJson at HGT
  unfold vagg
  simp only at HGT ⊢
  have v0 : w0.cell? ⟨w.heap.size, 0, none⟩ = some (.int .i64 k) := hp.cell 0
  have v1 : w0.cell? ⟨w.heap.size, 1, none⟩ = some (.string s) := hp.cell 1
  have v2 : w0.cell? ⟨w.heap.size, 2, none⟩ = some (.slice ka kn kc) := hp.cell 2
  have v3 : w0.cell? ⟨w.heap.size, 3, none⟩ = some (.slice la ln lc) := hp.cell 3
  have HW0 := hide hw0
  have HB1 := hide hb
  have HRR := hide hr
  clear hw0 hp hb hx hl hg hr
  go_enter Tryd.func51, Tryd.ntmps51
  go_upto_region 1 with fail
  rw [HW0.out]
  clear HW0
  go_wp2_with fail
  refine HGT.out.mono ?_
  rintro e w1 ⟨⟨yk, ys, yK, yL⟩, rfl, hb1, hT⟩
  obtain ⟨h4, h5⟩ := hT.sl
  simp only at h4 h5
  obtain ⟨ya, yn, yc, rfl⟩ := h4
  obtain ⟨yd, ye, yf, rfl⟩ := h5
  simp only [vagg]
  have hb2 := bel w1 (.cells #[.int .i64 yk, .string ys, .slice ya yn yc, .slice yd ye yf] 25)
  have hx2 := BoxC.new w1 25 #[.int .i64 yk, .string ys, .slice ya yn yc, .slice yd ye yf]
  have HT := hide (hT.bel hb2)
  have HB2 := hide (HB1.out.trans ((hb1.trans (hb2.mono hb1.size)).mono HB1.out.size))
  clear hb1 hb2 hT v0 v1 v2 v3 HGT
  go_upto_region 2 with fail
  generalize w1.heap.size = B1 at *
  generalize w1.alloc (.cells #[.int .i64 yk, .string ys, .slice ya yn yc, .slice yd ye yf] 25) = w2 at *
  have HS : Hid (∀ X0 : World, Below w2.heap.size w2 X0 → (X0.cell? ⟨B1, 0, none⟩ = some (.int .i64 yk) ∧ X0.cell? ⟨B1, 1, none⟩ = some (.string ys) ∧ X0.cell? ⟨B1, 2, none⟩ = some (.slice ya yn yc) ∧ X0.cell? ⟨B1, 3, none⟩ = some (.slice yd ye yf))) := fun X0 h => ⟨(hx2.below h).cell 0, (hx2.below h).cell 1, (hx2.below h).cell 2, (hx2.below h).cell 3⟩
  clear hx2
  refine wp_region_held_drew (S := fun X0 : World => X0.cell? ⟨B1, 0, none⟩ = some (.int .i64 yk) ∧ X0.cell? ⟨B1, 1, none⟩ = some (.string ys) ∧ X0.cell? ⟨B1, 2, none⟩ = some (.slice ya yn yc) ∧ X0.cell? ⟨B1, 3, none⟩ = some (.slice yd ye yf)) (by kernel_rfl) (HS.out _ (Below.refl _ _).drew) (fun hHeld => ?_)
  have HB : Hid (Below w2.heap.size w2 w2.drew) := (Below.refl _ _).drew
  generalize w2.drew = wd at *
  refine takeD (i := 0) (v := ?v1) (some 10) rfl (by kernel_rfl) (by kernel_rfl) (by kernel_rfl) (fun _ _ _ h => h) (Or.inl ⟨by rfl, ?hy1⟩) (HS.out _ HB.out) (by rfl) ?rest1
  case hy1 => first | (intro w hSw; (try dsimp only at hSw); obtain ⟨s0, s1, s2, s3⟩ := hSw; go_simp; done) | (intro w hSw; (try dsimp only at hSw); obtain ⟨s0, s1, s2, s3⟩ := hSw; go_simp; with_reducible rfl)
  try simp only [Act.put, List.setIfInBounds_toArray, List.set_cons_zero, List.set_cons_succ, vagg]
  refine wpAnyH_ready (rs := [1]) (by kernel_rfl) (by simp) ?_
  refine AllReadyH.cons rfl (fun K9 hK => ?_) AllReadyH.nil
  go_simp
  have hcall := text_calls wd sVer
  try unfold vagg at hcall
  try simp only at hcall
  refine hcall.mono ?_
  rintro e w3 ⟨rfl, hb9⟩
  have HB9 := hide (HB.out.trans (hb9.mono HB.out.size))
  clear hcall HB
  rename Hid (Below _ _ w3) => HB
  refine hK.out _ _ (HS.out _ HB.out) (fun _ => ?_)
  clear hK K9 hb9
  try simp only [Act.put, List.setIfInBounds_toArray, List.set_cons_zero, List.set_cons_succ, vagg]
  refine wpAnyH_ready (rs := [2]) (by kernel_rfl) (by simp) ?_
  refine AllReadyH.cons rfl (fun K9 hK => ?_) AllReadyH.nil
  go_simp
  have hcall := equal_any (HT.out.bel HB.out) HLT.out (flat_in w3 (fun _ => True) (x := cVer) ⟨rfl, rfl⟩) (flat_lt _ _ (by decide)) w3 (Below.refl _ _)
  try unfold vagg at hcall
  try simp only at hcall
  refine hcall.mono ?_
  rintro e w4 ⟨rfl, hb9⟩
  have HB9 := hide (HB.out.trans (hb9.mono HB.out.size))
  clear hcall HB
  rename Hid (Below _ _ w4) => HB
  refine hK.out _ _ (HS.out _ HB.out) (fun _ => ?_)
  clear hK K9 hb9
  try simp only [Act.put, List.setIfInBounds_toArray, List.set_cons_zero, List.set_cons_succ, vagg]
  refine takeD (i := 3) (v := ?v2) (some 2) rfl (by kernel_rfl) (by kernel_rfl) (by kernel_rfl) (fun _ _ _ h => h) (Or.inl ⟨by rfl, ?hy2⟩) (HS.out _ HB.out) (by rfl) ?rest2
  case hy2 => first | (intro w hSw; (try dsimp only at hSw); obtain ⟨s0, s1, s2, s3⟩ := hSw; go_simp; done) | (intro w hSw; (try dsimp only at hSw); obtain ⟨s0, s1, s2, s3⟩ := hSw; go_simp; with_reducible rfl)
  try simp only [Act.put, List.setIfInBounds_toArray, List.set_cons_zero, List.set_cons_succ, vagg]
  refine wpAnyH_done (by kernel_rfl) ?_ _
  go_wp2
  go_ret
  refine ⟨?_, HB2.out.trans (HB.out.mono HB2.out.size)⟩
  rw [← HRR.out]
  rfl

end Go.Proofs.YtacgocfgcoejpaaDoor

namespace Go.Proofs.YtacgocfgcoejpaaDoor
set_option linter.unusedVariables false
set_option linter.unusedSimpArgs false
set_option maxRecDepth 100000
open Go Go.RowKit Go.Shelf Go.Lib

theorem call_set {W : World} {A : Nat} {t : TypeId} {c0 c1 c2 c3 c4 c5 c6 c7 c8 c9 : Value} (h0 : BoxC W A t #[c0, c1, c2, c3, c4, c5, c6, c7, c8, c9]) (x0 x1 x2 x3 x4 x5 x6 x7 x8 x9 : Value) : BoxC ((((((((((W.setCell ⟨A, 0, none⟩ x0).setCell ⟨A, 1, none⟩ x1).setCell ⟨A, 2, none⟩ x2).setCell ⟨A, 3, none⟩ x3).setCell ⟨A, 4, none⟩ x4).setCell ⟨A, 5, none⟩ x5).setCell ⟨A, 6, none⟩ x6).setCell ⟨A, 7, none⟩ x7).setCell ⟨A, 8, none⟩ x8).setCell ⟨A, 9, none⟩ x9) A t #[x0, x1, x2, x3, x4, x5, x6, x7, x8, x9] := by
  have h1 : BoxC (W.setCell ⟨A, 0, none⟩ x0) A t #[x0, c1, c2, c3, c4, c5, c6, c7, c8, c9] := h0.set 0 x0
  have h2 : BoxC ((W.setCell ⟨A, 0, none⟩ x0).setCell ⟨A, 1, none⟩ x1) A t #[x0, x1, c2, c3, c4, c5, c6, c7, c8, c9] := h1.set 1 x1
  have h3 : BoxC (((W.setCell ⟨A, 0, none⟩ x0).setCell ⟨A, 1, none⟩ x1).setCell ⟨A, 2, none⟩ x2) A t #[x0, x1, x2, c3, c4, c5, c6, c7, c8, c9] := h2.set 2 x2
  have h4 : BoxC ((((W.setCell ⟨A, 0, none⟩ x0).setCell ⟨A, 1, none⟩ x1).setCell ⟨A, 2, none⟩ x2).setCell ⟨A, 3, none⟩ x3) A t #[x0, x1, x2, x3, c4, c5, c6, c7, c8, c9] := h3.set 3 x3
  have h5 : BoxC (((((W.setCell ⟨A, 0, none⟩ x0).setCell ⟨A, 1, none⟩ x1).setCell ⟨A, 2, none⟩ x2).setCell ⟨A, 3, none⟩ x3).setCell ⟨A, 4, none⟩ x4) A t #[x0, x1, x2, x3, x4, c5, c6, c7, c8, c9] := h4.set 4 x4
  have h6 : BoxC ((((((W.setCell ⟨A, 0, none⟩ x0).setCell ⟨A, 1, none⟩ x1).setCell ⟨A, 2, none⟩ x2).setCell ⟨A, 3, none⟩ x3).setCell ⟨A, 4, none⟩ x4).setCell ⟨A, 5, none⟩ x5) A t #[x0, x1, x2, x3, x4, x5, c6, c7, c8, c9] := h5.set 5 x5
  have h7 : BoxC (((((((W.setCell ⟨A, 0, none⟩ x0).setCell ⟨A, 1, none⟩ x1).setCell ⟨A, 2, none⟩ x2).setCell ⟨A, 3, none⟩ x3).setCell ⟨A, 4, none⟩ x4).setCell ⟨A, 5, none⟩ x5).setCell ⟨A, 6, none⟩ x6) A t #[x0, x1, x2, x3, x4, x5, x6, c7, c8, c9] := h6.set 6 x6
  have h8 : BoxC ((((((((W.setCell ⟨A, 0, none⟩ x0).setCell ⟨A, 1, none⟩ x1).setCell ⟨A, 2, none⟩ x2).setCell ⟨A, 3, none⟩ x3).setCell ⟨A, 4, none⟩ x4).setCell ⟨A, 5, none⟩ x5).setCell ⟨A, 6, none⟩ x6).setCell ⟨A, 7, none⟩ x7) A t #[x0, x1, x2, x3, x4, x5, x6, x7, c8, c9] := h7.set 7 x7
  have h9 : BoxC (((((((((W.setCell ⟨A, 0, none⟩ x0).setCell ⟨A, 1, none⟩ x1).setCell ⟨A, 2, none⟩ x2).setCell ⟨A, 3, none⟩ x3).setCell ⟨A, 4, none⟩ x4).setCell ⟨A, 5, none⟩ x5).setCell ⟨A, 6, none⟩ x6).setCell ⟨A, 7, none⟩ x7).setCell ⟨A, 8, none⟩ x8) A t #[x0, x1, x2, x3, x4, x5, x6, x7, x8, c9] := h8.set 8 x8
  have h10 : BoxC ((((((((((W.setCell ⟨A, 0, none⟩ x0).setCell ⟨A, 1, none⟩ x1).setCell ⟨A, 2, none⟩ x2).setCell ⟨A, 3, none⟩ x3).setCell ⟨A, 4, none⟩ x4).setCell ⟨A, 5, none⟩ x5).setCell ⟨A, 6, none⟩ x6).setCell ⟨A, 7, none⟩ x7).setCell ⟨A, 8, none⟩ x8).setCell ⟨A, 9, none⟩ x9) A t #[x0, x1, x2, x3, x4, x5, x6, x7, x8, x9] := h9.set 9 x9
  exact h10
theorem call_off {W : World} {A B : Nat} {t : TypeId} {cs : Array Value} (h0 : BoxC W B t cs) (hne : B ≠ A) (x0 x1 x2 x3 x4 x5 x6 x7 x8 x9 : Value) : BoxC ((((((((((W.setCell ⟨A, 0, none⟩ x0).setCell ⟨A, 1, none⟩ x1).setCell ⟨A, 2, none⟩ x2).setCell ⟨A, 3, none⟩ x3).setCell ⟨A, 4, none⟩ x4).setCell ⟨A, 5, none⟩ x5).setCell ⟨A, 6, none⟩ x6).setCell ⟨A, 7, none⟩ x7).setCell ⟨A, 8, none⟩ x8).setCell ⟨A, 9, none⟩ x9) B t cs := by
  have h1 : BoxC (W.setCell ⟨A, 0, none⟩ x0) B t cs := h0.other hne 0 x0
  have h2 : BoxC ((W.setCell ⟨A, 0, none⟩ x0).setCell ⟨A, 1, none⟩ x1) B t cs := h1.other hne 1 x1
  have h3 : BoxC (((W.setCell ⟨A, 0, none⟩ x0).setCell ⟨A, 1, none⟩ x1).setCell ⟨A, 2, none⟩ x2) B t cs := h2.other hne 2 x2
  have h4 : BoxC ((((W.setCell ⟨A, 0, none⟩ x0).setCell ⟨A, 1, none⟩ x1).setCell ⟨A, 2, none⟩ x2).setCell ⟨A, 3, none⟩ x3) B t cs := h3.other hne 3 x3
  have h5 : BoxC (((((W.setCell ⟨A, 0, none⟩ x0).setCell ⟨A, 1, none⟩ x1).setCell ⟨A, 2, none⟩ x2).setCell ⟨A, 3, none⟩ x3).setCell ⟨A, 4, none⟩ x4) B t cs := h4.other hne 4 x4
  have h6 : BoxC ((((((W.setCell ⟨A, 0, none⟩ x0).setCell ⟨A, 1, none⟩ x1).setCell ⟨A, 2, none⟩ x2).setCell ⟨A, 3, none⟩ x3).setCell ⟨A, 4, none⟩ x4).setCell ⟨A, 5, none⟩ x5) B t cs := h5.other hne 5 x5
  have h7 : BoxC (((((((W.setCell ⟨A, 0, none⟩ x0).setCell ⟨A, 1, none⟩ x1).setCell ⟨A, 2, none⟩ x2).setCell ⟨A, 3, none⟩ x3).setCell ⟨A, 4, none⟩ x4).setCell ⟨A, 5, none⟩ x5).setCell ⟨A, 6, none⟩ x6) B t cs := h6.other hne 6 x6
  have h8 : BoxC ((((((((W.setCell ⟨A, 0, none⟩ x0).setCell ⟨A, 1, none⟩ x1).setCell ⟨A, 2, none⟩ x2).setCell ⟨A, 3, none⟩ x3).setCell ⟨A, 4, none⟩ x4).setCell ⟨A, 5, none⟩ x5).setCell ⟨A, 6, none⟩ x6).setCell ⟨A, 7, none⟩ x7) B t cs := h7.other hne 7 x7
  have h9 : BoxC (((((((((W.setCell ⟨A, 0, none⟩ x0).setCell ⟨A, 1, none⟩ x1).setCell ⟨A, 2, none⟩ x2).setCell ⟨A, 3, none⟩ x3).setCell ⟨A, 4, none⟩ x4).setCell ⟨A, 5, none⟩ x5).setCell ⟨A, 6, none⟩ x6).setCell ⟨A, 7, none⟩ x7).setCell ⟨A, 8, none⟩ x8) B t cs := h8.other hne 8 x8
  have h10 : BoxC ((((((((((W.setCell ⟨A, 0, none⟩ x0).setCell ⟨A, 1, none⟩ x1).setCell ⟨A, 2, none⟩ x2).setCell ⟨A, 3, none⟩ x3).setCell ⟨A, 4, none⟩ x4).setCell ⟨A, 5, none⟩ x5).setCell ⟨A, 6, none⟩ x6).setCell ⟨A, 7, none⟩ x7).setCell ⟨A, 8, none⟩ x8).setCell ⟨A, 9, none⟩ x9) B t cs := h9.other hne 9 x9
  exact h10
theorem call_bel {w W : World} {A n : Nat} (h0 : Below n w W) (hn : n ≤ A) (x0 x1 x2 x3 x4 x5 x6 x7 x8 x9 : Value) : Below n w ((((((((((W.setCell ⟨A, 0, none⟩ x0).setCell ⟨A, 1, none⟩ x1).setCell ⟨A, 2, none⟩ x2).setCell ⟨A, 3, none⟩ x3).setCell ⟨A, 4, none⟩ x4).setCell ⟨A, 5, none⟩ x5).setCell ⟨A, 6, none⟩ x6).setCell ⟨A, 7, none⟩ x7).setCell ⟨A, 8, none⟩ x8).setCell ⟨A, 9, none⟩ x9) := by
  have h1 : Below n w (W.setCell ⟨A, 0, none⟩ x0) := h0.setCell (p := ⟨A, 0, none⟩) hn x0
  have h2 : Below n w ((W.setCell ⟨A, 0, none⟩ x0).setCell ⟨A, 1, none⟩ x1) := h1.setCell (p := ⟨A, 1, none⟩) hn x1
  have h3 : Below n w (((W.setCell ⟨A, 0, none⟩ x0).setCell ⟨A, 1, none⟩ x1).setCell ⟨A, 2, none⟩ x2) := h2.setCell (p := ⟨A, 2, none⟩) hn x2
  have h4 : Below n w ((((W.setCell ⟨A, 0, none⟩ x0).setCell ⟨A, 1, none⟩ x1).setCell ⟨A, 2, none⟩ x2).setCell ⟨A, 3, none⟩ x3) := h3.setCell (p := ⟨A, 3, none⟩) hn x3
  have h5 : Below n w (((((W.setCell ⟨A, 0, none⟩ x0).setCell ⟨A, 1, none⟩ x1).setCell ⟨A, 2, none⟩ x2).setCell ⟨A, 3, none⟩ x3).setCell ⟨A, 4, none⟩ x4) := h4.setCell (p := ⟨A, 4, none⟩) hn x4
  have h6 : Below n w ((((((W.setCell ⟨A, 0, none⟩ x0).setCell ⟨A, 1, none⟩ x1).setCell ⟨A, 2, none⟩ x2).setCell ⟨A, 3, none⟩ x3).setCell ⟨A, 4, none⟩ x4).setCell ⟨A, 5, none⟩ x5) := h5.setCell (p := ⟨A, 5, none⟩) hn x5
  have h7 : Below n w (((((((W.setCell ⟨A, 0, none⟩ x0).setCell ⟨A, 1, none⟩ x1).setCell ⟨A, 2, none⟩ x2).setCell ⟨A, 3, none⟩ x3).setCell ⟨A, 4, none⟩ x4).setCell ⟨A, 5, none⟩ x5).setCell ⟨A, 6, none⟩ x6) := h6.setCell (p := ⟨A, 6, none⟩) hn x6
  have h8 : Below n w ((((((((W.setCell ⟨A, 0, none⟩ x0).setCell ⟨A, 1, none⟩ x1).setCell ⟨A, 2, none⟩ x2).setCell ⟨A, 3, none⟩ x3).setCell ⟨A, 4, none⟩ x4).setCell ⟨A, 5, none⟩ x5).setCell ⟨A, 6, none⟩ x6).setCell ⟨A, 7, none⟩ x7) := h7.setCell (p := ⟨A, 7, none⟩) hn x7
  have h9 : Below n w (((((((((W.setCell ⟨A, 0, none⟩ x0).setCell ⟨A, 1, none⟩ x1).setCell ⟨A, 2, none⟩ x2).setCell ⟨A, 3, none⟩ x3).setCell ⟨A, 4, none⟩ x4).setCell ⟨A, 5, none⟩ x5).setCell ⟨A, 6, none⟩ x6).setCell ⟨A, 7, none⟩ x7).setCell ⟨A, 8, none⟩ x8) := h8.setCell (p := ⟨A, 8, none⟩) hn x8
  have h10 : Below n w ((((((((((W.setCell ⟨A, 0, none⟩ x0).setCell ⟨A, 1, none⟩ x1).setCell ⟨A, 2, none⟩ x2).setCell ⟨A, 3, none⟩ x3).setCell ⟨A, 4, none⟩ x4).setCell ⟨A, 5, none⟩ x5).setCell ⟨A, 6, none⟩ x6).setCell ⟨A, 7, none⟩ x7).setCell ⟨A, 8, none⟩ x8).setCell ⟨A, 9, none⟩ x9) := h9.setCell (p := ⟨A, 9, none⟩) hn x9
  exact h10
theorem ft_set {W : World} {A : Nat} {t : TypeId} {c0 c1 c2 c3 c4 : Value} (h0 : BoxC W A t #[c0, c1, c2, c3, c4]) (x0 x1 x2 x3 x4 : Value) : BoxC (((((W.setCell ⟨A, 0, none⟩ x0).setCell ⟨A, 1, none⟩ x1).setCell ⟨A, 2, none⟩ x2).setCell ⟨A, 3, none⟩ x3).setCell ⟨A, 4, none⟩ x4) A t #[x0, x1, x2, x3, x4] := by
  have h1 : BoxC (W.setCell ⟨A, 0, none⟩ x0) A t #[x0, c1, c2, c3, c4] := h0.set 0 x0
  have h2 : BoxC ((W.setCell ⟨A, 0, none⟩ x0).setCell ⟨A, 1, none⟩ x1) A t #[x0, x1, c2, c3, c4] := h1.set 1 x1
  have h3 : BoxC (((W.setCell ⟨A, 0, none⟩ x0).setCell ⟨A, 1, none⟩ x1).setCell ⟨A, 2, none⟩ x2) A t #[x0, x1, x2, c3, c4] := h2.set 2 x2
  have h4 : BoxC ((((W.setCell ⟨A, 0, none⟩ x0).setCell ⟨A, 1, none⟩ x1).setCell ⟨A, 2, none⟩ x2).setCell ⟨A, 3, none⟩ x3) A t #[x0, x1, x2, x3, c4] := h3.set 3 x3
  have h5 : BoxC (((((W.setCell ⟨A, 0, none⟩ x0).setCell ⟨A, 1, none⟩ x1).setCell ⟨A, 2, none⟩ x2).setCell ⟨A, 3, none⟩ x3).setCell ⟨A, 4, none⟩ x4) A t #[x0, x1, x2, x3, x4] := h4.set 4 x4
  exact h5
theorem ft_off {W : World} {A B : Nat} {t : TypeId} {cs : Array Value} (h0 : BoxC W B t cs) (hne : B ≠ A) (x0 x1 x2 x3 x4 : Value) : BoxC (((((W.setCell ⟨A, 0, none⟩ x0).setCell ⟨A, 1, none⟩ x1).setCell ⟨A, 2, none⟩ x2).setCell ⟨A, 3, none⟩ x3).setCell ⟨A, 4, none⟩ x4) B t cs := by
  have h1 : BoxC (W.setCell ⟨A, 0, none⟩ x0) B t cs := h0.other hne 0 x0
  have h2 : BoxC ((W.setCell ⟨A, 0, none⟩ x0).setCell ⟨A, 1, none⟩ x1) B t cs := h1.other hne 1 x1
  have h3 : BoxC (((W.setCell ⟨A, 0, none⟩ x0).setCell ⟨A, 1, none⟩ x1).setCell ⟨A, 2, none⟩ x2) B t cs := h2.other hne 2 x2
  have h4 : BoxC ((((W.setCell ⟨A, 0, none⟩ x0).setCell ⟨A, 1, none⟩ x1).setCell ⟨A, 2, none⟩ x2).setCell ⟨A, 3, none⟩ x3) B t cs := h3.other hne 3 x3
  have h5 : BoxC (((((W.setCell ⟨A, 0, none⟩ x0).setCell ⟨A, 1, none⟩ x1).setCell ⟨A, 2, none⟩ x2).setCell ⟨A, 3, none⟩ x3).setCell ⟨A, 4, none⟩ x4) B t cs := h4.other hne 4 x4
  exact h5
theorem ft_bel {w W : World} {A n : Nat} (h0 : Below n w W) (hn : n ≤ A) (x0 x1 x2 x3 x4 : Value) : Below n w (((((W.setCell ⟨A, 0, none⟩ x0).setCell ⟨A, 1, none⟩ x1).setCell ⟨A, 2, none⟩ x2).setCell ⟨A, 3, none⟩ x3).setCell ⟨A, 4, none⟩ x4) := by
  have h1 : Below n w (W.setCell ⟨A, 0, none⟩ x0) := h0.setCell (p := ⟨A, 0, none⟩) hn x0
  have h2 : Below n w ((W.setCell ⟨A, 0, none⟩ x0).setCell ⟨A, 1, none⟩ x1) := h1.setCell (p := ⟨A, 1, none⟩) hn x1
  have h3 : Below n w (((W.setCell ⟨A, 0, none⟩ x0).setCell ⟨A, 1, none⟩ x1).setCell ⟨A, 2, none⟩ x2) := h2.setCell (p := ⟨A, 2, none⟩) hn x2
  have h4 : Below n w ((((W.setCell ⟨A, 0, none⟩ x0).setCell ⟨A, 1, none⟩ x1).setCell ⟨A, 2, none⟩ x2).setCell ⟨A, 3, none⟩ x3) := h3.setCell (p := ⟨A, 3, none⟩) hn x3
  have h5 : Below n w (((((W.setCell ⟨A, 0, none⟩ x0).setCell ⟨A, 1, none⟩ x1).setCell ⟨A, 2, none⟩ x2).setCell ⟨A, 3, none⟩ x3).setCell ⟨A, 4, none⟩ x4) := h4.setCell (p := ⟨A, 4, none⟩) hn x4
  exact h5

set_option maxHeartbeats 8000000 in
theorem read6 (w : World) (ao : Option Addr) (cap : Nat) (h : Byts w (.slice ao ex6.length cap) ex6) (hU : Utf8Tabs 0 1 w) (hE : ErrS w) (hcap : ex6.length ≤ cap) :
    Calls Tryd.prog 29 #[.slice ao ex6.length cap] w fun e w' => (∃ ya yn yc yd ye yf zk zs za zn zc zd ze zf, e = .returned (.tuple #[.agg #[.bool true, .int .i64 3, .string sOne, .slice ya yn yc, .slice yd ye yf, .string sM, .int .i64 zk, .string zs, .slice za zn zc, .slice zd ze zf], .agg #[.int .i64 0, .int .i64 0, .string ⟨#[]⟩, .slice none 0 0, .slice none 0 0], .bool true])) ∧ Below w.heap.size w w' := by
  obtain ⟨n, hn⟩ : ∃ n, ex6.length = n := ⟨_, rfl⟩
  have hb : Below w.heap.size w ((w.alloc (.cells #[.bool false, .int .i64 0, .string ⟨#[]⟩, .slice none 0 0, .slice none 0 0, .string ⟨#[]⟩, .int .i64 0, .string ⟨#[]⟩, .slice none 0 0, .slice none 0 0] 70)).alloc (.cells #[.int .i64 0, .int .i64 0, .string ⟨#[]⟩, .slice none 0 0, .slice none 0 0] 72)) := (bel w _).alloc (by simp) _
  have hp := (BoxC.new w 70 #[.bool false, .int .i64 0, .string ⟨#[]⟩, .slice none 0 0, .slice none 0 0, .string ⟨#[]⟩, .int .i64 0, .string ⟨#[]⟩, .slice none 0 0, .slice none 0 0]).alloc (.cells #[.int .i64 0, .int .i64 0, .string ⟨#[]⟩, .slice none 0 0, .slice none 0 0] 72)
  have hq := BoxC.new (w.alloc (.cells #[.bool false, .int .i64 0, .string ⟨#[]⟩, .slice none 0 0, .slice none 0 0, .string ⟨#[]⟩, .int .i64 0, .string ⟨#[]⟩, .slice none 0 0, .slice none 0 0] 70)) 72 #[.int .i64 0, .int .i64 0, .string ⟨#[]⟩, .slice none 0 0, .slice none 0 0]
  rw [World.size_alloc] at hq
  generalize hw0 : (w.alloc (.cells #[.bool false, .int .i64 0, .string ⟨#[]⟩, .slice none 0 0, .slice none 0 0, .string ⟨#[]⟩, .int .i64 0, .string ⟨#[]⟩, .slice none 0 0, .slice none 0 0] 70)).alloc (.cells #[.int .i64 0, .int .i64 0, .string ⟨#[]⟩, .slice none 0 0, .slice none 0 0] 72) = w0 at *
  have HPA := hide (parse6 w0 ao cap (h.below hb) (Utf8Tabs_below hU hb) hcap)
  rw [hn] at HPA ⊢
  have HES : Hid (∀ W, Below w.heap.size w W → ErrS W) := fun W hW => hE.below hW
  have HPC := hide hp
  have HPF := hide hq
  have HW0 := hide hw0
  have HB := hide hb
  clear hw0 hp hq hb h hU hE hcap hn
  go_enter Tryd.func29, Tryd.ntmps29
  go_upto_region 1 with fail
  rw [HW0.out]
  clear HW0
  go_wp2_with fail
  refine HPA.out.mono ?_
  rintro e w1 ⟨⟨⟨xk, xs, xK, xL⟩, rfl, hT⟩, hb9⟩
  obtain ⟨h4, h5⟩ := hT.sl
  simp only at h4 h5
  obtain ⟨xa, xn, xc, rfl⟩ := h4
  obtain ⟨xd, xe, xf, rfl⟩ := h5
  simp only [vagg]
  have HTx := hide hT
  clear hT HPA
  have HB9 := hide (HB.out.trans (hb9.mono HB.out.size))
  clear HB
  have HB := HB9
  clear HB9
  have HPC9 := hide (HPC.out.below hb9)
  clear HPC
  have HPC := HPC9
  clear HPC9
  have HPF9 := hide (HPF.out.below hb9)
  clear HPF
  have HPF := HPF9
  clear HPF9
  clear hb9
  have hb9 := bel w1 (.cells #[.int .i64 xk, .string xs, .slice xa xn xc, .slice xd xe xf] 25)
  have HBx := hide (BoxC.new w1 25 #[.int .i64 xk, .string xs, .slice xa xn xc, .slice xd xe xf])
  have HB9 := hide (HB.out.trans (hb9.mono HB.out.size))
  clear HB
  have HB := HB9
  clear HB9
  have HPC9 := hide (HPC.out.below hb9)
  clear HPC
  have HPC := HPC9
  clear HPC9
  have HPF9 := hide (HPF.out.below hb9)
  clear HPF
  have HPF := HPF9
  clear HPF9
  have HTx9 := hide (HTx.out.bel hb9)
  clear HTx
  have HTx := HTx9
  clear HTx9
  clear hb9
  go_upto_region 4 with fail
  generalize w1.heap.size = Bx at *
  generalize w1.alloc (.cells #[.int .i64 xk, .string xs, .slice xa xn xc, .slice xd xe xf] 25) = w2 at *
  have v0 := HBx.out.cell 0
  have v1 := HBx.out.cell 1
  have v2 := HBx.out.cell 2
  have v3 := HBx.out.cell 3
  simp only [List.getElem?_toArray, List.getElem?_cons_zero, List.getElem?_cons_succ, Nat.reduceAdd] at v0 v1 v2 v3
  have hcall := get_any kId w2 HTx.out tree6_lt
  rw [get6_id] at hcall
  unfold vagg kId at hcall
  simp only at hcall
  go_wp2_with fail
  refine (hcall).mono ?_
  rintro e w3 ⟨⟨yk, ys, yK, yL⟩, rfl, hb9, hT⟩
  rw [Option.map_some, Option.getD_some, clJ_one] at hT
  obtain ⟨ya, yn, yc, yd, ye, yf, hy⟩ := flat_is hT
  obtain ⟨rfl, rfl, rfl, rfl⟩ : yk = 3 ∧ ys = sOne ∧ yK = .slice ya yn yc ∧ yL = .slice yd ye yf := by
    simp only [cOne, Prod.mk.injEq] at hy
    exact hy
  simp only [vagg, Option.isSome_some]
  clear hT hy hcall
  clear v0 v1 v2 v3
  have HB9 := hide (HB.out.trans (hb9.mono HB.out.size))
  clear HB
  have HB := HB9
  clear HB9
  have HPC9 := hide (HPC.out.below hb9)
  clear HPC
  have HPC := HPC9
  clear HPC9
  have HPF9 := hide (HPF.out.below hb9)
  clear HPF
  have HPF := HPF9
  clear HPF9
  have HTx9 := hide (HTx.out.bel hb9)
  clear HTx
  have HTx := HTx9
  clear HTx9
  have HBx9 := hide (HBx.out.below hb9)
  clear HBx
  have HBx := HBx9
  clear HBx9
  clear hb9
  have hb9 := bel w3 (.cells #[.int .i64 3, .string sOne, .slice ya yn yc, .slice yd ye yf] 25)
  have HBy := hide (BoxC.new w3 25 #[.int .i64 3, .string sOne, .slice ya yn yc, .slice yd ye yf])
  have HB9 := hide (HB.out.trans (hb9.mono HB.out.size))
  clear HB
  have HB := HB9
  clear HB9
  have HPC9 := hide (HPC.out.below hb9)
  clear HPC
  have HPC := HPC9
  clear HPC9
  have HPF9 := hide (HPF.out.below hb9)
  clear HPF
  have HPF := HPF9
  clear HPF9
  have HTx9 := hide (HTx.out.bel hb9)
  clear HTx
  have HTx := HTx9
  clear HTx9
  have HBx9 := hide (HBx.out.below hb9)
  clear HBx
  have HBx := HBx9
  clear HBx9
  clear hb9
  go_upto_region 5 with fail
  generalize w3.heap.size = By at *
  generalize w3.alloc (.cells #[.int .i64 3, .string sOne, .slice ya yn yc, .slice yd ye yf] 25) = w4 at *
  have v0 := HBy.out.cell 0
  have v1 := HBy.out.cell 1
  have v2 := HBy.out.cell 2
  have v3 := HBy.out.cell 3
  simp only [List.getElem?_toArray, List.getElem?_cons_zero, List.getElem?_cons_succ, Nat.reduceAdd] at v0 v1 v2 v3
  go_wp2_with fail
  refine (isid_ok w4 _ _ _ _ _ _ (HES.out _ HB.out)).mono ?_
  rintro e w5 ⟨rfl, hb9⟩
  clear v0 v1 v2 v3
  have HB9 := hide (HB.out.trans (hb9.mono HB.out.size))
  clear HB
  have HB := HB9
  clear HB9
  have HPC9 := hide (HPC.out.below hb9)
  clear HPC
  have HPC := HPC9
  clear HPC9
  have HPF9 := hide (HPF.out.below hb9)
  clear HPF
  have HPF := HPF9
  clear HPF9
  have HTx9 := hide (HTx.out.bel hb9)
  clear HTx
  have HTx := HTx9
  clear HTx9
  have HBx9 := hide (HBx.out.below hb9)
  clear HBx
  have HBx := HBx9
  clear HBx9
  have HBy9 := hide (HBy.out.below hb9)
  clear HBy
  have HBy := HBy9
  clear HBy9
  clear hb9
  have v0 := HBy.out.cell 0
  have v1 := HBy.out.cell 1
  have v2 := HBy.out.cell 2
  have v3 := HBy.out.cell 3
  simp only [List.getElem?_toArray, List.getElem?_cons_zero, List.getElem?_cons_succ, Nat.reduceAdd] at v0 v1 v2 v3
  go_upto_region 7 with fail
  have hb9 := bel w5 (.cells #[.int .i64 (-32600), .int .i64 3, .string sOne, .slice ya yn yc, .slice yd ye yf] 72)
  have HBi := hide (BoxC.new w5 72 #[.int .i64 (-32600), .int .i64 3, .string sOne, .slice ya yn yc, .slice yd ye yf])
  have HB9 := hide (HB.out.trans (hb9.mono HB.out.size))
  clear HB
  have HB := HB9
  clear HB9
  have HPC9 := hide (HPC.out.below hb9)
  clear HPC
  have HPC := HPC9
  clear HPC9
  have HPF9 := hide (HPF.out.below hb9)
  clear HPF
  have HPF := HPF9
  clear HPF9
  have HTx9 := hide (HTx.out.bel hb9)
  clear HTx
  have HTx := HTx9
  clear HTx9
  have HBx9 := hide (HBx.out.below hb9)
  clear HBx
  have HBx := HBx9
  clear HBx9
  have HBy9 := hide (HBy.out.below hb9)
  clear HBy
  have HBy := HBy9
  clear HBy9
  clear hb9
  go_upto_region 8 with fail
  generalize w5.heap.size = Bi at *
  generalize w5.alloc (.cells #[.int .i64 (-32600), .int .i64 3, .string sOne, .slice ya yn yc, .slice yd ye yf] 72) = w6 at *
  clear v0 v1 v2 v3
  have v0 := HBx.out.cell 0
  have v1 := HBx.out.cell 1
  have v2 := HBx.out.cell 2
  have v3 := HBx.out.cell 3
  simp only [List.getElem?_toArray, List.getElem?_cons_zero, List.getElem?_cons_succ, Nat.reduceAdd] at v0 v1 v2 v3
  have hcall := hasv_any w6 _ HTx.out tree6_lt get6_ver true (by rw [Option.map_some, Option.getD_some, clJ_ver]; exact eqJ_refl _)
  unfold vagg at hcall
  simp only at hcall
  go_wp2_with fail
  refine hcall.mono ?_
  rintro e w7 ⟨rfl, hb9⟩
  clear hcall
  clear v0 v1 v2 v3
  have HB9 := hide (HB.out.trans (hb9.mono HB.out.size))
  clear HB
  have HB := HB9
  clear HB9
  have HPC9 := hide (HPC.out.below hb9)
  clear HPC
  have HPC := HPC9
  clear HPC9
  have HPF9 := hide (HPF.out.below hb9)
  clear HPF
  have HPF := HPF9
  clear HPF9
  have HTx9 := hide (HTx.out.bel hb9)
  clear HTx
  have HTx := HTx9
  clear HTx9
  have HBx9 := hide (HBx.out.below hb9)
  clear HBx
  have HBx := HBx9
  clear HBx9
  have HBy9 := hide (HBy.out.below hb9)
  clear HBy
  have HBy := HBy9
  clear HBy9
  have HBi9 := hide (HBi.out.below hb9)
  clear HBi
  have HBi := HBi9
  clear HBi9
  clear hb9
  have v0 := HBx.out.cell 0
  have v1 := HBx.out.cell 1
  have v2 := HBx.out.cell 2
  have v3 := HBx.out.cell 3
  simp only [List.getElem?_toArray, List.getElem?_cons_zero, List.getElem?_cons_succ, Nat.reduceAdd] at v0 v1 v2 v3
  have hcall := get_any kMethod w7 HTx.out tree6_lt
  rw [get6_method] at hcall
  unfold vagg kMethod at hcall
  simp only at hcall
  go_wp2_with fail
  refine (hcall).mono ?_
  rintro e w8 ⟨⟨mk, ms, mK, mL⟩, rfl, hb9, hT⟩
  rw [Option.map_some, Option.getD_some, clJ_m] at hT
  obtain ⟨ma, mn, mc, md, me, mf, hy⟩ := flat_is hT
  obtain ⟨rfl, rfl, rfl, rfl⟩ : mk = 4 ∧ ms = sM ∧ mK = .slice ma mn mc ∧ mL = .slice md me mf := by
    simp only [cM, Prod.mk.injEq] at hy
    exact hy
  simp only [vagg, Option.isSome_some]
  clear hT hy hcall
  clear v0 v1 v2 v3
  have HB9 := hide (HB.out.trans (hb9.mono HB.out.size))
  clear HB
  have HB := HB9
  clear HB9
  have HPC9 := hide (HPC.out.below hb9)
  clear HPC
  have HPC := HPC9
  clear HPC9
  have HPF9 := hide (HPF.out.below hb9)
  clear HPF
  have HPF := HPF9
  clear HPF9
  have HTx9 := hide (HTx.out.bel hb9)
  clear HTx
  have HTx := HTx9
  clear HTx9
  have HBx9 := hide (HBx.out.below hb9)
  clear HBx
  have HBx := HBx9
  clear HBx9
  have HBy9 := hide (HBy.out.below hb9)
  clear HBy
  have HBy := HBy9
  clear HBy9
  have HBi9 := hide (HBi.out.below hb9)
  clear HBi
  have HBi := HBi9
  clear HBi9
  clear hb9
  have hb9 := bel w8 (.cells #[.int .i64 4, .string sM, .slice ma mn mc, .slice md me mf] 25)
  have HBm := hide (BoxC.new w8 25 #[.int .i64 4, .string sM, .slice ma mn mc, .slice md me mf])
  have HB9 := hide (HB.out.trans (hb9.mono HB.out.size))
  clear HB
  have HB := HB9
  clear HB9
  have HPC9 := hide (HPC.out.below hb9)
  clear HPC
  have HPC := HPC9
  clear HPC9
  have HPF9 := hide (HPF.out.below hb9)
  clear HPF
  have HPF := HPF9
  clear HPF9
  have HTx9 := hide (HTx.out.bel hb9)
  clear HTx
  have HTx := HTx9
  clear HTx9
  have HBx9 := hide (HBx.out.below hb9)
  clear HBx
  have HBx := HBx9
  clear HBx9
  have HBy9 := hide (HBy.out.below hb9)
  clear HBy
  have HBy := HBy9
  clear HBy9
  have HBi9 := hide (HBi.out.below hb9)
  clear HBi
  have HBi := HBi9
  clear HBi9
  clear hb9
  go_upto_region 11 with fail
  generalize w8.heap.size = Bm at *
  generalize w8.alloc (.cells #[.int .i64 4, .string sM, .slice ma mn mc, .slice md me mf] 25) = w9 at *
  have v0 := HBx.out.cell 0
  have v1 := HBx.out.cell 1
  have v2 := HBx.out.cell 2
  have v3 := HBx.out.cell 3
  simp only [List.getElem?_toArray, List.getElem?_cons_zero, List.getElem?_cons_succ, Nat.reduceAdd] at v0 v1 v2 v3
  have hcall := get_any kParams w9 HTx.out tree6_lt
  rw [get6_params] at hcall
  unfold vagg kParams at hcall
  simp only at hcall
  go_wp2_with fail
  refine (hcall).mono ?_
  rintro e wa ⟨⟨zk, zs, zK, zL⟩, rfl, hb9, hT⟩
  obtain ⟨h4, h5⟩ := hT.sl
  simp only at h4 h5
  obtain ⟨za, zn, zc, rfl⟩ := h4
  obtain ⟨zd, ze, zf, rfl⟩ := h5
  simp only [vagg, Option.isSome_none]
  clear hT hcall
  clear v0 v1 v2 v3
  have HB9 := hide (HB.out.trans (hb9.mono HB.out.size))
  clear HB
  have HB := HB9
  clear HB9
  have HPC9 := hide (HPC.out.below hb9)
  clear HPC
  have HPC := HPC9
  clear HPC9
  have HPF9 := hide (HPF.out.below hb9)
  clear HPF
  have HPF := HPF9
  clear HPF9
  have HTx9 := hide (HTx.out.bel hb9)
  clear HTx
  have HTx := HTx9
  clear HTx9
  have HBx9 := hide (HBx.out.below hb9)
  clear HBx
  have HBx := HBx9
  clear HBx9
  have HBy9 := hide (HBy.out.below hb9)
  clear HBy
  have HBy := HBy9
  clear HBy9
  have HBi9 := hide (HBi.out.below hb9)
  clear HBi
  have HBi := HBi9
  clear HBi9
  have HBm9 := hide (HBm.out.below hb9)
  clear HBm
  have HBm := HBm9
  clear HBm9
  clear hb9
  have hb9 := bel wa (.cells #[.int .i64 zk, .string zs, .slice za zn zc, .slice zd ze zf] 25)
  have HBz := hide (BoxC.new wa 25 #[.int .i64 zk, .string zs, .slice za zn zc, .slice zd ze zf])
  have HB9 := hide (HB.out.trans (hb9.mono HB.out.size))
  clear HB
  have HB := HB9
  clear HB9
  have HPC9 := hide (HPC.out.below hb9)
  clear HPC
  have HPC := HPC9
  clear HPC9
  have HPF9 := hide (HPF.out.below hb9)
  clear HPF
  have HPF := HPF9
  clear HPF9
  have HTx9 := hide (HTx.out.bel hb9)
  clear HTx
  have HTx := HTx9
  clear HTx9
  have HBx9 := hide (HBx.out.below hb9)
  clear HBx
  have HBx := HBx9
  clear HBx9
  have HBy9 := hide (HBy.out.below hb9)
  clear HBy
  have HBy := HBy9
  clear HBy9
  have HBi9 := hide (HBi.out.below hb9)
  clear HBi
  have HBi := HBi9
  clear HBi9
  have HBm9 := hide (HBm.out.below hb9)
  clear HBm
  have HBm := HBm9
  clear HBm9
  clear hb9
  go_upto_region 14 with fail
  generalize wa.heap.size = Bz at *
  generalize wa.alloc (.cells #[.int .i64 zk, .string zs, .slice za zn zc, .slice zd ze zf] 25) = wb at *
  have v0 := HBm.out.cell 0
  have v1 := HBm.out.cell 1
  have v2 := HBm.out.cell 2
  have v3 := HBm.out.cell 3
  simp only [List.getElem?_toArray, List.getElem?_cons_zero, List.getElem?_cons_succ, Nat.reduceAdd] at v0 v1 v2 v3
  go_upto_region 16 with fail
  have u0 := HBy.out.cell 0
  have u1 := HBy.out.cell 1
  have u2 := HBy.out.cell 2
  have u3 := HBy.out.cell 3
  simp only [List.getElem?_toArray, List.getElem?_cons_zero, List.getElem?_cons_succ, Nat.reduceAdd] at u0 u1 u2 u3
  have t0 := HBz.out.cell 0
  have t1 := HBz.out.cell 1
  have t2 := HBz.out.cell 2
  have t3 := HBz.out.cell 3
  simp only [List.getElem?_toArray, List.getElem?_cons_zero, List.getElem?_cons_succ, Nat.reduceAdd] at t0 t1 t2 t3
  have p0 := HPC.out.cell 0
  have p1 := HPC.out.cell 1
  have p2 := HPC.out.cell 2
  have p3 := HPC.out.cell 3
  have p4 := HPC.out.cell 4
  have p5 := HPC.out.cell 5
  have p6 := HPC.out.cell 6
  have p7 := HPC.out.cell 7
  have p8 := HPC.out.cell 8
  have p9 := HPC.out.cell 9
  have q0 := HPF.out.cell 0
  have q1 := HPF.out.cell 1
  have q2 := HPF.out.cell 2
  have q3 := HPF.out.cell 3
  have q4 := HPF.out.cell 4
  simp only [List.getElem?_toArray, List.getElem?_cons_zero, List.getElem?_cons_succ, Nat.reduceAdd] at p0 p1 p2 p3 p4 p5 p6 p7 p8 p9 q0 q1 q2 q3 q4
  have g0 := HPC.out.frozen 0
  have g1 := HPC.out.frozen 1
  have g2 := HPC.out.frozen 2
  have g3 := HPC.out.frozen 3
  have g4 := HPC.out.frozen 4
  have g5 := HPC.out.frozen 5
  have g6 := HPC.out.frozen 6
  have g7 := HPC.out.frozen 7
  have g8 := HPC.out.frozen 8
  have g9 := HPC.out.frozen 9
  have k0 := HPF.out.frozen 0
  have k1 := HPF.out.frozen 1
  have k2 := HPF.out.frozen 2
  have k3 := HPF.out.frozen 3
  have k4 := HPF.out.frozen 4
  have lC := HPC.out.lt
  have lF := HPF.out.lt
  go_wp2
  have hT1 := ft_off (call_set HPC.out (.bool true) (.int .i64 3) (.string sOne) (.slice ya yn yc) (.slice yd ye yf) (.string sM) (.int .i64 zk) (.string zs) (.slice za zn zc) (.slice zd ze zf)) (show w.heap.size ≠ w.heap.size + 1 by omega) (.int .i64 0) (.int .i64 0) (.string ⟨#[]⟩) (.slice none 0 0) (.slice none 0 0)
  have hT2 := ft_set (call_off HPF.out (show w.heap.size + 1 ≠ w.heap.size by omega) (.bool true) (.int .i64 3) (.string sOne) (.slice ya yn yc) (.slice yd ye yf) (.string sM) (.int .i64 zk) (.string zs) (.slice za zn zc) (.slice zd ze zf)) (.int .i64 0) (.int .i64 0) (.string ⟨#[]⟩) (.slice none 0 0) (.slice none 0 0)
  refine bodyPost_ret (results_cf rfl rfl rfl rfl hT1 hT2) rfl ?_
  exact ⟨⟨_, _, _, _, _, _, _, _, _, _, _, _, _, _, rfl⟩, ft_bel (call_bel HB.out (Nat.le_refl _) (.bool true) (.int .i64 3) (.string sOne) (.slice ya yn yc) (.slice yd ye yf) (.string sM) (.int .i64 zk) (.string zs) (.slice za zn zc) (.slice zd ze zf)) (Nat.le_succ _) (.int .i64 0) (.int .i64 0) (.string ⟨#[]⟩) (.slice none 0 0) (.slice none 0 0)⟩

set_option maxHeartbeats 8000000 in
theorem read7 (w : World) (ao : Option Addr) (cap : Nat) (h : Byts w (.slice ao ex7.length cap) ex7) (hU : Utf8Tabs 0 1 w) (hE : ErrS w) (hcap : ex7.length ≤ cap) :
    Calls Tryd.prog 29 #[.slice ao ex7.length cap] w fun e w' => (∃ ya yn yc yd ye yf, e = .returned (.tuple #[.agg #[.bool false, .int .i64 0, .string ⟨#[]⟩, .slice none 0 0, .slice none 0 0, .string ⟨#[]⟩, .int .i64 0, .string ⟨#[]⟩, .slice none 0 0, .slice none 0 0], .agg #[.int .i64 (-32600), .int .i64 0, .string ⟨#[]⟩, .slice ya yn yc, .slice yd ye yf], .bool false])) ∧ Below w.heap.size w w' := by
  obtain ⟨n, hn⟩ : ∃ n, ex7.length = n := ⟨_, rfl⟩
  have hb : Below w.heap.size w ((w.alloc (.cells #[.bool false, .int .i64 0, .string ⟨#[]⟩, .slice none 0 0, .slice none 0 0, .string ⟨#[]⟩, .int .i64 0, .string ⟨#[]⟩, .slice none 0 0, .slice none 0 0] 70)).alloc (.cells #[.int .i64 0, .int .i64 0, .string ⟨#[]⟩, .slice none 0 0, .slice none 0 0] 72)) := (bel w _).alloc (by simp) _
  have hp := (BoxC.new w 70 #[.bool false, .int .i64 0, .string ⟨#[]⟩, .slice none 0 0, .slice none 0 0, .string ⟨#[]⟩, .int .i64 0, .string ⟨#[]⟩, .slice none 0 0, .slice none 0 0]).alloc (.cells #[.int .i64 0, .int .i64 0, .string ⟨#[]⟩, .slice none 0 0, .slice none 0 0] 72)
  have hq := BoxC.new (w.alloc (.cells #[.bool false, .int .i64 0, .string ⟨#[]⟩, .slice none 0 0, .slice none 0 0, .string ⟨#[]⟩, .int .i64 0, .string ⟨#[]⟩, .slice none 0 0, .slice none 0 0] 70)) 72 #[.int .i64 0, .int .i64 0, .string ⟨#[]⟩, .slice none 0 0, .slice none 0 0]
  rw [World.size_alloc] at hq
  generalize hw0 : (w.alloc (.cells #[.bool false, .int .i64 0, .string ⟨#[]⟩, .slice none 0 0, .slice none 0 0, .string ⟨#[]⟩, .int .i64 0, .string ⟨#[]⟩, .slice none 0 0, .slice none 0 0] 70)).alloc (.cells #[.int .i64 0, .int .i64 0, .string ⟨#[]⟩, .slice none 0 0, .slice none 0 0] 72) = w0 at *
  have HPA := hide (parse7 w0 ao cap (h.below hb) (Utf8Tabs_below hU hb) hcap)
  rw [hn] at HPA ⊢
  have HES : Hid (∀ W, Below w.heap.size w W → ErrS W) := fun W hW => hE.below hW
  have HPC := hide hp
  have HPF := hide hq
  have HW0 := hide hw0
  have HB := hide hb
  clear hw0 hp hq hb h hU hE hcap hn
  go_enter Tryd.func29, Tryd.ntmps29
  go_upto_region 1 with fail
  rw [HW0.out]
  clear HW0
  go_wp2_with fail
  refine HPA.out.mono ?_
  rintro e w1 ⟨⟨⟨xk, xs, xK, xL⟩, rfl, hT⟩, hb9⟩
  obtain ⟨h4, h5⟩ := hT.sl
  simp only at h4 h5
  obtain ⟨xa, xn, xc, rfl⟩ := h4
  obtain ⟨xd, xe, xf, rfl⟩ := h5
  simp only [vagg]
  have HTx := hide hT
  clear hT HPA
  have HB9 := hide (HB.out.trans (hb9.mono HB.out.size))
  clear HB
  have HB := HB9
  clear HB9
  have HPC9 := hide (HPC.out.below hb9)
  clear HPC
  have HPC := HPC9
  clear HPC9
  have HPF9 := hide (HPF.out.below hb9)
  clear HPF
  have HPF := HPF9
  clear HPF9
  clear hb9
  have hb9 := bel w1 (.cells #[.int .i64 xk, .string xs, .slice xa xn xc, .slice xd xe xf] 25)
  have HBx := hide (BoxC.new w1 25 #[.int .i64 xk, .string xs, .slice xa xn xc, .slice xd xe xf])
  have HB9 := hide (HB.out.trans (hb9.mono HB.out.size))
  clear HB
  have HB := HB9
  clear HB9
  have HPC9 := hide (HPC.out.below hb9)
  clear HPC
  have HPC := HPC9
  clear HPC9
  have HPF9 := hide (HPF.out.below hb9)
  clear HPF
  have HPF := HPF9
  clear HPF9
  have HTx9 := hide (HTx.out.bel hb9)
  clear HTx
  have HTx := HTx9
  clear HTx9
  clear hb9
  go_upto_region 4 with fail
  generalize w1.heap.size = Bx at *
  generalize w1.alloc (.cells #[.int .i64 xk, .string xs, .slice xa xn xc, .slice xd xe xf] 25) = w2 at *
  have v0 := HBx.out.cell 0
  have v1 := HBx.out.cell 1
  have v2 := HBx.out.cell 2
  have v3 := HBx.out.cell 3
  simp only [List.getElem?_toArray, List.getElem?_cons_zero, List.getElem?_cons_succ, Nat.reduceAdd] at v0 v1 v2 v3
  have hcall := get_any kId w2 HTx.out tree7_lt
  rw [get7] at hcall
  unfold vagg kId at hcall
  simp only at hcall
  go_wp2_with fail
  refine (hcall).mono ?_
  rintro e w3 ⟨⟨yk, ys, yK, yL⟩, rfl, hb9, hT⟩
  rw [Option.map_none, Option.getD_none] at hT
  obtain ⟨ya, yn, yc, yd, ye, yf, hy⟩ := flat_is (x := zeroC) hT
  obtain ⟨rfl, rfl, rfl, rfl⟩ : yk = 0 ∧ ys = ⟨#[]⟩ ∧ yK = .slice ya yn yc ∧ yL = .slice yd ye yf := by
    simp only [zeroC, Prod.mk.injEq] at hy
    exact hy
  simp only [vagg, Option.isSome_none]
  clear hT hy hcall
  clear v0 v1 v2 v3
  have HB9 := hide (HB.out.trans (hb9.mono HB.out.size))
  clear HB
  have HB := HB9
  clear HB9
  have HPC9 := hide (HPC.out.below hb9)
  clear HPC
  have HPC := HPC9
  clear HPC9
  have HPF9 := hide (HPF.out.below hb9)
  clear HPF
  have HPF := HPF9
  clear HPF9
  have HTx9 := hide (HTx.out.bel hb9)
  clear HTx
  have HTx := HTx9
  clear HTx9
  have HBx9 := hide (HBx.out.below hb9)
  clear HBx
  have HBx := HBx9
  clear HBx9
  clear hb9
  have hb9 := bel w3 (.cells #[.int .i64 0, .string ⟨#[]⟩, .slice ya yn yc, .slice yd ye yf] 25)
  have HBy := hide (BoxC.new w3 25 #[.int .i64 0, .string ⟨#[]⟩, .slice ya yn yc, .slice yd ye yf])
  have HB9 := hide (HB.out.trans (hb9.mono HB.out.size))
  clear HB
  have HB := HB9
  clear HB9
  have HPC9 := hide (HPC.out.below hb9)
  clear HPC
  have HPC := HPC9
  clear HPC9
  have HPF9 := hide (HPF.out.below hb9)
  clear HPF
  have HPF := HPF9
  clear HPF9
  have HTx9 := hide (HTx.out.bel hb9)
  clear HTx
  have HTx := HTx9
  clear HTx9
  have HBx9 := hide (HBx.out.below hb9)
  clear HBx
  have HBx := HBx9
  clear HBx9
  clear hb9
  go_upto_region 5 with fail
  generalize w3.heap.size = By at *
  generalize w3.alloc (.cells #[.int .i64 0, .string ⟨#[]⟩, .slice ya yn yc, .slice yd ye yf] 25) = w4 at *
  have v0 := HBy.out.cell 0
  have v1 := HBy.out.cell 1
  have v2 := HBy.out.cell 2
  have v3 := HBy.out.cell 3
  simp only [List.getElem?_toArray, List.getElem?_cons_zero, List.getElem?_cons_succ, Nat.reduceAdd] at v0 v1 v2 v3
  go_upto_region 7 with fail
  have HLF : Hid (w.heap.size + 1 < w4.heap.size) := HPF.out.lt
  have hb9 := bel w4 (.cells #[.int .i64 (-32600), .int .i64 0, .string ⟨#[]⟩, .slice ya yn yc, .slice yd ye yf] 72)
  have HBi := hide (BoxC.new w4 72 #[.int .i64 (-32600), .int .i64 0, .string ⟨#[]⟩, .slice ya yn yc, .slice yd ye yf])
  have HB9 := hide (HB.out.trans (hb9.mono HB.out.size))
  clear HB
  have HB := HB9
  clear HB9
  have HPC9 := hide (HPC.out.below hb9)
  clear HPC
  have HPC := HPC9
  clear HPC9
  have HPF9 := hide (HPF.out.below hb9)
  clear HPF
  have HPF := HPF9
  clear HPF9
  have HTx9 := hide (HTx.out.bel hb9)
  clear HTx
  have HTx := HTx9
  clear HTx9
  have HBx9 := hide (HBx.out.below hb9)
  clear HBx
  have HBx := HBx9
  clear HBx9
  have HBy9 := hide (HBy.out.below hb9)
  clear HBy
  have HBy := HBy9
  clear HBy9
  clear hb9
  have HNI : Hid (w4.heap.size ≠ w.heap.size ∧ w4.heap.size ≠ w.heap.size + 1) := by
    have h := HLF.out
    exact ⟨by omega, by omega⟩
  go_upto_region 8 with fail
  generalize w4.heap.size = Bi at *
  generalize w4.alloc (.cells #[.int .i64 (-32600), .int .i64 0, .string ⟨#[]⟩, .slice ya yn yc, .slice yd ye yf] 72) = w6 at *
  clear v0 v1 v2 v3
  have v0 := HBx.out.cell 0
  have v1 := HBx.out.cell 1
  have v2 := HBx.out.cell 2
  have v3 := HBx.out.cell 3
  simp only [List.getElem?_toArray, List.getElem?_cons_zero, List.getElem?_cons_succ, Nat.reduceAdd] at v0 v1 v2 v3
  have hcall := hasv_any w6 _ HTx.out tree7_lt (get7 kJson) false (by rw [Option.map_none, Option.getD_none]; exact eqJ_kind (by decide))
  unfold vagg at hcall
  simp only at hcall
  go_wp2_with fail
  refine hcall.mono ?_
  rintro e w7 ⟨rfl, hb9⟩
  clear hcall
  clear v0 v1 v2 v3
  have HB9 := hide (HB.out.trans (hb9.mono HB.out.size))
  clear HB
  have HB := HB9
  clear HB9
  have HPC9 := hide (HPC.out.below hb9)
  clear HPC
  have HPC := HPC9
  clear HPC9
  have HPF9 := hide (HPF.out.below hb9)
  clear HPF
  have HPF := HPF9
  clear HPF9
  have HTx9 := hide (HTx.out.bel hb9)
  clear HTx
  have HTx := HTx9
  clear HTx9
  have HBx9 := hide (HBx.out.below hb9)
  clear HBx
  have HBx := HBx9
  clear HBx9
  have HBy9 := hide (HBy.out.below hb9)
  clear HBy
  have HBy := HBy9
  clear HBy9
  have HBi9 := hide (HBi.out.below hb9)
  clear HBi
  have HBi := HBi9
  clear HBi9
  clear hb9
  go_upto_region 9 with fail
  have HSX : Hid (∀ X0 : World, BoxC X0 Bi 72 #[.int .i64 (-32600), .int .i64 0, .string ⟨#[]⟩, .slice ya yn yc, .slice yd ye yf] → (X0.cell? ⟨Bi, 0, none⟩ = some (.int .i64 (-32600)) ∧ X0.cell? ⟨Bi, 1, none⟩ = some (.int .i64 0) ∧ X0.cell? ⟨Bi, 2, none⟩ = some (.string ⟨#[]⟩) ∧ X0.cell? ⟨Bi, 3, none⟩ = some (.slice ya yn yc) ∧ X0.cell? ⟨Bi, 4, none⟩ = some (.slice yd ye yf))) := fun X0 h => ⟨h.cell 0, h.cell 1, h.cell 2, h.cell 3, h.cell 4⟩
  refine wp_region_held_drew (S := fun X0 : World => X0.cell? ⟨Bi, 0, none⟩ = some (.int .i64 (-32600)) ∧ X0.cell? ⟨Bi, 1, none⟩ = some (.int .i64 0) ∧ X0.cell? ⟨Bi, 2, none⟩ = some (.string ⟨#[]⟩) ∧ X0.cell? ⟨Bi, 3, none⟩ = some (.slice ya yn yc) ∧ X0.cell? ⟨Bi, 4, none⟩ = some (.slice yd ye yf)) (by kernel_rfl) (HSX.out _ HBi.out) (fun hHeld => ?_)
  have HPC2 : Hid (BoxC w7.drew w.heap.size 70 #[.bool false, .int .i64 0, .string ⟨#[]⟩, .slice none 0 0, .slice none 0 0, .string ⟨#[]⟩, .int .i64 0, .string ⟨#[]⟩, .slice none 0 0, .slice none 0 0]) := HPC.out
  have HPF2 : Hid (BoxC w7.drew (w.heap.size + 1) 72 #[.int .i64 0, .int .i64 0, .string ⟨#[]⟩, .slice none 0 0, .slice none 0 0]) := HPF.out
  have HBi2 : Hid (BoxC w7.drew Bi 72 #[.int .i64 (-32600), .int .i64 0, .string ⟨#[]⟩, .slice ya yn yc, .slice yd ye yf]) := HBi.out
  have HB2 : Hid (Below w.heap.size w w7.drew) := HB.out.drew
  have HNE : Hid (Bi ≠ w.heap.size ∧ Bi ≠ w.heap.size + 1) := HNI.out
  clear HPC HPF HBi HB HBx HBy HTx
  generalize w7.drew = w8 at *
  refine takeD (i := 0) (v := ?v1) (some 43) rfl (by kernel_rfl) (by kernel_rfl) (by kernel_rfl) (fun _ _ _ h => h) (Or.inl ⟨by rfl, ?hy1⟩) (HSX.out _ HBi2.out) (by rfl) ?rest1
  case hy1 => first | (intro w hSw; (try dsimp only at hSw); obtain ⟨s0, s1, s2, s3, s4⟩ := hSw; go_simp; done) | (intro w hSw; (try dsimp only at hSw); obtain ⟨s0, s1, s2, s3, s4⟩ := hSw; go_simp; with_reducible rfl)
  try simp only [Act.put, List.setIfInBounds_toArray, List.set_cons_zero, List.set_cons_succ, vagg]
  refine takeD (i := 1) (v := ?v2) (some 44) rfl (by kernel_rfl) (by kernel_rfl) (by kernel_rfl) (fun _ _ _ h => h) (Or.inl ⟨by rfl, ?hy2⟩) (HSX.out _ HBi2.out) (by rfl) ?rest2
  case hy2 => first | (intro w hSw; (try dsimp only at hSw); obtain ⟨s0, s1, s2, s3, s4⟩ := hSw; go_simp; done) | (intro w hSw; (try dsimp only at hSw); obtain ⟨s0, s1, s2, s3, s4⟩ := hSw; go_simp; with_reducible rfl)
  try simp only [Act.put, List.setIfInBounds_toArray, List.set_cons_zero, List.set_cons_succ, vagg]
  have p0 := HPC2.out.cell 0
  have p1 := HPC2.out.cell 1
  have p2 := HPC2.out.cell 2
  have p3 := HPC2.out.cell 3
  have p4 := HPC2.out.cell 4
  have p5 := HPC2.out.cell 5
  have p6 := HPC2.out.cell 6
  have p7 := HPC2.out.cell 7
  have p8 := HPC2.out.cell 8
  have p9 := HPC2.out.cell 9
  simp only [List.getElem?_toArray, List.getElem?_cons_zero, List.getElem?_cons_succ, Nat.reduceAdd] at p0 p1 p2 p3 p4 p5 p6 p7 p8 p9
  have g0 := HPC2.out.frozen 0
  have g1 := HPC2.out.frozen 1
  have g2 := HPC2.out.frozen 2
  have g3 := HPC2.out.frozen 3
  have g4 := HPC2.out.frozen 4
  have g5 := HPC2.out.frozen 5
  have g6 := HPC2.out.frozen 6
  have g7 := HPC2.out.frozen 7
  have g8 := HPC2.out.frozen 8
  have g9 := HPC2.out.frozen 9
  have lC := HPC2.out.lt
  have hc9 := call_set HPC2.out (.bool false) (.int .i64 0) (.string ⟨#[]⟩) (.slice none 0 0) (.slice none 0 0) (.string ⟨#[]⟩) (.int .i64 0) (.string ⟨#[]⟩) (.slice none 0 0) (.slice none 0 0)
  have hf9 := call_off HPF2.out (show w.heap.size + 1 ≠ w.heap.size by omega) (.bool false) (.int .i64 0) (.string ⟨#[]⟩) (.slice none 0 0) (.slice none 0 0) (.string ⟨#[]⟩) (.int .i64 0) (.string ⟨#[]⟩) (.slice none 0 0) (.slice none 0 0)
  have hi9 := call_off HBi2.out HNE.out.1 (.bool false) (.int .i64 0) (.string ⟨#[]⟩) (.slice none 0 0) (.slice none 0 0) (.string ⟨#[]⟩) (.int .i64 0) (.string ⟨#[]⟩) (.slice none 0 0) (.slice none 0 0)
  have hb9 := call_bel HB2.out (Nat.le_refl _) (.bool false) (.int .i64 0) (.string ⟨#[]⟩) (.slice none 0 0) (.slice none 0 0) (.string ⟨#[]⟩) (.int .i64 0) (.string ⟨#[]⟩) (.slice none 0 0) (.slice none 0 0)
  have HC9 := hide hc9
  have HF9 := hide hf9
  have HI9 := hide hi9
  have HD9 := hide hb9
  clear hc9 hf9 hi9 hb9
  refine wpAnyH_ready (rs := [2]) (by kernel_rfl) (by simp) ?_
  refine AllReadyH.cons rfl (fun K9 hK => ?_) AllReadyH.nil
  go_simp
  refine hK.out _ _ (HSX.out _ HI9.out) (fun _ => ?_)
  clear hK K9 HPC2 HPF2 HBi2 HB2 lC p0 g0 p1 g1 p2 g2 p3 g3 p4 g4 p5 g5 p6 g6 p7 g7 p8 g8 p9 g9
  try simp only [Act.put, List.setIfInBounds_toArray, List.set_cons_zero, List.set_cons_succ, vagg]
  generalize ((((((((((w8.setCell ⟨w.heap.size, 0, none⟩ (.bool false)).setCell ⟨w.heap.size, 1, none⟩ (.int .i64 0)).setCell ⟨w.heap.size, 2, none⟩ (.string ⟨#[]⟩)).setCell ⟨w.heap.size, 3, none⟩ (.slice none 0 0)).setCell ⟨w.heap.size, 4, none⟩ (.slice none 0 0)).setCell ⟨w.heap.size, 5, none⟩ (.string ⟨#[]⟩)).setCell ⟨w.heap.size, 6, none⟩ (.int .i64 0)).setCell ⟨w.heap.size, 7, none⟩ (.string ⟨#[]⟩)).setCell ⟨w.heap.size, 8, none⟩ (.slice none 0 0)).setCell ⟨w.heap.size, 9, none⟩ (.slice none 0 0)) = wa at *
  have q0 := HF9.out.cell 0
  have q1 := HF9.out.cell 1
  have q2 := HF9.out.cell 2
  have q3 := HF9.out.cell 3
  have q4 := HF9.out.cell 4
  simp only [List.getElem?_toArray, List.getElem?_cons_zero, List.getElem?_cons_succ, Nat.reduceAdd] at q0 q1 q2 q3 q4
  have k0 := HF9.out.frozen 0
  have k1 := HF9.out.frozen 1
  have k2 := HF9.out.frozen 2
  have k3 := HF9.out.frozen 3
  have k4 := HF9.out.frozen 4
  have lF := HF9.out.lt
  have HCa := hide (ft_off HC9.out (show w.heap.size ≠ w.heap.size + 1 by omega) (.int .i64 (-32600)) (.int .i64 0) (.string ⟨#[]⟩) (.slice ya yn yc) (.slice yd ye yf))
  have HFa := hide (ft_set HF9.out (.int .i64 (-32600)) (.int .i64 0) (.string ⟨#[]⟩) (.slice ya yn yc) (.slice yd ye yf))
  have HIa := hide (ft_off HI9.out HNE.out.2 (.int .i64 (-32600)) (.int .i64 0) (.string ⟨#[]⟩) (.slice ya yn yc) (.slice yd ye yf))
  have HDa := hide (ft_bel HD9.out (Nat.le_succ _) (.int .i64 (-32600)) (.int .i64 0) (.string ⟨#[]⟩) (.slice ya yn yc) (.slice yd ye yf))
  refine wpAnyH_ready (rs := [3]) (by kernel_rfl) (by simp) ?_
  refine AllReadyH.cons rfl (fun K9 hK => ?_) AllReadyH.nil
  go_simp
  refine hK.out _ _ (HSX.out _ HIa.out) (fun _ => ?_)
  clear hK K9
  try simp only [Act.put, List.setIfInBounds_toArray, List.set_cons_zero, List.set_cons_succ, vagg]
  refine takeD (i := 4) (v := ?v3) (some 4) rfl (by kernel_rfl) (by kernel_rfl) (by kernel_rfl) (fun _ _ _ h => h) (Or.inl ⟨by rfl, ?hy3⟩) (HSX.out _ HIa.out) (by rfl) ?rest3
  case hy3 => first | (intro w hSw; (try dsimp only at hSw); obtain ⟨s0, s1, s2, s3, s4⟩ := hSw; go_simp; done) | (intro w hSw; (try dsimp only at hSw); obtain ⟨s0, s1, s2, s3, s4⟩ := hSw; go_simp; with_reducible rfl)
  try simp only [Act.put, List.setIfInBounds_toArray, List.set_cons_zero, List.set_cons_succ, vagg]
  refine wpAnyH_done (by kernel_rfl) ?_ _
  go_wp2
  refine bodyPost_ret (results_cf rfl rfl rfl rfl HCa.out HFa.out) rfl ?_
  exact ⟨⟨_, _, _, _, _, _, rfl⟩, HDa.out⟩

end Go.Proofs.YtacgocfgcoejpaaDoor

namespace Go.Proofs.YtacgocfgcoejpaaDoor
set_option linter.unusedVariables false
set_option linter.unusedSimpArgs false
set_option maxRecDepth 100000
open Go Go.RowKit Go.Shelf Go.Lib

set_option maxHeartbeats 8000000 in
theorem called_calls (w : World) (hU : Utf8Tabs 0 1 w) (hE : ErrS w) :
    Calls Tryd.prog 11 #[] w fun e w' => e = .returned (.bool true) ∧ Below w.heap.size w w' := by
  obtain ⟨wA, hwA⟩ : ∃ wA, w.alloc (.cells #[.int .u8 123, .int .u8 34, .int .u8 106, .int .u8 115, .int .u8 111, .int .u8 110, .int .u8 114, .int .u8 112, .int .u8 99, .int .u8 34, .int .u8 58, .int .u8 34, .int .u8 50, .int .u8 46, .int .u8 48, .int .u8 34, .int .u8 44, .int .u8 34, .int .u8 105, .int .u8 100, .int .u8 34, .int .u8 58, .int .u8 49, .int .u8 44, .int .u8 34, .int .u8 109, .int .u8 101, .int .u8 116, .int .u8 104, .int .u8 111, .int .u8 100, .int .u8 34, .int .u8 58, .int .u8 34, .int .u8 109, .int .u8 34, .int .u8 125] 5 (37, 38)) = wA := ⟨_, rfl⟩
  have hc1 : (convert 26 26 (.slice (some ⟨w.heap.size, 0, none⟩) 37 37)).run Tryd.prog (w.alloc (.cells #[.int .u8 123, .int .u8 34, .int .u8 106, .int .u8 115, .int .u8 111, .int .u8 110, .int .u8 114, .int .u8 112, .int .u8 99, .int .u8 34, .int .u8 58, .int .u8 34, .int .u8 50, .int .u8 46, .int .u8 48, .int .u8 34, .int .u8 44, .int .u8 34, .int .u8 105, .int .u8 100, .int .u8 34, .int .u8 58, .int .u8 49, .int .u8 44, .int .u8 34, .int .u8 109, .int .u8 101, .int .u8 116, .int .u8 104, .int .u8 111, .int .u8 100, .int .u8 34, .int .u8 58, .int .u8 34, .int .u8 109, .int .u8 34, .int .u8 125] 5)) = .ok (.slice (some ⟨w.heap.size, 0, none⟩) 37 37) wA := by
    rw [← hwA]
    exact run_convert_bytes_const w 26 5 #[.int .u8 123, .int .u8 34, .int .u8 106, .int .u8 115, .int .u8 111, .int .u8 110, .int .u8 114, .int .u8 112, .int .u8 99, .int .u8 34, .int .u8 58, .int .u8 34, .int .u8 50, .int .u8 46, .int .u8 48, .int .u8 34, .int .u8 44, .int .u8 34, .int .u8 105, .int .u8 100, .int .u8 34, .int .u8 58, .int .u8 49, .int .u8 44, .int .u8 34, .int .u8 109, .int .u8 101, .int .u8 116, .int .u8 104, .int .u8 111, .int .u8 100, .int .u8 34, .int .u8 58, .int .u8 34, .int .u8 109, .int .u8 34, .int .u8 125] 37 37 Tryd.underlying26 Tryd.underlying5
  have hbA : Byts wA (.slice (some ⟨w.heap.size, 0, none⟩) ex6.length 37) ex6 := by rw [← hwA]; exact byts_lit w ex6 ex6_small (37, 38)
  have bA : Below w.heap.size w wA := by rw [← hwA]; exact bel w _
  have HR1 := hide (read6 wA _ 37 hbA (Utf8Tabs_below hU bA) (hE.below bA) (by decide))
  have HBA := hide bA
  have HU := hide hU
  have HE := hide hE
  rw [show ex6.length = 37 from rfl] at HR1
  clear hwA hbA bA hU hE
  go_enter Tryd.func11, Tryd.ntmps11
  go_wp2_with fail
  refine HR1.out.mono ?_
  rintro e w1 ⟨⟨ya, yn, yc, yd, ye, yf, zk, zs, za, zn, zc, zd, ze, zf, rfl⟩, hb1⟩
  have hb2 : Below w1.heap.size w1 ((w1.alloc (.cells #[.bool true, .int .i64 3, .string sOne, .slice ya yn yc, .slice yd ye yf, .string sM, .int .i64 zk, .string zs, .slice za zn zc, .slice zd ze zf] 70)).alloc (.cells #[.int .i64 0, .int .i64 0, .string ⟨#[]⟩, .slice none 0 0, .slice none 0 0] 72)) := (bel w1 _).alloc (by simp) _
  have hx2 := (BoxC.new w1 70 #[.bool true, .int .i64 3, .string sOne, .slice ya yn yc, .slice yd ye yf, .string sM, .int .i64 zk, .string zs, .slice za zn zc, .slice zd ze zf]).alloc (.cells #[.int .i64 0, .int .i64 0, .string ⟨#[]⟩, .slice none 0 0, .slice none 0 0] 72)
  have HB2 := hide (HBA.out.trans ((hb1.trans (hb2.mono hb1.size)).mono HBA.out.size))
  have HX2 := hide hx2
  clear hb1 hb2 hx2 hc1 HR1 HBA
  go_upto_region 2 with fail
  generalize w1.heap.size = B1 at *
  generalize (w1.alloc (.cells #[.bool true, .int .i64 3, .string sOne, .slice ya yn yc, .slice yd ye yf, .string sM, .int .i64 zk, .string zs, .slice za zn zc, .slice zd ze zf] 70)).alloc (.cells #[.int .i64 0, .int .i64 0, .string ⟨#[]⟩, .slice none 0 0, .slice none 0 0] 72) = w2 at *
  obtain ⟨wB, hwB⟩ : ∃ wB, w2.alloc (.cells #[.int .u8 91, .int .u8 49, .int .u8 93] 5 (3, 4)) = wB := ⟨_, rfl⟩
  have hc2 : (convert 26 26 (.slice (some ⟨w2.heap.size, 0, none⟩) 3 3)).run Tryd.prog (w2.alloc (.cells #[.int .u8 91, .int .u8 49, .int .u8 93] 5)) = .ok (.slice (some ⟨w2.heap.size, 0, none⟩) 3 3) wB := by
    rw [← hwB]
    exact run_convert_bytes_const w2 26 5 #[.int .u8 91, .int .u8 49, .int .u8 93] 3 3 Tryd.underlying26 Tryd.underlying5
  have hbB : Byts wB (.slice (some ⟨w2.heap.size, 0, none⟩) ex7.length 3) ex7 := by rw [← hwB]; exact byts_lit w2 ex7 ex7_small (3, 4)
  have bB : Below w2.heap.size w2 wB := by rw [← hwB]; exact bel w2 _
  have HBB := hide (HB2.out.trans (bB.mono HB2.out.size))
  have HX3 := hide (HX2.out.below bB)
  have HR2 := hide (read7 wB _ 3 hbB (Utf8Tabs_below HU.out HBB.out) (HE.out.below HBB.out) (by decide))
  rw [show ex7.length = 3 from rfl] at HR2
  clear hwB hbB bB HX2 HB2
  go_wp2_with fail
  refine HR2.out.mono ?_
  rintro e w3 ⟨⟨ra, rn, rc, sa, sn, sc, rfl⟩, hb3⟩
  have hb4 : Below w3.heap.size w3 ((w3.alloc (.cells #[.bool false, .int .i64 0, .string ⟨#[]⟩, .slice none 0 0, .slice none 0 0, .string ⟨#[]⟩, .int .i64 0, .string ⟨#[]⟩, .slice none 0 0, .slice none 0 0] 70)).alloc (.cells #[.int .i64 (-32600), .int .i64 0, .string ⟨#[]⟩, .slice ra rn rc, .slice sa sn sc] 72)) := (bel w3 _).alloc (by simp) _
  have hy4 := BoxC.new (w3.alloc (.cells #[.bool false, .int .i64 0, .string ⟨#[]⟩, .slice none 0 0, .slice none 0 0, .string ⟨#[]⟩, .int .i64 0, .string ⟨#[]⟩, .slice none 0 0, .slice none 0 0] 70)) 72 #[.int .i64 (-32600), .int .i64 0, .string ⟨#[]⟩, .slice ra rn rc, .slice sa sn sc]
  rw [World.size_alloc] at hy4
  have hb34 := hb3.trans (hb4.mono hb3.size)
  have HB4 := hide (HBB.out.trans (hb34.mono HBB.out.size))
  have hx4 := HX3.out.below hb34
  clear hb3 hb4 hb34 hc2 HR2 HX3 HBB
  go_upto_region 3 with fail
  generalize w3.heap.size = B3 at *
  generalize (w3.alloc (.cells #[.bool false, .int .i64 0, .string ⟨#[]⟩, .slice none 0 0, .slice none 0 0, .string ⟨#[]⟩, .int .i64 0, .string ⟨#[]⟩, .slice none 0 0, .slice none 0 0] 70)).alloc (.cells #[.int .i64 (-32600), .int .i64 0, .string ⟨#[]⟩, .slice ra rn rc, .slice sa sn sc] 72) = w4 at *
  have v0 := hx4.cell 0
  have v5 := hx4.cell 5
  have u0 := hy4.cell 0
  have u1 := hy4.cell 1
  simp only [List.getElem?_toArray, List.getElem?_cons_zero, List.getElem?_cons_succ] at v0 v5 u0 u1
  have hs : (sM.toList == [109]) = true := by rw [toList_data]; decide
  clear hx4 hy4
  go_wp2
  go_ret
  exact ⟨rfl, HB4.out⟩

set_option maxHeartbeats 16000000 in
theorem rback_any {w : World} (hU : Utf8Tabs 0 1 w) (hE : ErrS w) (hP : Pow w) (a b c d : Int) : Calls Tryd.prog 5 #[.agg #[.int .i64 a, .int .i64 b], .agg #[.int .i64 c, .int .i64 d]] w fun e w' => e = .returned (.bool true) ∧ Below w.heap.size w w' := by
  have hb : Below w.heap.size w ((w.alloc (.cells #[.int .i64 a, .int .i64 b] 39)).alloc (.cells #[.int .i64 c, .int .i64 d] 39)) := (bel w _).alloc (by simp) _
  have hp := (BoxC.new w 39 #[.int .i64 a, .int .i64 b]).alloc (.cells #[.int .i64 c, .int .i64 d] 39)
  have hq := BoxC.new (w.alloc (.cells #[.int .i64 a, .int .i64 b] 39)) 39 #[.int .i64 c, .int .i64 d]
  rw [World.size_alloc] at hq
  generalize hw0 : (w.alloc (.cells #[.int .i64 a, .int .i64 b] 39)).alloc (.cells #[.int .i64 c, .int .i64 d] 39) = w0 at *
  have HCA := hide (fun W (hW : Below w0.heap.size w0 W) => called_calls W (Utf8Tabs_below hU (hb.trans (hW.mono hb.size))) ((hE.below hb).below hW))
  have HES := hide (hE.below hb)
  have HPW := hide (hP.below hb)
  have HP1 := hide hp
  have HP2 := hide hq
  have HB1 := hide hb
  have HB : Hid (Below w0.heap.size w0 w0) := Below.refl _ _
  have HW0 := hide hw0
  clear hw0 hp hq hb hU hE hP
  have v0 : w0.cell? ⟨w.heap.size, 0, none⟩ = some (.int .i64 a) := (HP1.out.below HB.out).cell 0
  have v1 : w0.cell? ⟨w.heap.size, 1, none⟩ = some (.int .i64 b) := (HP1.out.below HB.out).cell 1
  have v2 : w0.cell? ⟨w.heap.size + 1, 0, none⟩ = some (.int .i64 c) := (HP2.out.below HB.out).cell 0
  have v3 : w0.cell? ⟨w.heap.size + 1, 1, none⟩ = some (.int .i64 d) := (HP2.out.below HB.out).cell 1
  go_enter Tryd.func5, Tryd.ntmps5
  go_upto_region 1 with fail
  rw [HW0.out]
  clear HW0
  go_wp2_with fail
  refine (HCA.out w0 HB.out).mono ?_
  rintro e w1 ⟨rfl, hb9⟩
  clear v0 v1 v2 v3
  have HB9 := hide (HB.out.trans (hb9.mono HB.out.size))
  clear HB
  have HB := HB9
  clear HB9
  clear hb9
  have v0 : w1.cell? ⟨w.heap.size, 0, none⟩ = some (.int .i64 a) := (HP1.out.below HB.out).cell 0
  have v1 : w1.cell? ⟨w.heap.size, 1, none⟩ = some (.int .i64 b) := (HP1.out.below HB.out).cell 1
  have v2 : w1.cell? ⟨w.heap.size + 1, 0, none⟩ = some (.int .i64 c) := (HP2.out.below HB.out).cell 0
  have v3 : w1.cell? ⟨w.heap.size + 1, 1, none⟩ = some (.int .i64 d) := (HP2.out.below HB.out).cell 1
  by_cases ha1 : a < -999999999
  · go_wp2_with fail
    refine (HCA.out w1 HB.out).mono ?_
    rintro e w2 ⟨rfl, hb9⟩
    clear v0 v1 v2 v3
    have HB9 := hide (HB.out.trans (hb9.mono HB.out.size))
    clear HB
    have HB := HB9
    clear HB9
    clear hb9
    go_wp2
    go_ret
    exact ⟨rfl, HB1.out.trans (HB.out.mono HB1.out.size)⟩
  by_cases ha2 : a > 999999999
  · go_wp2_with fail
    refine (HCA.out w1 HB.out).mono ?_
    rintro e w2 ⟨rfl, hb9⟩
    clear v0 v1 v2 v3
    have HB9 := hide (HB.out.trans (hb9.mono HB.out.size))
    clear HB
    have HB := HB9
    clear HB9
    clear hb9
    go_wp2
    go_ret
    exact ⟨rfl, HB1.out.trans (HB.out.mono HB1.out.size)⟩
  by_cases hb1 : b < -999999999
  · go_wp2_with fail
    refine (HCA.out w1 HB.out).mono ?_
    rintro e w2 ⟨rfl, hb9⟩
    clear v0 v1 v2 v3
    have HB9 := hide (HB.out.trans (hb9.mono HB.out.size))
    clear HB
    have HB := HB9
    clear HB9
    clear hb9
    go_wp2
    go_ret
    exact ⟨rfl, HB1.out.trans (HB.out.mono HB1.out.size)⟩
  by_cases hb2 : b > 999999999
  · go_wp2_with fail
    refine (HCA.out w1 HB.out).mono ?_
    rintro e w2 ⟨rfl, hb9⟩
    clear v0 v1 v2 v3
    have HB9 := hide (HB.out.trans (hb9.mono HB.out.size))
    clear HB
    have HB := HB9
    clear HB9
    clear hb9
    go_wp2
    go_ret
    exact ⟨rfl, HB1.out.trans (HB.out.mono HB1.out.size)⟩
  by_cases hc1 : c < -999999999
  · go_wp2_with fail
    refine (HCA.out w1 HB.out).mono ?_
    rintro e w2 ⟨rfl, hb9⟩
    clear v0 v1 v2 v3
    have HB9 := hide (HB.out.trans (hb9.mono HB.out.size))
    clear HB
    have HB := HB9
    clear HB9
    clear hb9
    go_wp2
    go_ret
    exact ⟨rfl, HB1.out.trans (HB.out.mono HB1.out.size)⟩
  by_cases hc2 : c > 999999999
  · go_wp2_with fail
    refine (HCA.out w1 HB.out).mono ?_
    rintro e w2 ⟨rfl, hb9⟩
    clear v0 v1 v2 v3
    have HB9 := hide (HB.out.trans (hb9.mono HB.out.size))
    clear HB
    have HB := HB9
    clear HB9
    clear hb9
    go_wp2
    go_ret
    exact ⟨rfl, HB1.out.trans (HB.out.mono HB1.out.size)⟩
  by_cases hd1 : d < -999999999
  · go_wp2_with fail
    refine (HCA.out w1 HB.out).mono ?_
    rintro e w2 ⟨rfl, hb9⟩
    clear v0 v1 v2 v3
    have HB9 := hide (HB.out.trans (hb9.mono HB.out.size))
    clear HB
    have HB := HB9
    clear HB9
    clear hb9
    go_wp2
    go_ret
    exact ⟨rfl, HB1.out.trans (HB.out.mono HB1.out.size)⟩
  by_cases hd2 : d > 999999999
  · go_wp2_with fail
    refine (HCA.out w1 HB.out).mono ?_
    rintro e w2 ⟨rfl, hb9⟩
    clear v0 v1 v2 v3
    have HB9 := hide (HB.out.trans (hb9.mono HB.out.size))
    clear HB
    have HB := HB9
    clear HB9
    clear hb9
    go_wp2
    go_ret
    exact ⟨rfl, HB1.out.trans (HB.out.mono HB1.out.size)⟩
  have fa : Few a := ⟨by omega, by omega⟩
  have fb : Few b := ⟨by omega, by omega⟩
  have fc : Few c := ⟨by omega, by omega⟩
  have fd : Few d := ⟨by omega, by omega⟩
  have HF := hide (And.intro fa (And.intro fb (And.intro fc fd)))
  have HFP := hide (fun W (hW : Below w0.heap.size w0 W) => frompos_any W a b fa fb (HPW.out.below hW))
  have HFR := hide (fun W (hW : Below w0.heap.size w0 W) => fromrange_any W a b c d fa fb fc fd (HPW.out.below hW))
  clear fa fb fc fd
  go_wp2_with fail
  refine (HFP.out w1 HB.out).mono ?_
  rintro e w2 ⟨⟨xk, xs, xK, xL⟩, rfl, hb9, hT⟩
  obtain ⟨h4, h5⟩ := hT.sl
  simp only at h4 h5
  obtain ⟨xa, xn, xc, rfl⟩ := h4
  obtain ⟨xd, xe, xf, rfl⟩ := h5
  simp only [vagg]
  have HT := hide hT
  clear hT
  clear v0 v1 v2 v3
  have HB9 := hide (HB.out.trans (hb9.mono HB.out.size))
  clear HB
  have HB := HB9
  clear HB9
  clear hb9
  have hcall := position_ok w2 a b HF.out.1 HF.out.2.1 HT.out (pos_lt HF.out.1 HF.out.2.1) (get_line a b) (get_char a b) (HES.out.below HB.out)
  unfold vagg at hcall
  simp only at hcall
  go_wp2_with fail
  refine hcall.mono ?_
  rintro e w3 ⟨rfl, hb9⟩
  clear hcall HT
  have HB9 := hide (HB.out.trans (hb9.mono HB.out.size))
  clear HB
  have HB := HB9
  clear HB9
  clear hb9
  have hb9 := bel w3 (.cells #[.int .i64 a, .int .i64 b] 39)
  have HQ1 := hide (BoxC.new w3 39 #[.int .i64 a, .int .i64 b])
  have HB9 := hide (HB.out.trans (hb9.mono HB.out.size))
  clear HB
  have HB := HB9
  clear HB9
  clear hb9
  go_upto_region 4 with fail
  generalize w3.heap.size = B3 at *
  generalize w3.alloc (.cells #[.int .i64 a, .int .i64 b] 39) = w4 at *
  have v0 : w4.cell? ⟨w.heap.size, 0, none⟩ = some (.int .i64 a) := (HP1.out.below HB.out).cell 0
  have v1 : w4.cell? ⟨w.heap.size, 1, none⟩ = some (.int .i64 b) := (HP1.out.below HB.out).cell 1
  have v2 : w4.cell? ⟨w.heap.size + 1, 0, none⟩ = some (.int .i64 c) := (HP2.out.below HB.out).cell 0
  have v3 : w4.cell? ⟨w.heap.size + 1, 1, none⟩ = some (.int .i64 d) := (HP2.out.below HB.out).cell 1
  go_wp2_with fail
  refine (HFR.out w4 HB.out).mono ?_
  rintro e w5 ⟨⟨yk, ys, yK, yL⟩, rfl, hb9, hT⟩
  obtain ⟨h4, h5⟩ := hT.sl
  simp only at h4 h5
  obtain ⟨ya, yn, yc, rfl⟩ := h4
  obtain ⟨yd, ye, yf, rfl⟩ := h5
  simp only [vagg]
  have HT := hide hT
  have HQ2 := hide (HQ1.out.below hb9)
  clear hT HQ1
  clear v0 v1 v2 v3
  have HB9 := hide (HB.out.trans (hb9.mono HB.out.size))
  clear HB
  have HB := HB9
  clear HB9
  clear hb9
  have hcall := range_ok w5 a b c d HF.out.1 HF.out.2.1 HF.out.2.2.1 HF.out.2.2.2 HT.out (HES.out.below HB.out)
  unfold vagg at hcall
  simp only at hcall
  go_wp2_with fail
  refine hcall.mono ?_
  rintro e w6 ⟨rfl, hb9⟩
  have HQ3 := hide (HQ2.out.below hb9)
  clear hcall HT HQ2
  have HB9 := hide (HB.out.trans (hb9.mono HB.out.size))
  clear HB
  have HB := HB9
  clear HB9
  clear hb9
  have hb9 : Below w6.heap.size w6 ((w6.alloc (.cells #[.int .i64 a, .int .i64 b] 39)).alloc (.cells #[.int .i64 c, .int .i64 d] 39)) := (bel w6 _).alloc (by simp) _
  have HQ4 := hide ((BoxC.new w6 39 #[.int .i64 a, .int .i64 b]).alloc (.cells #[.int .i64 c, .int .i64 d] 39))
  have hq5 := BoxC.new (w6.alloc (.cells #[.int .i64 a, .int .i64 b] 39)) 39 #[.int .i64 c, .int .i64 d]
  rw [World.size_alloc] at hq5
  have HQ6 := hide (HQ3.out.below hb9)
  clear HQ3
  have HB9 := hide (HB.out.trans (hb9.mono HB.out.size))
  clear HB
  have HB := HB9
  clear HB9
  clear hb9
  go_upto_region 5 with fail
  generalize w6.heap.size = B6 at *
  generalize (w6.alloc (.cells #[.int .i64 a, .int .i64 b] 39)).alloc (.cells #[.int .i64 c, .int .i64 d] 39) = w7 at *
  have v0 : w7.cell? ⟨w.heap.size, 0, none⟩ = some (.int .i64 a) := (HP1.out.below HB.out).cell 0
  have v1 : w7.cell? ⟨w.heap.size, 1, none⟩ = some (.int .i64 b) := (HP1.out.below HB.out).cell 1
  have v2 : w7.cell? ⟨w.heap.size + 1, 0, none⟩ = some (.int .i64 c) := (HP2.out.below HB.out).cell 0
  have v3 : w7.cell? ⟨w.heap.size + 1, 1, none⟩ = some (.int .i64 d) := (HP2.out.below HB.out).cell 1
  have u0 := HQ6.out.cell 0
  have u1 := HQ6.out.cell 1
  have t0 := HQ4.out.cell 0
  have t1 := HQ4.out.cell 1
  have r0 := hq5.cell 0
  have r1 := hq5.cell 1
  simp only [List.getElem?_toArray, List.getElem?_cons_zero, List.getElem?_cons_succ] at u0 u1 t0 t1 r0 r1
  go_wp2
  go_ret
  refine ⟨?_, HB1.out.trans (HB.out.mono HB1.out.size)⟩
  trace_state
  simp

end Go.Proofs.YtacgocfgcoejpaaDoor

namespace Go.Proofs.YtacgocfgcoejpaaDoor
set_option linter.unusedVariables false
set_option linter.unusedSimpArgs false
set_option maxRecDepth 100000
open Go Go.RowKit Go.Shelf Go.Lib Go.ChangeShapes Go.WideShapes

theorem own : ownKnob Tryd.prog.godebug = none := by kernel_rfl
theorem laidOut : laidOutB Tryd.prog = true := by kernel_rfl
theorem cellsU8 : Tryd.prog.cellsOf 5 = 1 := by kernel_rfl
theorem cellsInt : Tryd.prog.cellsOf 3 = 1 := by kernel_rfl
theorem cellsStr : Tryd.prog.cellsOf 9 = 1 := by kernel_rfl
theorem cellsFirst : Tryd.prog.cellsOf 126 = 256 := by kernel_rfl
theorem cellsRange : Tryd.prog.cellsOf 128 = 2 := by kernel_rfl
theorem globFirst : Tryd.prog.globalNamed "unicode/utf8.first" = some 0 := by kernel_rfl
theorem globAccept : Tryd.prog.globalNamed "unicode/utf8.acceptRanges" = some 1 := by kernel_rfl
theorem typeFirst : (Tryd.prog.globals[0]?).map (·.type) = some 126 := by kernel_rfl
theorem typeAccept : (Tryd.prog.globals[1]?).map (·.type) = some 129 := by kernel_rfl
/-- What the rows list of the variables. -/
def laidA : List (String × DataW Unit) := [("unicode/utf8.acceptRanges", Rows.laid_unicode_utf8_acceptRanges), ("unicode/utf8.first", Rows.laid_unicode_utf8_first)]
def laidB : List (String × DataW Unit) := [("math/bits.deBruijn32tab", Rows.laid_math_bits_deBruijn32tab), ("math/bits.deBruijn64tab", Rows.laid_math_bits_deBruijn64tab), ("internal/strconv.uint64pow10", Rows.laid_internal_strconv_uint64pow10), ("unicode/utf8.acceptRanges", Rows.laid_unicode_utf8_acceptRanges), ("unicode/utf8.first", Rows.laid_unicode_utf8_first)]
theorem laidFirst : (Rows.laid_unicode_utf8_first : DataW Unit) = firstData := by kernel_rfl
theorem laidAccept : (Rows.laid_unicode_utf8_acceptRanges : DataW Unit) = acceptData := by kernel_rfl

theorem tabs_of_reads {W : World} (h3 : VarReads Tryd.prog W "unicode/utf8.first" firstData) (h4 : VarReads Tryd.prog W "unicode/utf8.acceptRanges" acceptData) : Utf8Tabs 0 1 W := by
  refine ⟨fun c hc => ?_, fun i hi => ?_⟩
  · obtain ⟨g, t, cs, fuel, p, hg, hty, hvar, hd⟩ := h3
    obtain rfl := Option.some.inj (globFirst.symm.trans hg)
    obtain rfl := Option.some.inj (typeFirst.symm.trans hty)
    have hcs := cells_of_tab Tryd.underlying126 Tryd.underlying5 cellsU8 cellsFirst hd
    rw [World.var?_cell hg hvar c, ← Array.getElem?_toList, hcs]
    simp [firstTab, hc]
  · obtain ⟨g, t, cs, fuel, p, hg, hty, hvar, hd⟩ := h4
    obtain rfl := Option.some.inj (globAccept.symm.trans hg)
    obtain rfl := Option.some.inj (typeAccept.symm.trans hty)
    obtain ⟨fuel', d, q, hdi, he⟩ := array_elem Tryd.underlying129 hd i hi
    simp only [List.getElem?_map, List.getElem?_range hi, Option.map_some, Option.some.injEq] at hdi
    subst hdi
    rw [cellsRange] at he
    have hcs := ints_of_struct Tryd.underlying128 (fun j f hj => by
      match j, hj with
      | 0, hj => simp at hj; subst hj; exact ⟨Tryd.underlying5, rfl, cellsU8⟩
      | 1, hj => simp at hj; subst hj; exact ⟨Tryd.underlying5, rfl, cellsU8⟩
      | j + 2, hj => simp at hj) (by rw [cellsRange]; rfl) he
    have e0 := congrArg (·[0]?) hcs
    have e1 := congrArg (·[1]?) hcs
    simp only [List.getElem?_take, List.getElem?_drop] at e0 e1
    constructor
    · rw [World.var?_cell hg hvar (2 * i), ← Array.getElem?_toList]
      simpa [Nat.mul_comm] using e0
    · rw [World.var?_cell hg hvar (2 * i + 1), ← Array.getElem?_toList]
      simpa [Nat.mul_comm] using e1

theorem tabs_inA {W : World} (hL : laidMetH Tryd.prog laidA W) : Utf8Tabs 0 1 W := by
  rw [MakeChecks.laidMetH_plain _ _ _ (by kernel_rfl)] at hL
  have h3 : VarReads Tryd.prog W "unicode/utf8.first" firstData := by rw [← laidFirst]; exact laidMet.reads (l := laidA) hL (by simp [laidA])
  have h4 : VarReads Tryd.prog W "unicode/utf8.acceptRanges" acceptData := by rw [← laidAccept]; exact laidMet.reads (l := laidA) hL (by simp [laidA])
  exact tabs_of_reads h3 h4
theorem tabs_inB {W : World} (hL : laidMetH Tryd.prog laidB W) : Utf8Tabs 0 1 W := by
  rw [MakeChecks.laidMetH_plain _ _ _ (by kernel_rfl)] at hL
  have h3 : VarReads Tryd.prog W "unicode/utf8.first" firstData := by rw [← laidFirst]; exact laidMet.reads (l := laidB) hL (by simp [laidB])
  have h4 : VarReads Tryd.prog W "unicode/utf8.acceptRanges" acceptData := by rw [← laidAccept]; exact laidMet.reads (l := laidB) hL (by simp [laidB])
  exact tabs_of_reads h3 h4

/-- A row's wrap that keeps both what is laid and the world's shape. -/
theorem handed_and_shaped {H : Type} {enc : TypeId × Value → H} {a : Assume} {C : Checked} {os : Os} {f : FuncId} {fn : Func} {s : ChangeSpec} {conds : List PathCond} {apart fresh handsOn again : Bool} {X : World → Array Value → Prop}
    (hX : ∀ (w w' : World) (args : Array Value), w.heap = w'.heap → X w args → X w' args)
    (own : ownKnob C.prog.godebug = none) (started : os.Started) (noInit : C.prog.inits.idxOf? f = none) (hfn : C.prog.funcs[f]? = some fn)
    (witness : ∃ (w : World) (tape : Tape) (i : Input), w.os = os ∧ (w.forCall tape i).Shaped C.prog ∧ i.vars = [] ∧ Input.okWide C.prog (w.forCall tape i) .any w.heap.size f i ∧
      ((s.pre enc C.prog fn conds apart (w.forCall tape i).memory i.args ∧ X (w.forCall tape i).memory i.args) ∧ sizedMet enc C.prog fn (OpenSpec.ofChange s) apart (w.forCall tape i).memory i.args) ∧ a.holds C.prog (lone (Frame.enter C.prog f i.args .normal) [] (w.forCall tape i)))
    (contract : ∀ (W : World) (base : Nat) (args : Array Value) (ds gs : List (DataW H)) (before : List MemPlace),
      (∀ (j : Nat) t v, fn.params[j]? = some t → args[j]? = some v → Value.okWide C.prog W .any base t v) →
      DataW.Whole enc C.prog fn.params.toList s.vars apart W args.toList ds gs before →
      conds.all (PathCond.test C.prog ⟨fn.params.toList, ds, s.plain.varTypes C.prog, gs⟩) = true →
      (DataW.weightsEach C.prog (fn.params.toList ++ s.plain.varTypes C.prog) (ds ++ gs)).all (· ≤ reachBytes) = true → X W args → W.ShapedOpen C.prog →
      a.holds C.prog (lone (Frame.enter C.prog f args .normal) [] W) →
      Calls C.prog f args W fun e W' => ∃ v, e = .returned v ∧ s.post enc C.prog fn apart fresh handsOn again W args v W') :
    ReturnsInHanded a C os f .any (fun w args => (s.pre enc C.prog fn conds apart w args ∧ X w args) ∧ sizedMet enc C.prog fn (OpenSpec.ofChange s) apart w args) (s.post enc C.prog fn apart fresh handsOn again) := by
  refine returnsInHanded_of_calls own started noInit witness ?_
  intro w tape i _ hsh _ hok hpre hholds
  obtain ⟨_, _, _, fn', hfn', _, _, _, _, hval⟩ := hok
  have e : fn' = fn := Option.some.inj (hfn'.symm.trans hfn)
  subst e
  obtain ⟨⟨⟨ds, gs, before, hw, hc⟩, hx⟩, hz⟩ := hpre
  have hw' := DataW.Whole.of_heap (w' := w.forCall tape i) (by rfl) hw
  refine (contract (w.forCall tape i) w.heap.size i.args ds gs before hval hw' hc (hz.weights hw) (hX _ _ _ (by rfl) hx) hsh hholds).mono fun e W' ⟨v, he, hp⟩ => ?_
  subst he
  exact ChangeSpec.post_blind hp

/-- Strings that came in. -/
theorem strs_in {H : Type} {enc : TypeId × Value → H} {W : World} {base : Nat} {v : Value} {d : DataW H} {ps : List MemPlace}
    (hval : Value.okWide Tryd.prog W .any base 22 v) (h : DataW.Trod enc Tryd.prog W 0 (fun _ => true) true 22 v d ps) : ∃ ao cap K, v = .slice ao K.length cap ∧ StrsIn W (.slice ao K.length cap) K := by
  obtain ⟨a0, len0, cap0, rfl⟩ := okWide_slice Tryd.underlying22 hval
  obtain ⟨fuel, hf⟩ := h
  rcases Deep.open_strs Tryd.underlying22 Tryd.underlying9 cellsStr hf with ⟨hcs, _⟩ | ⟨a, l, c, m, Sx, hcs, _, hl, hm, hmm, _, hx⟩
  · simp [Value.cells] at hcs
    obtain ⟨rfl, rfl, rfl⟩ := hcs
    exact ⟨none, 0, [], rfl, ⟨none, 0, rfl, fun j hj => by simp at hj⟩⟩
  · simp [Value.cells] at hcs
    obtain ⟨rfl, rfl, rfl⟩ := hcs
    have hlen : ((List.range len0).map Sx).length = len0 := by simp
    refine ⟨some a, cap0, (List.range len0).map Sx, by rw [hlen], ⟨some a, cap0, by rw [hlen], fun j hj => ?_⟩⟩
    rw [hlen] at hj
    have hc := (hx j (by rw [hmm]; simp; omega)).1
    have hc0 := (hx 0 (by rw [hmm]; simp; omega)).1
    obtain ⟨b, off, spot⟩ := a
    have hspot : spot = none := by simpa [Addr.add] using World.cell?_spot hc0
    subst hspot
    rw [addr_plus] at hc
    refine ⟨b, off, rfl, ?_⟩
    rw [hc]
    simp [nthS, hj]

end Go.Proofs.YtacgocfgcoejpaaDoor

namespace Go.Proofs.YtacgocfgcoejpaaDoor
set_option linter.unusedVariables false
set_option linter.unusedSimpArgs false
set_option maxRecDepth 100000
open Go Go.RowKit Go.Shelf Go.Lib Go.ChangeShapes Go.WideShapes

theorem cellsU64 : Tryd.prog.cellsOf 36 = 1 := by kernel_rfl
theorem cellsPow : Tryd.prog.cellsOf 155 = 20 := by kernel_rfl
theorem globPow : Tryd.prog.globalNamed "internal/strconv.uint64pow10" = some 5 := by kernel_rfl
theorem typePow : (Tryd.prog.globals[5]?).map (·.type) = some 155 := by kernel_rfl
theorem globSyn : Tryd.prog.globalNamed "strconv.ErrSyntax" = some 3 := by kernel_rfl
theorem typeSyn : (Tryd.prog.globals[3]?).map (·.type) = some 116 := by kernel_rfl
theorem cellsErrE : Tryd.prog.cellsOf 164 = 1 := by kernel_rfl
theorem starErr : "*" ++ "errors.errorString" = "*errors.errorString" := by decide
theorem rowErr (u : TypeId) (h : Tryd.prog.typeName? 3 u = some "*errors.errorString") : u = 162 :=
  typeName_ptr_named (nm := "errors.errorString") (by rw [starErr]; kernel_rfl) (by kernel_rfl) (by decide) u (by rw [starErr]; exact h)

/-- What the row lists of the variables. -/
def laidC : List (String × DataW Unit) := [("math/bits.deBruijn32tab", Rows.laid_math_bits_deBruijn32tab), ("math/bits.deBruijn64tab", Rows.laid_math_bits_deBruijn64tab), ("internal/strconv.uint64pow10", Rows.laid_internal_strconv_uint64pow10), ("unicode/utf8.acceptRanges", Rows.laid_unicode_utf8_acceptRanges), ("strconv.ErrRange", Rows.laid_strconv_ErrRange), ("strconv.ErrSyntax", Rows.laid_strconv_ErrSyntax), ("unicode/utf8.first", Rows.laid_unicode_utf8_first)]
theorem laidPow : (Rows.laid_internal_strconv_uint64pow10 : DataW Unit) = tabData .u64 pow10Tab := by rfl
theorem tabs_inC {W : World} (hL : laidMetH Tryd.prog laidC W) : Utf8Tabs 0 1 W := by
  rw [MakeChecks.laidMetH_plain _ _ _ (by kernel_rfl)] at hL
  have h3 : VarReads Tryd.prog W "unicode/utf8.first" firstData := by rw [← laidFirst]; exact laidMet.reads (l := laidC) hL (by simp [laidC])
  have h4 : VarReads Tryd.prog W "unicode/utf8.acceptRanges" acceptData := by rw [← laidAccept]; exact laidMet.reads (l := laidC) hL (by simp [laidC])
  exact tabs_of_reads h3 h4
theorem pow_inC {W : World} (hL : laidMetH Tryd.prog laidC W) : Pow W := by
  rw [MakeChecks.laidMetH_plain _ _ _ (by kernel_rfl)] at hL
  have h3 : VarReads Tryd.prog W "internal/strconv.uint64pow10" (tabData .u64 pow10Tab) := by rw [← laidPow]; exact laidMet.reads (l := laidC) hL (by simp [laidC])
  obtain ⟨g, t, cs, fuel, p, hg, ht, hv, hd⟩ := h3
  obtain rfl := Option.some.inj (globPow.symm.trans hg)
  obtain rfl := Option.some.inj (typePow.symm.trans ht)
  unfold Pow TabIs
  rw [hv, ← cells_of_tab Tryd.underlying155 Tryd.underlying36 cellsU64 cellsPow hd]
theorem err_inC {W : World} (hL : laidMetH Tryd.prog laidC W) : ErrS W := by
  rw [MakeChecks.laidMetH_plain _ _ _ (by kernel_rfl)] at hL
  have h5 := laidMet.tail (laidMet.tail (laidMet.tail (laidMet.tail (laidMet.tail hL))))
  obtain ⟨a, s, hv, _⟩ := laid_sentinel h5 globSyn typeSyn Tryd.underlying116 rowErr Tryd.underlying162 Tryd.underlying164 rfl rfl Tryd.underlying9 cellsErrE cellsStr
  have h0 := World.var?_cell globSyn hv 0
  exact ⟨.iface 162 (.pointer (some a)), by simpa using h0, .inr ⟨_, _, rfl⟩⟩

end Go.Proofs.YtacgocfgcoejpaaDoor

namespace Go.Proofs.YtacgocfgcoejpaaDoor
set_option linter.unusedVariables false
set_option linter.unusedSimpArgs false
set_option maxRecDepth 100000
open Go Go.RowKit Go.Shelf Go.Lib Go.ChangeShapes Go.WideShapes Go.ChangeAt

theorem cellsPos : Tryd.prog.cellsOf 39 = 2 := by kernel_rfl
theorem wf64 {x : Int} (h : (Lit.int .i64 x).wf = true) : -9223372036854775808 ≤ x ∧ x ≤ 9223372036854775807 := by
  simp [Lit.wf, IntKind.min, IntKind.max, IntKind.signed, IntKind.bits] at h
  omega
theorem pos_part {H : Type} {enc : TypeId × Value → H} {W : World} {fuel : Nat} {c0 c1 : Value} {x : DataW H × List MemPlace}
    (hf : DataW.trod enc Tryd.prog W 0 (fun _ => true) true fuel 39 [c0, c1] = some x) : ∃ f t : Int, c0 = .int .i64 f ∧ c1 = .int .i64 t ∧ (-9223372036854775808 ≤ f ∧ f ≤ 9223372036854775807) ∧ (-9223372036854775808 ≤ t ∧ t ≤ 9223372036854775807) := by
  obtain ⟨z0, z1, m', _, _, hz0, hz1⟩ := trod_struct2 Tryd.underlying39 hf
  simp [Value.cells, cellsInt] at hz0 hz1
  obtain ⟨f, e3, _, w3⟩ := DataW.trod_int Tryd.underlying3 hz0
  obtain ⟨t, e4, _, w4⟩ := DataW.trod_int Tryd.underlying3 hz1
  simp at e3 e4
  subst e3 e4
  exact ⟨f, t, rfl, rfl, wf64 w3, wf64 w4⟩

theorem pos_in {H : Type} {enc : TypeId × Value → H} {W : World} {base : Nat} {v : Value} {d : DataW H} {ps : List MemPlace}
    (hval : Value.okWide Tryd.prog W .any base 39 v) (h : DataW.Trod enc Tryd.prog W 0 (fun _ => true) true 39 v d ps) : ∃ f t : Int, v = .agg #[.int .i64 f, .int .i64 t] ∧ t ≤ 9223372036854775807 := by
  obtain ⟨cs, rfl, hcl⟩ := okWide_struct Tryd.underlying39 hval
  rw [cellsPos] at hcl
  obtain ⟨l⟩ := cs
  match l, hcl with
  | [c0, c1], _ =>
    obtain ⟨fuel, hf⟩ := h
    obtain ⟨f, t, rfl, rfl, _, h2⟩ := pos_part (by simpa [Value.cells] using hf)
    exact ⟨f, t, rfl, h2.2⟩

end Go.Proofs.YtacgocfgcoejpaaDoor
