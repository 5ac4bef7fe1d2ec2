/- Texts of json and rpc, part 3: RMk2, RMk3, RMk4, RMk5, RRowM, RRead, RpcBackW, QRd0, QRd1, QRd2, QRd3. -/
import Derived.Test.YtbdpmpepmjpadaaGreatDoorLnP2
import Derived.Lib.SmallJoins
namespace Go.Proofs.YtbdpmpepmjpadaaGreatDoor
set_option linter.unusedVariables false
set_option linter.unusedSimpArgs false
set_option maxRecDepth 100000
open Go Go.RowKit Go.Shelf Go.Lib

def meanT (n : Int) : ByteArray := if n = -32700 then ⟨#[112, 97, 114, 115, 101, 32, 101, 114, 114, 111, 114]⟩ else if n = -32600 then ⟨#[105, 110, 118, 97, 108, 105, 100, 32, 114, 101, 113, 117, 101, 115, 116]⟩ else if n = -32601 then ⟨#[117, 110, 107, 110, 111, 119, 110, 32, 109, 101, 116, 104, 111, 100]⟩ else if n = -32602 then ⟨#[105, 110, 118, 97, 108, 105, 100, 32, 112, 97, 114, 97, 109, 101, 116, 101, 114, 115]⟩ else if n = -32002 then ⟨#[110, 111, 116, 32, 105, 110, 105, 116, 105, 97, 108, 105, 122, 101, 100]⟩ else ⟨#[101, 114, 114, 111, 114]⟩
set_option maxHeartbeats 4000000 in
theorem meaning_any (w : World) (n : Int) : Calls Tryz.prog 39 #[.int .i64 n] w fun e w' => e = .returned (.string (meanT n)) ∧ Below w.heap.size w w' := by
  by_cases h0 : n = -32700
  · subst h0
    go_enter Tryz.func39, Tryz.ntmps39
    go_wp2
    go_ret
    exact ⟨rfl, Below.refl _ _⟩
  have e0 : (n == -32700) = false := by simpa using h0
  by_cases h1 : n = -32600
  · subst h1
    go_enter Tryz.func39, Tryz.ntmps39
    go_wp2
    go_ret
    exact ⟨rfl, Below.refl _ _⟩
  have e1 : (n == -32600) = false := by simpa using h1
  by_cases h2 : n = -32601
  · subst h2
    go_enter Tryz.func39, Tryz.ntmps39
    go_wp2
    go_ret
    exact ⟨rfl, Below.refl _ _⟩
  have e2 : (n == -32601) = false := by simpa using h2
  by_cases h3 : n = -32602
  · subst h3
    go_enter Tryz.func39, Tryz.ntmps39
    go_wp2
    go_ret
    exact ⟨rfl, Below.refl _ _⟩
  have e3 : (n == -32602) = false := by simpa using h3
  by_cases h4 : n = -32002
  · subst h4
    go_enter Tryz.func39, Tryz.ntmps39
    go_wp2
    go_ret
    exact ⟨rfl, Below.refl _ _⟩
  have e4 : (n == -32002) = false := by simpa using h4
  have HM : Hid (meanT n = ⟨#[101, 114, 114, 111, 114]⟩) := by
    unfold Hid meanT
    rw [if_neg h0, if_neg h1, if_neg h2, if_neg h3, if_neg h4]
  clear h0 h1 h2 h3 h4
  go_enter Tryz.func39, Tryz.ntmps39
  go_wp2
  go_ret
  exact ⟨by rw [HM.out]; rfl, Below.refl _ _⟩

set_option maxHeartbeats 4000000 in
theorem rmeaning_any (w : World) (n : Int) : Calls Tryz.prog 43 #[.int .i64 n] w fun e w' => e = .returned (.string (meanT n)) ∧ Below w.heap.size w w' := by
  by_cases h0 : n = -32700
  · subst h0
    go_enter Tryz.func43, Tryz.ntmps43
    go_wp2
    go_ret
    exact ⟨rfl, Below.refl _ _⟩
  have e0 : (n == -32700) = false := by simpa using h0
  by_cases h1 : n = -32600
  · subst h1
    go_enter Tryz.func43, Tryz.ntmps43
    go_wp2
    go_ret
    exact ⟨rfl, Below.refl _ _⟩
  have e1 : (n == -32600) = false := by simpa using h1
  by_cases h2 : n = -32601
  · subst h2
    go_enter Tryz.func43, Tryz.ntmps43
    go_wp2
    go_ret
    exact ⟨rfl, Below.refl _ _⟩
  have e2 : (n == -32601) = false := by simpa using h2
  by_cases h3 : n = -32602
  · subst h3
    go_enter Tryz.func43, Tryz.ntmps43
    go_wp2
    go_ret
    exact ⟨rfl, Below.refl _ _⟩
  have e3 : (n == -32602) = false := by simpa using h3
  by_cases h4 : n = -32002
  · subst h4
    go_enter Tryz.func43, Tryz.ntmps43
    go_wp2
    go_ret
    exact ⟨rfl, Below.refl _ _⟩
  have e4 : (n == -32002) = false := by simpa using h4
  have HM : Hid (meanT n = ⟨#[101, 114, 114, 111, 114]⟩) := by
    unfold Hid meanT
    rw [if_neg h0, if_neg h1, if_neg h2, if_neg h3, if_neg h4]
  clear h0 h1 h2 h3 h4
  go_enter Tryz.func43, Tryz.ntmps43
  go_wp2
  go_ret
  exact ⟨by rw [HM.out]; rfl, Below.refl _ _⟩

theorem itoa_len64 {n : Int} (h1 : -9223372036854775808 ≤ n) (h2 : n ≤ 9223372036854775807) : (itoaT n).length ≤ 20 := by
  rw [itoaT_eq]
  have hp : (10 : Nat) ^ (18 + 1) = 10000000000000000000 := by decide
  split
  · have := digs_length 18 n.natAbs (by omega)
    simp
    omega
  · have := digs_length 18 n.toNat (by omega)
    omega
theorem numT_lt {n : Int} (h1 : -9223372036854775808 ≤ n) (h2 : n ≤ 9223372036854775807) : LtT (numT n) := .mk 3 _ [] [] (by simp) (by simp) (fun _ => by rw [strOf_size]; have := itoa_len64 h1 h2; omega) (fun i hi => by simp at hi)
def errT (n : Int) : JT := .mk 6 ⟨#[]⟩ [qCode, qMsg] [numT n, textT (meanT n)]
theorem errT_lt {n : Int} (h1 : -9223372036854775808 ≤ n) (h2 : n ≤ 9223372036854775807) : LtT (errT n) := .mk 6 _ _ _ (by simp) (by simp) (by decide) (fun i hi => by
  match i, hi with
  | 0, _ => exact numT_lt h1 h2
  | 1, _ => exact text_lt _)
theorem clJ_err (n : Int) : clJ (errT n) = errT n := by
  unfold errT textT
  rw [clJ_eq]
  simp [sP, kP, lP, clJs, clJ_num, clJ_text]
set_option maxHeartbeats 2000000 in
theorem ofn_wide (w : World) (n : Int) (h1 : -9223372036854775808 ≤ n) (h2 : n ≤ 9223372036854775807) (hP : Pow w) :
    Calls Tryz.prog 37 #[.int .i64 n] w (OfNR n w) := by
  have hb := bel w (.cells jv0 27)
  have hx := BoxC.new w 27 jv0
  have HI := hide (Tryz.strconv_Itoa n (by omega) (by omega) (w.alloc (.cells jv0 27)) (hP.below hb))
  unfold jv0 at hb hx HI
  rw [itoa_str] at HI
  generalize hw0 : w.alloc (.cells #[.int .i64 0, .string ⟨#[]⟩, .slice none 0 0, .slice none 0 0] 27) = w0 at *
  generalize hs : strOf (itoaT n) = s at *
  have HS := hide hs
  have HX := hide hx
  have HB := hide hb
  have HW := hide hw0
  clear hx hb hw0 hs h1 h2 hP
  go_enter Tryz.func37, Tryz.ntmps37
  go_wp2_with fail
  rw [HW.out]
  clear HW
  refine HI.out.mono ?_
  rintro e w1 ⟨rfl, k, os, hw⟩
  have hb1 : Below w0.heap.size w0 w1 := by rw [hw]; exact below_grow _ _ (Nat.le_refl _) _ _
  have HX1 := hide (HX.out.below hb1)
  have HB1 := hide (HB.out.trans (hb1.mono HB.out.size))
  have x0 : w1.cell? ⟨w.heap.size, 0, none⟩ = some (.int .i64 0) := HX1.out.cell 0
  have x1 : w1.cell? ⟨w.heap.size, 1, none⟩ = some (.string ⟨#[]⟩) := HX1.out.cell 1
  have x2 : w1.cell? ⟨w.heap.size, 2, none⟩ = some (.slice none 0 0) := HX1.out.cell 2
  have x3 : w1.cell? ⟨w.heap.size, 3, none⟩ = some (.slice none 0 0) := HX1.out.cell 3
  have y0 := HX1.out.frozen 0
  have y1 := HX1.out.frozen 1
  have y2 := HX1.out.frozen 2
  have y3 := HX1.out.frozen 3
  have lX := HX1.out.lt
  clear hw hb1 HI
  go_wp2
  refine bodyPost_ret (results_jv rfl rfl (resJ_v HX1.out (.int .i64 3) (.string s) (.slice none 0 0) (.slice none 0 0))) rfl ?_
  exact ⟨by rw [HS.out]; rfl, (((HB1.out.setCell (p := ⟨w.heap.size, 0, none⟩) (Nat.le_refl _) _).setCell (p := ⟨w.heap.size, 1, none⟩) (Nat.le_refl _) _).setCell (p := ⟨w.heap.size, 2, none⟩) (Nat.le_refl _) _).setCell (p := ⟨w.heap.size, 3, none⟩) (Nat.le_refl _) _⟩

set_option maxHeartbeats 32000000 in
theorem error_any (w : World) {S : Nat → Prop} (n : Int) (h1 : -9223372036854775808 ≤ n) (h2 : n ≤ 9223372036854775807) {x : JC} {A : JT} (hx : TIn w S x A) (ha : LtT A) (hP : Pow w) :
    Calls Tryz.prog 14 #[.agg #[.int .i64 n, .int .i64 x.1, .string x.2.1, x.2.2.1, x.2.2.2]] w (NewT (msgT qId qErr (clJ A) (errT n)) w) := by
  obtain ⟨hx2, hx3⟩ := hx.sl
  obtain ⟨xk, xs, xv, xw⟩ := x
  obtain ⟨xa, xn, xc, rfl⟩ := hx2
  obtain ⟨xd, xe, xf, rfl⟩ := hx3
  have hb : Below w.heap.size w ((w.alloc (.cells #[.int .i64 n, .int .i64 xk, .string xs, .slice xa xn xc, .slice xd xe xf] 31)).alloc (.cells #[.int .i64 0, .string ⟨#[]⟩, .slice none 0 0, .slice none 0 0] 27)) := ((bel w _).alloc (by simp) _)
  have hz0 := ((BoxC.new w 31 #[.int .i64 n, .int .i64 xk, .string xs, .slice xa xn xc, .slice xd xe xf]).alloc (.cells #[.int .i64 0, .string ⟨#[]⟩, .slice none 0 0, .slice none 0 0] 27))
  have hz1 := (BoxC.new (w.alloc (.cells #[.int .i64 n, .int .i64 xk, .string xs, .slice xa xn xc, .slice xd xe xf] 31)) 27 #[.int .i64 0, .string ⟨#[]⟩, .slice none 0 0, .slice none 0 0])
  rw [World.size_alloc] at hz1
  generalize hw0 : (w.alloc (.cells #[.int .i64 n, .int .i64 xk, .string xs, .slice xa xn xc, .slice xd xe xf] 31)).alloc (.cells #[.int .i64 0, .string ⟨#[]⟩, .slice none 0 0, .slice none 0 0] 27) = w0 at *
  simp only
  have HOF := hide (fun W (hW : Below w0.heap.size w0 W) => ofn_wide W n h1 h2 ((hP.below hb).below hW))
  have HME := hide (fun W => meaning_any W n)
  have HMA : Hid (∀ W B, BoxC W B 85 (pair5 qCode (nC (strOf (itoaT n))) ++ pair5 qMsg (4, meanT n, .slice none 0 0, .slice none 0 0)).toArray → Calls Tryz.prog 36 #[.slice (some ⟨B, 0, none⟩) 2 2] W (NewT (errT n) W)) := fun W B hB => by
    refine (made_any W (fun _ => True) _ _ _ _ (pairs_two hB (num_in W _ n) (flat_in W (fun _ => True) (x := (4, meanT n, .slice none 0 0, .slice none 0 0)) ⟨rfl, rfl⟩) (numT_lt h1 h2) (text_lt _)) (by simp)).mono ?_
    rintro e w' ⟨y, rfl, h1, h2⟩
    refine ⟨y, rfl, h1, ?_⟩
    rw [List.map_cons, List.map_cons, List.map_nil, clJ_num, clJ_text] at h2
    exact h2
  have HMS : Hid (∀ (W : World) {p : JC}, TIn W S (xk, xs, .slice xa xn xc, .slice xd xe xf) A → TIn W (fun _ => True) p (errT n) → Calls Tryz.prog 35 #[.agg (pair5 qId (xk, xs, .slice xa xn xc, .slice xd xe xf)).toArray, .agg (pair5 qErr p).toArray] W (NewT (msgT qId qErr (clJ A) (errT n)) W)) := fun W p h1' h2' => by
    have h := message_any W qId qErr (S := fun _ => True) (h1'.keep fun b _ _ => ⟨trivial, rfl⟩) h2' ha (errT_lt h1 h2)
    rw [clJ_err] at h
    exact h
  unfold OfNR nC vagg at HOF
  unfold nC pair5 qCode qMsg at HMA
  unfold pair5 qId qErr at HMS
  simp only [List.cons_append, List.nil_append] at HOF HMA HMS
  generalize hsn : strOf (itoaT n) = sn at HOF HMA
  generalize hsm : meanT n = sm at HME HMA
  clear hsn hsm
  have HS : Hid (∀ X0 : World, Below w0.heap.size w0 X0 → (X0.cell? ⟨w.heap.size, 0, none⟩ = some (.int .i64 n) ∧ X0.cell? ⟨w.heap.size, 1, none⟩ = some (.int .i64 xk) ∧ X0.cell? ⟨w.heap.size, 2, none⟩ = some (.string xs) ∧ X0.cell? ⟨w.heap.size, 3, none⟩ = some (.slice xa xn xc) ∧ X0.cell? ⟨w.heap.size, 4, none⟩ = some (.slice xd xe xf))) := fun X0 h => ⟨(hz0.below h).cell 0, (hz0.below h).cell 1, (hz0.below h).cell 2, (hz0.below h).cell 3, (hz0.below h).cell 4⟩
  have HW0 := hide hw0
  have HP0 := hide hz0
  have HQ := hide hz1
  have HB1 := hide hb
  have HX0 := hide (hx.bel hb)
  clear hw0 hz0 hz1 hb ha hx hP h1 h2
  go_enter Tryz.func14, Tryz.ntmps14
  go_upto_region 1 with fail
  rw [HW0.out]
  clear HW0
  refine wp_region_held_drew (S := fun X0 : World => X0.cell? ⟨w.heap.size, 0, none⟩ = some (.int .i64 n) ∧ X0.cell? ⟨w.heap.size, 1, none⟩ = some (.int .i64 xk) ∧ X0.cell? ⟨w.heap.size, 2, none⟩ = some (.string xs) ∧ X0.cell? ⟨w.heap.size, 3, none⟩ = some (.slice xa xn xc) ∧ X0.cell? ⟨w.heap.size, 4, none⟩ = some (.slice xd xe xf)) (by kernel_rfl) (HS.out _ (Below.refl _ _).drew) (fun hHeld => ?_)
  have HB : Hid (Below w0.heap.size w0 w0.drew) := (Below.refl _ _).drew
  generalize w0.drew = wd at *
  refine takeD (i := 0) (v := ?v8) (some 4) rfl (by kernel_rfl) (by kernel_rfl) (by kernel_rfl) (fun _ _ _ h => h) (Or.inl ⟨by rfl, ?hy8⟩) (HS.out _ HB.out) (by rfl) ?rest8
  case hy8 => first | (intro w hSw; (try dsimp only at hSw); obtain ⟨s0, s1, s2, s3, s4⟩ := hSw; go_simp; done) | (intro w hSw; (try dsimp only at hSw); obtain ⟨s0, s1, s2, s3, s4⟩ := hSw; go_simp; with_reducible rfl)
  try simp only [Act.put, List.setIfInBounds_toArray, List.set_cons_zero, List.set_cons_succ, vagg]
  refine takeD (i := 1) (v := ?v9) (some 5) rfl (by kernel_rfl) (by kernel_rfl) (by kernel_rfl) (fun _ _ _ h => h) (Or.inl ⟨by rfl, ?hy9⟩) (HS.out _ HB.out) (by rfl) ?rest9
  case hy9 => first | (intro w hSw; (try dsimp only at hSw); obtain ⟨s0, s1, s2, s3, s4⟩ := hSw; go_simp; done) | (intro w hSw; (try dsimp only at hSw); obtain ⟨s0, s1, s2, s3, s4⟩ := hSw; go_simp; with_reducible rfl)
  try simp only [Act.put, List.setIfInBounds_toArray, List.set_cons_zero, List.set_cons_succ, vagg]
  refine takeD (i := 4) (v := ?v10) (some 8) rfl (by kernel_rfl) (by kernel_rfl) (by kernel_rfl) (fun _ _ _ h => h) (Or.inl ⟨by rfl, ?hy10⟩) (HS.out _ HB.out) (by rfl) ?rest10
  case hy10 => first | (intro w hSw; (try dsimp only at hSw); obtain ⟨s0, s1, s2, s3, s4⟩ := hSw; go_simp; done) | (intro w hSw; (try dsimp only at hSw); obtain ⟨s0, s1, s2, s3, s4⟩ := hSw; go_simp; with_reducible rfl)
  try simp only [Act.put, List.setIfInBounds_toArray, List.set_cons_zero, List.set_cons_succ, vagg]
  refine takeD (i := 5) (v := ?v11) (some 9) rfl (by kernel_rfl) (by kernel_rfl) (by kernel_rfl) (fun _ _ _ h => h) (Or.inl ⟨by rfl, ?hy11⟩) (HS.out _ HB.out) (by rfl) ?rest11
  case hy11 => first | (intro w hSw; (try dsimp only at hSw); obtain ⟨s0, s1, s2, s3, s4⟩ := hSw; go_simp; done) | (intro w hSw; (try dsimp only at hSw); obtain ⟨s0, s1, s2, s3, s4⟩ := hSw; go_simp; with_reducible rfl)
  try simp only [Act.put, List.setIfInBounds_toArray, List.set_cons_zero, List.set_cons_succ, vagg]
  refine wpAnyH_ready (rs := [2, 11]) (by kernel_rfl) (by simp) ?_
  refine AllReadyH.cons rfl (fun K9 hK => ?_) (AllReadyH.cons rfl (fun K9 hK => ?_) AllReadyH.nil)
  · go_simp
    have hcall := HOF.out wd HB.out
    try unfold vagg at hcall
    try simp only at hcall
    refine hcall.mono ?_
    rintro e w1 ⟨rfl, hb9⟩
    have HB9 := hide (HB.out.trans (hb9.mono HB.out.size))
    clear hcall HB
    have HB := HB9
    clear HB9
    refine hK.out _ _ (HS.out _ HB.out) (fun _ => ?_)
    clear hK K9 hb9
    try simp only [Act.put, List.setIfInBounds_toArray, List.set_cons_zero, List.set_cons_succ, vagg]
    refine takeD (i := 3) (v := ?v12) (some 7) rfl (by kernel_rfl) (by kernel_rfl) (by kernel_rfl) (fun _ _ _ h => h) (Or.inl ⟨by rfl, ?hy12⟩) (HS.out _ HB.out) (by rfl) ?rest12
    case hy12 => first | (intro w hSw; (try dsimp only at hSw); obtain ⟨s0, s1, s2, s3, s4⟩ := hSw; go_simp; done) | (intro w hSw; (try dsimp only at hSw); obtain ⟨s0, s1, s2, s3, s4⟩ := hSw; go_simp; with_reducible rfl)
    try simp only [Act.put, List.setIfInBounds_toArray, List.set_cons_zero, List.set_cons_succ, vagg]
    refine wpAnyH_ready (rs := [6, 11]) (by kernel_rfl) (by simp) ?_
    refine AllReadyH.cons rfl (fun K9 hK => ?_) (AllReadyH.cons rfl (fun K9 hK => ?_) AllReadyH.nil)
    · go_simp
      have hcall := HME.out w1
      try unfold vagg at hcall
      try simp only at hcall
      refine hcall.mono ?_
      rintro e w2 ⟨rfl, hb9⟩
      have HB9 := hide (HB.out.trans (hb9.mono HB.out.size))
      clear hcall HB
      have HB := HB9
      clear HB9
      refine hK.out _ _ (HS.out _ HB.out) (fun _ => ?_)
      clear hK K9 hb9
      try simp only [Act.put, List.setIfInBounds_toArray, List.set_cons_zero, List.set_cons_succ, vagg]
      refine wpAnyH_ready (rs := [7, 11]) (by kernel_rfl) (by simp) ?_
      refine AllReadyH.cons rfl (fun K9 hK => ?_) (AllReadyH.cons rfl (fun K9 hK => ?_) AllReadyH.nil)
      · go_simp
        have hcall := text_calls w2 sm
        try unfold vagg at hcall
        try simp only at hcall
        refine hcall.mono ?_
        rintro e w3 ⟨rfl, hb9⟩
        have HB9 := hide (HB.out.trans (hb9.mono HB.out.size))
        clear hcall HB
        have HB := HB9
        clear HB9
        refine hK.out _ _ (HS.out _ HB.out) (fun _ => ?_)
        clear hK K9 hb9
        try simp only [Act.put, List.setIfInBounds_toArray, List.set_cons_zero, List.set_cons_succ, vagg]
        refine takeD (i := 8) (v := ?v13) (some 12) rfl (by kernel_rfl) (by kernel_rfl) (by kernel_rfl) (fun _ _ _ h => h) (Or.inl ⟨by rfl, ?hy13⟩) (HS.out _ HB.out) (by rfl) ?rest13
        case hy13 => first | (intro w hSw; (try dsimp only at hSw); obtain ⟨s0, s1, s2, s3, s4⟩ := hSw; go_simp; done) | (intro w hSw; (try dsimp only at hSw); obtain ⟨s0, s1, s2, s3, s4⟩ := hSw; go_simp; with_reducible rfl)
        try simp only [Act.put, List.setIfInBounds_toArray, List.set_cons_zero, List.set_cons_succ, vagg]
        refine wpAnyH_ready (rs := [9, 11]) (by kernel_rfl) (by simp) ?_
        refine AllReadyH.cons rfl (fun K9 hK => ?_) (AllReadyH.cons rfl (fun K9 hK => ?_) AllReadyH.nil)
        · go_simp
          have hb9 := bel w3 (.cells #[.string ⟨#[99, 111, 100, 101]⟩, .int .i64 3, .string sn, .slice none 0 0, .slice none 0 0, .string ⟨#[109, 101, 115, 115, 97, 103, 101]⟩, .int .i64 4, .string sm, .slice none 0 0, .slice none 0 0] 85)
          have hbx := BoxC.new w3 85 #[.string ⟨#[99, 111, 100, 101]⟩, .int .i64 3, .string sn, .slice none 0 0, .slice none 0 0, .string ⟨#[109, 101, 115, 115, 97, 103, 101]⟩, .int .i64 4, .string sm, .slice none 0 0, .slice none 0 0]
          have HB9 := hide (HB.out.trans (hb9.mono HB.out.size))
          refine hK.out _ _ (HS.out _ HB9.out) (fun _ => ?_)
          clear hK K9 hb9 HB
          try simp only [Act.put, List.setIfInBounds_toArray, List.set_cons_zero, List.set_cons_succ, vagg]
          generalize w3.heap.size = B2 at *
          generalize w3.alloc (.cells #[.string ⟨#[99, 111, 100, 101]⟩, .int .i64 3, .string sn, .slice none 0 0, .slice none 0 0, .string ⟨#[109, 101, 115, 115, 97, 103, 101]⟩, .int .i64 4, .string sm, .slice none 0 0, .slice none 0 0] 85) = w4 at *
          have HB := HB9
          clear HB9
          have HBX := hide hbx
          clear hbx
          refine wpAnyH_ready (rs := [10, 11]) (by kernel_rfl) (by simp) ?_
          refine AllReadyH.cons rfl (fun K9 hK => ?_) (AllReadyH.cons rfl (fun K9 hK => ?_) AllReadyH.nil)
          · go_simp
            have hcall := HMA.out w4 B2 HBX.out
            try unfold vagg at hcall
            try simp only at hcall
            refine hcall.mono ?_
            rintro e w5 ⟨⟨pk, ps, pK, pL⟩, rfl, hb9, hT⟩
            have HB9 := hide (HB.out.trans (hb9.mono HB.out.size))
            obtain ⟨h4, h5⟩ := hT.sl
            simp only at h4 h5
            obtain ⟨pa, pn, pc, rfl⟩ := h4
            obtain ⟨pd, pe, pf, rfl⟩ := h5
            have HT := hide hT
            clear hT
            clear hcall HB
            have HB := HB9
            clear HB9
            refine hK.out _ _ (HS.out _ HB.out) (fun _ => ?_)
            clear hK K9 hb9
            try simp only [Act.put, List.setIfInBounds_toArray, List.set_cons_zero, List.set_cons_succ, vagg]
            have HWM := hide (rfl : w4 = w4)
            refine wpAnyH_ready (rs := [11]) (by kernel_rfl) (by simp) ?_
            refine AllReadyH.cons rfl (fun K9 hK => ?_) AllReadyH.nil
            go_simp
            have hb9 := bel w5 (.cells #[.int .i64 0, .string ⟨#[]⟩, .slice none 0 0, .slice none 0 0] 27)
            have hbz := BoxC.new w5 27 #[.int .i64 0, .string ⟨#[]⟩, .slice none 0 0, .slice none 0 0]
            have HB9 := hide (HB.out.trans (hb9.mono HB.out.size))
            have HN := hide (HB.out.size)
            have HT9 := hide (HT.out.keep (W' := w5.alloc (.cells #[.int .i64 0, .string ⟨#[]⟩, .slice none 0 0, .slice none 0 0] 27)) (S' := fun b => b < w5.heap.size) (fun b _ hlt => ⟨hlt, hb9.block b hlt⟩))
            refine hK.out _ _ (HS.out _ HB9.out) (fun _ => ?_)
            clear hK K9 hb9 HB HT
            try simp only [Act.put, List.setIfInBounds_toArray, List.set_cons_zero, List.set_cons_succ, vagg]
            generalize w5.heap.size = B7 at *
            generalize w5.alloc (.cells #[.int .i64 0, .string ⟨#[]⟩, .slice none 0 0, .slice none 0 0] 27) = w6 at *
            have HB := HB9
            have HZ := hide hbz
            clear HB9 hbz
            have HT := HT9
            clear HT9
            have z0 := HZ.out.cell 0
            have z1 := HZ.out.cell 1
            have z2 := HZ.out.cell 2
            have z3 := HZ.out.cell 3
            simp only [List.getElem?_toArray, List.getElem?_cons_zero, List.getElem?_cons_succ] at z0 z1 z2 z3
            have y0 := HZ.out.frozen 0
            have y1 := HZ.out.frozen 1
            have y2 := HZ.out.frozen 2
            have y3 := HZ.out.frozen 3
            have lX := HZ.out.lt
            have HZF := hide (resJ_v HZ.out (.int .i64 pk) (.string ps) (.slice pa pn pc) (.slice pd pe pf))
            have HBF : Hid (Below w0.heap.size w0 ((((w6.setCell ⟨B7, 0, none⟩ (.int .i64 pk)).setCell ⟨B7, 1, none⟩ (.string ps)).setCell ⟨B7, 2, none⟩ (.slice pa pn pc)).setCell ⟨B7, 3, none⟩ (.slice pd pe pf))) := below4 HB.out HN.out (.int .i64 pk) (.string ps) (.slice pa pn pc) (.slice pd pe pf)
            have HTF : Hid (TIn ((((w6.setCell ⟨B7, 0, none⟩ (.int .i64 pk)).setCell ⟨B7, 1, none⟩ (.string ps)).setCell ⟨B7, 2, none⟩ (.slice pa pn pc)).setCell ⟨B7, 3, none⟩ (.slice pd pe pf)) (fun _ => True) (pk, ps, .slice pa pn pc, .slice pd pe pf) (errT n)) := hide (HT.out.keep fun b hs hlt => by
              have hne : b ≠ B7 := by first | (have hq := HL.out; have hs' : _ ≤ b := hs; omega) | (have hs' : b < B7 := hs; omega)
              refine ⟨trivial, ?_⟩
              rw [Below.heap_setCell _ ⟨B7, 3, none⟩ _ b hne, Below.heap_setCell _ ⟨B7, 2, none⟩ _ b hne, Below.heap_setCell _ ⟨B7, 1, none⟩ _ b hne, Below.heap_setCell _ ⟨B7, 0, none⟩ _ b hne])
            clear HT HB
            refine wpAnyH_ready (rs := [12]) (by kernel_rfl) (by simp) ?_
            refine AllReadyH.cons rfl (fun K9 hK => ?_) AllReadyH.nil
            go_simp
            refine hK.out _ _ (HS.out _ HBF.out) (fun _ => ?_)
            clear hK K9 z0 z1 z2 z3 y0 y1 y2 y3 lX HZ
            try simp only [Act.put, List.setIfInBounds_toArray, List.set_cons_zero, List.set_cons_succ, vagg]
            refine wpAnyH_done (by kernel_rfl) ?_ _
            go_upto_region 2 with fail
            generalize ((((w6.setCell ⟨B7, 0, none⟩ (.int .i64 pk)).setCell ⟨B7, 1, none⟩ (.string ps)).setCell ⟨B7, 2, none⟩ (.slice pa pn pc)).setCell ⟨B7, 3, none⟩ (.slice pd pe pf)) = wS at *
            clear hHeld
            have HB := HBF
            clear HBF
            obtain ⟨u0, u1, u2, u3, u4⟩ := HS.out _ HB.out
            have v0 := HZF.out.cell 0
            have v1 := HZF.out.cell 1
            have v2 := HZF.out.cell 2
            have v3 := HZF.out.cell 3
            simp only [List.getElem?_toArray, List.getElem?_cons_zero, List.getElem?_cons_succ] at v0 v1 v2 v3
            have HX := hide (HX0.out.bel HB.out)
            have HTG := hide (HTF.out.keep (S' := fun _ => True) (fun b _ _ => ⟨trivial, rfl⟩))
            go_wp2_with fail
            refine (HMS.out wS HX.out HTG.out).mono ?_
            rintro e w4 ⟨⟨qk, qs, qK, qL⟩, rfl, hb9, hT⟩
            obtain ⟨h4, h5⟩ := hT.sl
            simp only at h4 h5
            obtain ⟨qa, qn, qc, rfl⟩ := h4
            obtain ⟨qd, qe, qf, rfl⟩ := h5
            simp only [vagg]
            have HT := hide hT
            have HL2 := hide (show w.heap.size + 1 < wS.heap.size from (HQ.out.below HB.out).lt)
            have HB9 := hide (HB.out.trans (hb9.mono HB.out.size))
            clear hT hb9 HB HMS u0 u1 u2 u3 u4 v0 v1 v2 v3
            have HB := HB9
            clear HB9
            have hq4 := HQ.out.below HB.out
            have z0 := hq4.cell 0
            have z1 := hq4.cell 1
            have z2 := hq4.cell 2
            have z3 := hq4.cell 3
            simp only [List.getElem?_toArray, List.getElem?_cons_zero, List.getElem?_cons_succ] at z0 z1 z2 z3
            have y0 := hq4.frozen 0
            have y1 := hq4.frozen 1
            have y2 := hq4.frozen 2
            have y3 := hq4.frozen 3
            have lX := hq4.lt
            have HQ4 := hide hq4
            have HBF : Hid (Below w0.heap.size w0 w4) := HB.out
            clear hq4
            go_wp2
            refine bodyPost_ret (results_jv rfl rfl (resJ_v HQ4.out (.int .i64 qk) (.string qs) (.slice qa qn qc) (.slice qd qe qf))) rfl ?_
            refine ⟨(qk, qs, .slice qa qn qc, .slice qd qe qf), rfl, below4 (HB1.out.trans (HBF.out.mono HB1.out.size)) (by omega) _ _ _ _, HT.out.keep fun b hs _ => ?_⟩
            have hs' : wS.heap.size ≤ b := hs
            have hl := HL2.out
            refine ⟨by show w.heap.size ≤ b; omega, ?_⟩
            have hne : b ≠ w.heap.size + 1 := by omega
            rw [Below.heap_setCell _ ⟨w.heap.size + 1, 3, none⟩ _ b hne, Below.heap_setCell _ ⟨w.heap.size + 1, 2, none⟩ _ b hne, Below.heap_setCell _ ⟨w.heap.size + 1, 1, none⟩ _ b hne, Below.heap_setCell _ ⟨w.heap.size + 1, 0, none⟩ _ b hne]
          · go_simp
            have hb9 := bel w4 (.cells #[.int .i64 0, .string ⟨#[]⟩, .slice none 0 0, .slice none 0 0] 27)
            have hbz := BoxC.new w4 27 #[.int .i64 0, .string ⟨#[]⟩, .slice none 0 0, .slice none 0 0]
            have HB9 := hide (HB.out.trans (hb9.mono HB.out.size))
            have HN := hide (HB.out.size)
            have HBX9 := hide (HBX.out.below hb9)
            refine hK.out _ _ (HS.out _ HB9.out) (fun _ => ?_)
            clear hK K9 hb9 HB HBX
            try simp only [Act.put, List.setIfInBounds_toArray, List.set_cons_zero, List.set_cons_succ, vagg]
            generalize w4.heap.size = B9 at *
            generalize w4.alloc (.cells #[.int .i64 0, .string ⟨#[]⟩, .slice none 0 0, .slice none 0 0] 27) = w8 at *
            have HB := HB9
            have HZ := hide hbz
            clear HB9 hbz
            have HBX := HBX9
            clear HBX9
            refine wpAnyH_ready (rs := [10]) (by kernel_rfl) (by simp) ?_
            refine AllReadyH.cons rfl (fun K9 hK => ?_) AllReadyH.nil
            go_simp
            have hcall := HMA.out w8 B2 HBX.out
            try unfold vagg at hcall
            try simp only at hcall
            refine hcall.mono ?_
            rintro e w10 ⟨⟨pk, ps, pK, pL⟩, rfl, hb9, hT⟩
            have HB9 := hide (HB.out.trans (hb9.mono HB.out.size))
            have HZ9 := hide (HZ.out.below hb9)
            obtain ⟨h4, h5⟩ := hT.sl
            simp only at h4 h5
            obtain ⟨pa, pn, pc, rfl⟩ := h4
            obtain ⟨pd, pe, pf, rfl⟩ := h5
            have HT := hide hT
            clear hT
            have HL := hide (show B9 < w8.heap.size from HZ.out.lt)
            clear hcall HB HZ
            have HB := HB9
            clear HB9
            have HZ := HZ9
            clear HZ9
            refine hK.out _ _ (HS.out _ HB.out) (fun _ => ?_)
            clear hK K9 hb9
            try simp only [Act.put, List.setIfInBounds_toArray, List.set_cons_zero, List.set_cons_succ, vagg]
            have HWM := hide (rfl : w8 = w8)
            have z0 := HZ.out.cell 0
            have z1 := HZ.out.cell 1
            have z2 := HZ.out.cell 2
            have z3 := HZ.out.cell 3
            simp only [List.getElem?_toArray, List.getElem?_cons_zero, List.getElem?_cons_succ] at z0 z1 z2 z3
            have y0 := HZ.out.frozen 0
            have y1 := HZ.out.frozen 1
            have y2 := HZ.out.frozen 2
            have y3 := HZ.out.frozen 3
            have lX := HZ.out.lt
            have HZF := hide (resJ_v HZ.out (.int .i64 pk) (.string ps) (.slice pa pn pc) (.slice pd pe pf))
            have HBF : Hid (Below w0.heap.size w0 ((((w10.setCell ⟨B9, 0, none⟩ (.int .i64 pk)).setCell ⟨B9, 1, none⟩ (.string ps)).setCell ⟨B9, 2, none⟩ (.slice pa pn pc)).setCell ⟨B9, 3, none⟩ (.slice pd pe pf))) := below4 HB.out HN.out (.int .i64 pk) (.string ps) (.slice pa pn pc) (.slice pd pe pf)
            have HTF : Hid (TIn ((((w10.setCell ⟨B9, 0, none⟩ (.int .i64 pk)).setCell ⟨B9, 1, none⟩ (.string ps)).setCell ⟨B9, 2, none⟩ (.slice pa pn pc)).setCell ⟨B9, 3, none⟩ (.slice pd pe pf)) (fun _ => True) (pk, ps, .slice pa pn pc, .slice pd pe pf) (errT n)) := hide (HT.out.keep fun b hs hlt => by
              have hne : b ≠ B9 := by first | (have hq := HL.out; have hs' : _ ≤ b := hs; omega) | (have hs' : b < B9 := hs; omega)
              refine ⟨trivial, ?_⟩
              rw [Below.heap_setCell _ ⟨B9, 3, none⟩ _ b hne, Below.heap_setCell _ ⟨B9, 2, none⟩ _ b hne, Below.heap_setCell _ ⟨B9, 1, none⟩ _ b hne, Below.heap_setCell _ ⟨B9, 0, none⟩ _ b hne])
            clear HT HB
            refine wpAnyH_ready (rs := [12]) (by kernel_rfl) (by simp) ?_
            refine AllReadyH.cons rfl (fun K9 hK => ?_) AllReadyH.nil
            go_simp
            refine hK.out _ _ (HS.out _ HBF.out) (fun _ => ?_)
            clear hK K9 z0 z1 z2 z3 y0 y1 y2 y3 lX HZ
            try simp only [Act.put, List.setIfInBounds_toArray, List.set_cons_zero, List.set_cons_succ, vagg]
            refine wpAnyH_done (by kernel_rfl) ?_ _
            go_upto_region 2 with fail
            generalize ((((w10.setCell ⟨B9, 0, none⟩ (.int .i64 pk)).setCell ⟨B9, 1, none⟩ (.string ps)).setCell ⟨B9, 2, none⟩ (.slice pa pn pc)).setCell ⟨B9, 3, none⟩ (.slice pd pe pf)) = wS at *
            clear hHeld
            have HB := HBF
            clear HBF
            obtain ⟨u0, u1, u2, u3, u4⟩ := HS.out _ HB.out
            have v0 := HZF.out.cell 0
            have v1 := HZF.out.cell 1
            have v2 := HZF.out.cell 2
            have v3 := HZF.out.cell 3
            simp only [List.getElem?_toArray, List.getElem?_cons_zero, List.getElem?_cons_succ] at v0 v1 v2 v3
            have HX := hide (HX0.out.bel HB.out)
            have HTG := hide (HTF.out.keep (S' := fun _ => True) (fun b _ _ => ⟨trivial, rfl⟩))
            go_wp2_with fail
            refine (HMS.out wS HX.out HTG.out).mono ?_
            rintro e w4 ⟨⟨qk, qs, qK, qL⟩, rfl, hb9, hT⟩
            obtain ⟨h4, h5⟩ := hT.sl
            simp only at h4 h5
            obtain ⟨qa, qn, qc, rfl⟩ := h4
            obtain ⟨qd, qe, qf, rfl⟩ := h5
            simp only [vagg]
            have HT := hide hT
            have HL2 := hide (show w.heap.size + 1 < wS.heap.size from (HQ.out.below HB.out).lt)
            have HB9 := hide (HB.out.trans (hb9.mono HB.out.size))
            clear hT hb9 HB HMS u0 u1 u2 u3 u4 v0 v1 v2 v3
            have HB := HB9
            clear HB9
            have hq4 := HQ.out.below HB.out
            have z0 := hq4.cell 0
            have z1 := hq4.cell 1
            have z2 := hq4.cell 2
            have z3 := hq4.cell 3
            simp only [List.getElem?_toArray, List.getElem?_cons_zero, List.getElem?_cons_succ] at z0 z1 z2 z3
            have y0 := hq4.frozen 0
            have y1 := hq4.frozen 1
            have y2 := hq4.frozen 2
            have y3 := hq4.frozen 3
            have lX := hq4.lt
            have HQ4 := hide hq4
            have HBF : Hid (Below w0.heap.size w0 w4) := HB.out
            clear hq4
            go_wp2
            refine bodyPost_ret (results_jv rfl rfl (resJ_v HQ4.out (.int .i64 qk) (.string qs) (.slice qa qn qc) (.slice qd qe qf))) rfl ?_
            refine ⟨(qk, qs, .slice qa qn qc, .slice qd qe qf), rfl, below4 (HB1.out.trans (HBF.out.mono HB1.out.size)) (by omega) _ _ _ _, HT.out.keep fun b hs _ => ?_⟩
            have hs' : wS.heap.size ≤ b := hs
            have hl := HL2.out
            refine ⟨by show w.heap.size ≤ b; omega, ?_⟩
            have hne : b ≠ w.heap.size + 1 := by omega
            rw [Below.heap_setCell _ ⟨w.heap.size + 1, 3, none⟩ _ b hne, Below.heap_setCell _ ⟨w.heap.size + 1, 2, none⟩ _ b hne, Below.heap_setCell _ ⟨w.heap.size + 1, 1, none⟩ _ b hne, Below.heap_setCell _ ⟨w.heap.size + 1, 0, none⟩ _ b hne]
        · go_simp
          have hb9 := bel w3 (.cells #[.int .i64 0, .string ⟨#[]⟩, .slice none 0 0, .slice none 0 0] 27)
          have hbz := BoxC.new w3 27 #[.int .i64 0, .string ⟨#[]⟩, .slice none 0 0, .slice none 0 0]
          have HB9 := hide (HB.out.trans (hb9.mono HB.out.size))
          have HN := hide (HB.out.size)
          refine hK.out _ _ (HS.out _ HB9.out) (fun _ => ?_)
          clear hK K9 hb9 HB
          try simp only [Act.put, List.setIfInBounds_toArray, List.set_cons_zero, List.set_cons_succ, vagg]
          generalize w3.heap.size = B12 at *
          generalize w3.alloc (.cells #[.int .i64 0, .string ⟨#[]⟩, .slice none 0 0, .slice none 0 0] 27) = w11 at *
          have HB := HB9
          have HZ := hide hbz
          clear HB9 hbz
          refine wpAnyH_ready (rs := [9]) (by kernel_rfl) (by simp) ?_
          refine AllReadyH.cons rfl (fun K9 hK => ?_) AllReadyH.nil
          go_simp
          have hb9 := bel w11 (.cells #[.string ⟨#[99, 111, 100, 101]⟩, .int .i64 3, .string sn, .slice none 0 0, .slice none 0 0, .string ⟨#[109, 101, 115, 115, 97, 103, 101]⟩, .int .i64 4, .string sm, .slice none 0 0, .slice none 0 0] 85)
          have hbx := BoxC.new w11 85 #[.string ⟨#[99, 111, 100, 101]⟩, .int .i64 3, .string sn, .slice none 0 0, .slice none 0 0, .string ⟨#[109, 101, 115, 115, 97, 103, 101]⟩, .int .i64 4, .string sm, .slice none 0 0, .slice none 0 0]
          have HB9 := hide (HB.out.trans (hb9.mono HB.out.size))
          have HZ9 := hide (HZ.out.below hb9)
          refine hK.out _ _ (HS.out _ HB9.out) (fun _ => ?_)
          clear hK K9 hb9 HB HZ
          try simp only [Act.put, List.setIfInBounds_toArray, List.set_cons_zero, List.set_cons_succ, vagg]
          generalize w11.heap.size = B2 at *
          generalize w11.alloc (.cells #[.string ⟨#[99, 111, 100, 101]⟩, .int .i64 3, .string sn, .slice none 0 0, .slice none 0 0, .string ⟨#[109, 101, 115, 115, 97, 103, 101]⟩, .int .i64 4, .string sm, .slice none 0 0, .slice none 0 0] 85) = w13 at *
          have HB := HB9
          clear HB9
          have HBX := hide hbx
          clear hbx
          have HZ := HZ9
          clear HZ9
          refine wpAnyH_ready (rs := [10]) (by kernel_rfl) (by simp) ?_
          refine AllReadyH.cons rfl (fun K9 hK => ?_) AllReadyH.nil
          go_simp
          have hcall := HMA.out w13 B2 HBX.out
          try unfold vagg at hcall
          try simp only at hcall
          refine hcall.mono ?_
          rintro e w14 ⟨⟨pk, ps, pK, pL⟩, rfl, hb9, hT⟩
          have HB9 := hide (HB.out.trans (hb9.mono HB.out.size))
          have HZ9 := hide (HZ.out.below hb9)
          obtain ⟨h4, h5⟩ := hT.sl
          simp only at h4 h5
          obtain ⟨pa, pn, pc, rfl⟩ := h4
          obtain ⟨pd, pe, pf, rfl⟩ := h5
          have HT := hide hT
          clear hT
          have HL := hide (show B12 < w13.heap.size from HZ.out.lt)
          clear hcall HB HZ
          have HB := HB9
          clear HB9
          have HZ := HZ9
          clear HZ9
          refine hK.out _ _ (HS.out _ HB.out) (fun _ => ?_)
          clear hK K9 hb9
          try simp only [Act.put, List.setIfInBounds_toArray, List.set_cons_zero, List.set_cons_succ, vagg]
          have HWM := hide (rfl : w13 = w13)
          have z0 := HZ.out.cell 0
          have z1 := HZ.out.cell 1
          have z2 := HZ.out.cell 2
          have z3 := HZ.out.cell 3
          simp only [List.getElem?_toArray, List.getElem?_cons_zero, List.getElem?_cons_succ] at z0 z1 z2 z3
          have y0 := HZ.out.frozen 0
          have y1 := HZ.out.frozen 1
          have y2 := HZ.out.frozen 2
          have y3 := HZ.out.frozen 3
          have lX := HZ.out.lt
          have HZF := hide (resJ_v HZ.out (.int .i64 pk) (.string ps) (.slice pa pn pc) (.slice pd pe pf))
          have HBF : Hid (Below w0.heap.size w0 ((((w14.setCell ⟨B12, 0, none⟩ (.int .i64 pk)).setCell ⟨B12, 1, none⟩ (.string ps)).setCell ⟨B12, 2, none⟩ (.slice pa pn pc)).setCell ⟨B12, 3, none⟩ (.slice pd pe pf))) := below4 HB.out HN.out (.int .i64 pk) (.string ps) (.slice pa pn pc) (.slice pd pe pf)
          have HTF : Hid (TIn ((((w14.setCell ⟨B12, 0, none⟩ (.int .i64 pk)).setCell ⟨B12, 1, none⟩ (.string ps)).setCell ⟨B12, 2, none⟩ (.slice pa pn pc)).setCell ⟨B12, 3, none⟩ (.slice pd pe pf)) (fun _ => True) (pk, ps, .slice pa pn pc, .slice pd pe pf) (errT n)) := hide (HT.out.keep fun b hs hlt => by
            have hne : b ≠ B12 := by first | (have hq := HL.out; have hs' : _ ≤ b := hs; omega) | (have hs' : b < B12 := hs; omega)
            refine ⟨trivial, ?_⟩
            rw [Below.heap_setCell _ ⟨B12, 3, none⟩ _ b hne, Below.heap_setCell _ ⟨B12, 2, none⟩ _ b hne, Below.heap_setCell _ ⟨B12, 1, none⟩ _ b hne, Below.heap_setCell _ ⟨B12, 0, none⟩ _ b hne])
          clear HT HB
          refine wpAnyH_ready (rs := [12]) (by kernel_rfl) (by simp) ?_
          refine AllReadyH.cons rfl (fun K9 hK => ?_) AllReadyH.nil
          go_simp
          refine hK.out _ _ (HS.out _ HBF.out) (fun _ => ?_)
          clear hK K9 z0 z1 z2 z3 y0 y1 y2 y3 lX HZ
          try simp only [Act.put, List.setIfInBounds_toArray, List.set_cons_zero, List.set_cons_succ, vagg]
          refine wpAnyH_done (by kernel_rfl) ?_ _
          go_upto_region 2 with fail
          generalize ((((w14.setCell ⟨B12, 0, none⟩ (.int .i64 pk)).setCell ⟨B12, 1, none⟩ (.string ps)).setCell ⟨B12, 2, none⟩ (.slice pa pn pc)).setCell ⟨B12, 3, none⟩ (.slice pd pe pf)) = wS at *
          clear hHeld
          have HB := HBF
          clear HBF
          obtain ⟨u0, u1, u2, u3, u4⟩ := HS.out _ HB.out
          have v0 := HZF.out.cell 0
          have v1 := HZF.out.cell 1
          have v2 := HZF.out.cell 2
          have v3 := HZF.out.cell 3
          simp only [List.getElem?_toArray, List.getElem?_cons_zero, List.getElem?_cons_succ] at v0 v1 v2 v3
          have HX := hide (HX0.out.bel HB.out)
          have HTG := hide (HTF.out.keep (S' := fun _ => True) (fun b _ _ => ⟨trivial, rfl⟩))
          go_wp2_with fail
          refine (HMS.out wS HX.out HTG.out).mono ?_
          rintro e w4 ⟨⟨qk, qs, qK, qL⟩, rfl, hb9, hT⟩
          obtain ⟨h4, h5⟩ := hT.sl
          simp only at h4 h5
          obtain ⟨qa, qn, qc, rfl⟩ := h4
          obtain ⟨qd, qe, qf, rfl⟩ := h5
          simp only [vagg]
          have HT := hide hT
          have HL2 := hide (show w.heap.size + 1 < wS.heap.size from (HQ.out.below HB.out).lt)
          have HB9 := hide (HB.out.trans (hb9.mono HB.out.size))
          clear hT hb9 HB HMS u0 u1 u2 u3 u4 v0 v1 v2 v3
          have HB := HB9
          clear HB9
          have hq4 := HQ.out.below HB.out
          have z0 := hq4.cell 0
          have z1 := hq4.cell 1
          have z2 := hq4.cell 2
          have z3 := hq4.cell 3
          simp only [List.getElem?_toArray, List.getElem?_cons_zero, List.getElem?_cons_succ] at z0 z1 z2 z3
          have y0 := hq4.frozen 0
          have y1 := hq4.frozen 1
          have y2 := hq4.frozen 2
          have y3 := hq4.frozen 3
          have lX := hq4.lt
          have HQ4 := hide hq4
          have HBF : Hid (Below w0.heap.size w0 w4) := HB.out
          clear hq4
          go_wp2
          refine bodyPost_ret (results_jv rfl rfl (resJ_v HQ4.out (.int .i64 qk) (.string qs) (.slice qa qn qc) (.slice qd qe qf))) rfl ?_
          refine ⟨(qk, qs, .slice qa qn qc, .slice qd qe qf), rfl, below4 (HB1.out.trans (HBF.out.mono HB1.out.size)) (by omega) _ _ _ _, HT.out.keep fun b hs _ => ?_⟩
          have hs' : wS.heap.size ≤ b := hs
          have hl := HL2.out
          refine ⟨by show w.heap.size ≤ b; omega, ?_⟩
          have hne : b ≠ w.heap.size + 1 := by omega
          rw [Below.heap_setCell _ ⟨w.heap.size + 1, 3, none⟩ _ b hne, Below.heap_setCell _ ⟨w.heap.size + 1, 2, none⟩ _ b hne, Below.heap_setCell _ ⟨w.heap.size + 1, 1, none⟩ _ b hne, Below.heap_setCell _ ⟨w.heap.size + 1, 0, none⟩ _ b hne]
      · go_simp
        have hb9 := bel w2 (.cells #[.int .i64 0, .string ⟨#[]⟩, .slice none 0 0, .slice none 0 0] 27)
        have hbz := BoxC.new w2 27 #[.int .i64 0, .string ⟨#[]⟩, .slice none 0 0, .slice none 0 0]
        have HB9 := hide (HB.out.trans (hb9.mono HB.out.size))
        have HN := hide (HB.out.size)
        refine hK.out _ _ (HS.out _ HB9.out) (fun _ => ?_)
        clear hK K9 hb9 HB
        try simp only [Act.put, List.setIfInBounds_toArray, List.set_cons_zero, List.set_cons_succ, vagg]
        generalize w2.heap.size = B16 at *
        generalize w2.alloc (.cells #[.int .i64 0, .string ⟨#[]⟩, .slice none 0 0, .slice none 0 0] 27) = w15 at *
        have HB := HB9
        have HZ := hide hbz
        clear HB9 hbz
        refine wpAnyH_ready (rs := [7]) (by kernel_rfl) (by simp) ?_
        refine AllReadyH.cons rfl (fun K9 hK => ?_) AllReadyH.nil
        go_simp
        have hcall := text_calls w15 sm
        try unfold vagg at hcall
        try simp only at hcall
        refine hcall.mono ?_
        rintro e w17 ⟨rfl, hb9⟩
        have HB9 := hide (HB.out.trans (hb9.mono HB.out.size))
        have HZ9 := hide (HZ.out.below hb9)
        clear hcall HB HZ
        have HB := HB9
        clear HB9
        have HZ := HZ9
        clear HZ9
        refine hK.out _ _ (HS.out _ HB.out) (fun _ => ?_)
        clear hK K9 hb9
        try simp only [Act.put, List.setIfInBounds_toArray, List.set_cons_zero, List.set_cons_succ, vagg]
        refine takeD (i := 8) (v := ?v14) (some 12) rfl (by kernel_rfl) (by kernel_rfl) (by kernel_rfl) (fun _ _ _ h => h) (Or.inl ⟨by rfl, ?hy14⟩) (HS.out _ HB.out) (by rfl) ?rest14
        case hy14 => first | (intro w hSw; (try dsimp only at hSw); obtain ⟨s0, s1, s2, s3, s4⟩ := hSw; go_simp; done) | (intro w hSw; (try dsimp only at hSw); obtain ⟨s0, s1, s2, s3, s4⟩ := hSw; go_simp; with_reducible rfl)
        try simp only [Act.put, List.setIfInBounds_toArray, List.set_cons_zero, List.set_cons_succ, vagg]
        refine wpAnyH_ready (rs := [9]) (by kernel_rfl) (by simp) ?_
        refine AllReadyH.cons rfl (fun K9 hK => ?_) AllReadyH.nil
        go_simp
        have hb9 := bel w17 (.cells #[.string ⟨#[99, 111, 100, 101]⟩, .int .i64 3, .string sn, .slice none 0 0, .slice none 0 0, .string ⟨#[109, 101, 115, 115, 97, 103, 101]⟩, .int .i64 4, .string sm, .slice none 0 0, .slice none 0 0] 85)
        have hbx := BoxC.new w17 85 #[.string ⟨#[99, 111, 100, 101]⟩, .int .i64 3, .string sn, .slice none 0 0, .slice none 0 0, .string ⟨#[109, 101, 115, 115, 97, 103, 101]⟩, .int .i64 4, .string sm, .slice none 0 0, .slice none 0 0]
        have HB9 := hide (HB.out.trans (hb9.mono HB.out.size))
        have HZ9 := hide (HZ.out.below hb9)
        refine hK.out _ _ (HS.out _ HB9.out) (fun _ => ?_)
        clear hK K9 hb9 HB HZ
        try simp only [Act.put, List.setIfInBounds_toArray, List.set_cons_zero, List.set_cons_succ, vagg]
        generalize w17.heap.size = B2 at *
        generalize w17.alloc (.cells #[.string ⟨#[99, 111, 100, 101]⟩, .int .i64 3, .string sn, .slice none 0 0, .slice none 0 0, .string ⟨#[109, 101, 115, 115, 97, 103, 101]⟩, .int .i64 4, .string sm, .slice none 0 0, .slice none 0 0] 85) = w18 at *
        have HB := HB9
        clear HB9
        have HBX := hide hbx
        clear hbx
        have HZ := HZ9
        clear HZ9
        refine wpAnyH_ready (rs := [10]) (by kernel_rfl) (by simp) ?_
        refine AllReadyH.cons rfl (fun K9 hK => ?_) AllReadyH.nil
        go_simp
        have hcall := HMA.out w18 B2 HBX.out
        try unfold vagg at hcall
        try simp only at hcall
        refine hcall.mono ?_
        rintro e w19 ⟨⟨pk, ps, pK, pL⟩, rfl, hb9, hT⟩
        have HB9 := hide (HB.out.trans (hb9.mono HB.out.size))
        have HZ9 := hide (HZ.out.below hb9)
        obtain ⟨h4, h5⟩ := hT.sl
        simp only at h4 h5
        obtain ⟨pa, pn, pc, rfl⟩ := h4
        obtain ⟨pd, pe, pf, rfl⟩ := h5
        have HT := hide hT
        clear hT
        have HL := hide (show B16 < w18.heap.size from HZ.out.lt)
        clear hcall HB HZ
        have HB := HB9
        clear HB9
        have HZ := HZ9
        clear HZ9
        refine hK.out _ _ (HS.out _ HB.out) (fun _ => ?_)
        clear hK K9 hb9
        try simp only [Act.put, List.setIfInBounds_toArray, List.set_cons_zero, List.set_cons_succ, vagg]
        have HWM := hide (rfl : w18 = w18)
        have z0 := HZ.out.cell 0
        have z1 := HZ.out.cell 1
        have z2 := HZ.out.cell 2
        have z3 := HZ.out.cell 3
        simp only [List.getElem?_toArray, List.getElem?_cons_zero, List.getElem?_cons_succ] at z0 z1 z2 z3
        have y0 := HZ.out.frozen 0
        have y1 := HZ.out.frozen 1
        have y2 := HZ.out.frozen 2
        have y3 := HZ.out.frozen 3
        have lX := HZ.out.lt
        have HZF := hide (resJ_v HZ.out (.int .i64 pk) (.string ps) (.slice pa pn pc) (.slice pd pe pf))
        have HBF : Hid (Below w0.heap.size w0 ((((w19.setCell ⟨B16, 0, none⟩ (.int .i64 pk)).setCell ⟨B16, 1, none⟩ (.string ps)).setCell ⟨B16, 2, none⟩ (.slice pa pn pc)).setCell ⟨B16, 3, none⟩ (.slice pd pe pf))) := below4 HB.out HN.out (.int .i64 pk) (.string ps) (.slice pa pn pc) (.slice pd pe pf)
        have HTF : Hid (TIn ((((w19.setCell ⟨B16, 0, none⟩ (.int .i64 pk)).setCell ⟨B16, 1, none⟩ (.string ps)).setCell ⟨B16, 2, none⟩ (.slice pa pn pc)).setCell ⟨B16, 3, none⟩ (.slice pd pe pf)) (fun _ => True) (pk, ps, .slice pa pn pc, .slice pd pe pf) (errT n)) := hide (HT.out.keep fun b hs hlt => by
          have hne : b ≠ B16 := by first | (have hq := HL.out; have hs' : _ ≤ b := hs; omega) | (have hs' : b < B16 := hs; omega)
          refine ⟨trivial, ?_⟩
          rw [Below.heap_setCell _ ⟨B16, 3, none⟩ _ b hne, Below.heap_setCell _ ⟨B16, 2, none⟩ _ b hne, Below.heap_setCell _ ⟨B16, 1, none⟩ _ b hne, Below.heap_setCell _ ⟨B16, 0, none⟩ _ b hne])
        clear HT HB
        refine wpAnyH_ready (rs := [12]) (by kernel_rfl) (by simp) ?_
        refine AllReadyH.cons rfl (fun K9 hK => ?_) AllReadyH.nil
        go_simp
        refine hK.out _ _ (HS.out _ HBF.out) (fun _ => ?_)
        clear hK K9 z0 z1 z2 z3 y0 y1 y2 y3 lX HZ
        try simp only [Act.put, List.setIfInBounds_toArray, List.set_cons_zero, List.set_cons_succ, vagg]
        refine wpAnyH_done (by kernel_rfl) ?_ _
        go_upto_region 2 with fail
        generalize ((((w19.setCell ⟨B16, 0, none⟩ (.int .i64 pk)).setCell ⟨B16, 1, none⟩ (.string ps)).setCell ⟨B16, 2, none⟩ (.slice pa pn pc)).setCell ⟨B16, 3, none⟩ (.slice pd pe pf)) = wS at *
        clear hHeld
        have HB := HBF
        clear HBF
        obtain ⟨u0, u1, u2, u3, u4⟩ := HS.out _ HB.out
        have v0 := HZF.out.cell 0
        have v1 := HZF.out.cell 1
        have v2 := HZF.out.cell 2
        have v3 := HZF.out.cell 3
        simp only [List.getElem?_toArray, List.getElem?_cons_zero, List.getElem?_cons_succ] at v0 v1 v2 v3
        have HX := hide (HX0.out.bel HB.out)
        have HTG := hide (HTF.out.keep (S' := fun _ => True) (fun b _ _ => ⟨trivial, rfl⟩))
        go_wp2_with fail
        refine (HMS.out wS HX.out HTG.out).mono ?_
        rintro e w4 ⟨⟨qk, qs, qK, qL⟩, rfl, hb9, hT⟩
        obtain ⟨h4, h5⟩ := hT.sl
        simp only at h4 h5
        obtain ⟨qa, qn, qc, rfl⟩ := h4
        obtain ⟨qd, qe, qf, rfl⟩ := h5
        simp only [vagg]
        have HT := hide hT
        have HL2 := hide (show w.heap.size + 1 < wS.heap.size from (HQ.out.below HB.out).lt)
        have HB9 := hide (HB.out.trans (hb9.mono HB.out.size))
        clear hT hb9 HB HMS u0 u1 u2 u3 u4 v0 v1 v2 v3
        have HB := HB9
        clear HB9
        have hq4 := HQ.out.below HB.out
        have z0 := hq4.cell 0
        have z1 := hq4.cell 1
        have z2 := hq4.cell 2
        have z3 := hq4.cell 3
        simp only [List.getElem?_toArray, List.getElem?_cons_zero, List.getElem?_cons_succ] at z0 z1 z2 z3
        have y0 := hq4.frozen 0
        have y1 := hq4.frozen 1
        have y2 := hq4.frozen 2
        have y3 := hq4.frozen 3
        have lX := hq4.lt
        have HQ4 := hide hq4
        have HBF : Hid (Below w0.heap.size w0 w4) := HB.out
        clear hq4
        go_wp2
        refine bodyPost_ret (results_jv rfl rfl (resJ_v HQ4.out (.int .i64 qk) (.string qs) (.slice qa qn qc) (.slice qd qe qf))) rfl ?_
        refine ⟨(qk, qs, .slice qa qn qc, .slice qd qe qf), rfl, below4 (HB1.out.trans (HBF.out.mono HB1.out.size)) (by omega) _ _ _ _, HT.out.keep fun b hs _ => ?_⟩
        have hs' : wS.heap.size ≤ b := hs
        have hl := HL2.out
        refine ⟨by show w.heap.size ≤ b; omega, ?_⟩
        have hne : b ≠ w.heap.size + 1 := by omega
        rw [Below.heap_setCell _ ⟨w.heap.size + 1, 3, none⟩ _ b hne, Below.heap_setCell _ ⟨w.heap.size + 1, 2, none⟩ _ b hne, Below.heap_setCell _ ⟨w.heap.size + 1, 1, none⟩ _ b hne, Below.heap_setCell _ ⟨w.heap.size + 1, 0, none⟩ _ b hne]
    · go_simp
      have hb9 := bel w1 (.cells #[.int .i64 0, .string ⟨#[]⟩, .slice none 0 0, .slice none 0 0] 27)
      have hbz := BoxC.new w1 27 #[.int .i64 0, .string ⟨#[]⟩, .slice none 0 0, .slice none 0 0]
      have HB9 := hide (HB.out.trans (hb9.mono HB.out.size))
      have HN := hide (HB.out.size)
      refine hK.out _ _ (HS.out _ HB9.out) (fun _ => ?_)
      clear hK K9 hb9 HB
      try simp only [Act.put, List.setIfInBounds_toArray, List.set_cons_zero, List.set_cons_succ, vagg]
      generalize w1.heap.size = B21 at *
      generalize w1.alloc (.cells #[.int .i64 0, .string ⟨#[]⟩, .slice none 0 0, .slice none 0 0] 27) = w20 at *
      have HB := HB9
      have HZ := hide hbz
      clear HB9 hbz
      refine wpAnyH_ready (rs := [6]) (by kernel_rfl) (by simp) ?_
      refine AllReadyH.cons rfl (fun K9 hK => ?_) AllReadyH.nil
      go_simp
      have hcall := HME.out w20
      try unfold vagg at hcall
      try simp only at hcall
      refine hcall.mono ?_
      rintro e w22 ⟨rfl, hb9⟩
      have HB9 := hide (HB.out.trans (hb9.mono HB.out.size))
      have HZ9 := hide (HZ.out.below hb9)
      clear hcall HB HZ
      have HB := HB9
      clear HB9
      have HZ := HZ9
      clear HZ9
      refine hK.out _ _ (HS.out _ HB.out) (fun _ => ?_)
      clear hK K9 hb9
      try simp only [Act.put, List.setIfInBounds_toArray, List.set_cons_zero, List.set_cons_succ, vagg]
      refine wpAnyH_ready (rs := [7]) (by kernel_rfl) (by simp) ?_
      refine AllReadyH.cons rfl (fun K9 hK => ?_) AllReadyH.nil
      go_simp
      have hcall := text_calls w22 sm
      try unfold vagg at hcall
      try simp only at hcall
      refine hcall.mono ?_
      rintro e w23 ⟨rfl, hb9⟩
      have HB9 := hide (HB.out.trans (hb9.mono HB.out.size))
      have HZ9 := hide (HZ.out.below hb9)
      clear hcall HB HZ
      have HB := HB9
      clear HB9
      have HZ := HZ9
      clear HZ9
      refine hK.out _ _ (HS.out _ HB.out) (fun _ => ?_)
      clear hK K9 hb9
      try simp only [Act.put, List.setIfInBounds_toArray, List.set_cons_zero, List.set_cons_succ, vagg]
      refine takeD (i := 8) (v := ?v15) (some 12) rfl (by kernel_rfl) (by kernel_rfl) (by kernel_rfl) (fun _ _ _ h => h) (Or.inl ⟨by rfl, ?hy15⟩) (HS.out _ HB.out) (by rfl) ?rest15
      case hy15 => first | (intro w hSw; (try dsimp only at hSw); obtain ⟨s0, s1, s2, s3, s4⟩ := hSw; go_simp; done) | (intro w hSw; (try dsimp only at hSw); obtain ⟨s0, s1, s2, s3, s4⟩ := hSw; go_simp; with_reducible rfl)
      try simp only [Act.put, List.setIfInBounds_toArray, List.set_cons_zero, List.set_cons_succ, vagg]
      refine wpAnyH_ready (rs := [9]) (by kernel_rfl) (by simp) ?_
      refine AllReadyH.cons rfl (fun K9 hK => ?_) AllReadyH.nil
      go_simp
      have hb9 := bel w23 (.cells #[.string ⟨#[99, 111, 100, 101]⟩, .int .i64 3, .string sn, .slice none 0 0, .slice none 0 0, .string ⟨#[109, 101, 115, 115, 97, 103, 101]⟩, .int .i64 4, .string sm, .slice none 0 0, .slice none 0 0] 85)
      have hbx := BoxC.new w23 85 #[.string ⟨#[99, 111, 100, 101]⟩, .int .i64 3, .string sn, .slice none 0 0, .slice none 0 0, .string ⟨#[109, 101, 115, 115, 97, 103, 101]⟩, .int .i64 4, .string sm, .slice none 0 0, .slice none 0 0]
      have HB9 := hide (HB.out.trans (hb9.mono HB.out.size))
      have HZ9 := hide (HZ.out.below hb9)
      refine hK.out _ _ (HS.out _ HB9.out) (fun _ => ?_)
      clear hK K9 hb9 HB HZ
      try simp only [Act.put, List.setIfInBounds_toArray, List.set_cons_zero, List.set_cons_succ, vagg]
      generalize w23.heap.size = B2 at *
      generalize w23.alloc (.cells #[.string ⟨#[99, 111, 100, 101]⟩, .int .i64 3, .string sn, .slice none 0 0, .slice none 0 0, .string ⟨#[109, 101, 115, 115, 97, 103, 101]⟩, .int .i64 4, .string sm, .slice none 0 0, .slice none 0 0] 85) = w24 at *
      have HB := HB9
      clear HB9
      have HBX := hide hbx
      clear hbx
      have HZ := HZ9
      clear HZ9
      refine wpAnyH_ready (rs := [10]) (by kernel_rfl) (by simp) ?_
      refine AllReadyH.cons rfl (fun K9 hK => ?_) AllReadyH.nil
      go_simp
      have hcall := HMA.out w24 B2 HBX.out
      try unfold vagg at hcall
      try simp only at hcall
      refine hcall.mono ?_
      rintro e w25 ⟨⟨pk, ps, pK, pL⟩, rfl, hb9, hT⟩
      have HB9 := hide (HB.out.trans (hb9.mono HB.out.size))
      have HZ9 := hide (HZ.out.below hb9)
      obtain ⟨h4, h5⟩ := hT.sl
      simp only at h4 h5
      obtain ⟨pa, pn, pc, rfl⟩ := h4
      obtain ⟨pd, pe, pf, rfl⟩ := h5
      have HT := hide hT
      clear hT
      have HL := hide (show B21 < w24.heap.size from HZ.out.lt)
      clear hcall HB HZ
      have HB := HB9
      clear HB9
      have HZ := HZ9
      clear HZ9
      refine hK.out _ _ (HS.out _ HB.out) (fun _ => ?_)
      clear hK K9 hb9
      try simp only [Act.put, List.setIfInBounds_toArray, List.set_cons_zero, List.set_cons_succ, vagg]
      have HWM := hide (rfl : w24 = w24)
      have z0 := HZ.out.cell 0
      have z1 := HZ.out.cell 1
      have z2 := HZ.out.cell 2
      have z3 := HZ.out.cell 3
      simp only [List.getElem?_toArray, List.getElem?_cons_zero, List.getElem?_cons_succ] at z0 z1 z2 z3
      have y0 := HZ.out.frozen 0
      have y1 := HZ.out.frozen 1
      have y2 := HZ.out.frozen 2
      have y3 := HZ.out.frozen 3
      have lX := HZ.out.lt
      have HZF := hide (resJ_v HZ.out (.int .i64 pk) (.string ps) (.slice pa pn pc) (.slice pd pe pf))
      have HBF : Hid (Below w0.heap.size w0 ((((w25.setCell ⟨B21, 0, none⟩ (.int .i64 pk)).setCell ⟨B21, 1, none⟩ (.string ps)).setCell ⟨B21, 2, none⟩ (.slice pa pn pc)).setCell ⟨B21, 3, none⟩ (.slice pd pe pf))) := below4 HB.out HN.out (.int .i64 pk) (.string ps) (.slice pa pn pc) (.slice pd pe pf)
      have HTF : Hid (TIn ((((w25.setCell ⟨B21, 0, none⟩ (.int .i64 pk)).setCell ⟨B21, 1, none⟩ (.string ps)).setCell ⟨B21, 2, none⟩ (.slice pa pn pc)).setCell ⟨B21, 3, none⟩ (.slice pd pe pf)) (fun _ => True) (pk, ps, .slice pa pn pc, .slice pd pe pf) (errT n)) := hide (HT.out.keep fun b hs hlt => by
        have hne : b ≠ B21 := by first | (have hq := HL.out; have hs' : _ ≤ b := hs; omega) | (have hs' : b < B21 := hs; omega)
        refine ⟨trivial, ?_⟩
        rw [Below.heap_setCell _ ⟨B21, 3, none⟩ _ b hne, Below.heap_setCell _ ⟨B21, 2, none⟩ _ b hne, Below.heap_setCell _ ⟨B21, 1, none⟩ _ b hne, Below.heap_setCell _ ⟨B21, 0, none⟩ _ b hne])
      clear HT HB
      refine wpAnyH_ready (rs := [12]) (by kernel_rfl) (by simp) ?_
      refine AllReadyH.cons rfl (fun K9 hK => ?_) AllReadyH.nil
      go_simp
      refine hK.out _ _ (HS.out _ HBF.out) (fun _ => ?_)
      clear hK K9 z0 z1 z2 z3 y0 y1 y2 y3 lX HZ
      try simp only [Act.put, List.setIfInBounds_toArray, List.set_cons_zero, List.set_cons_succ, vagg]
      refine wpAnyH_done (by kernel_rfl) ?_ _
      go_upto_region 2 with fail
      generalize ((((w25.setCell ⟨B21, 0, none⟩ (.int .i64 pk)).setCell ⟨B21, 1, none⟩ (.string ps)).setCell ⟨B21, 2, none⟩ (.slice pa pn pc)).setCell ⟨B21, 3, none⟩ (.slice pd pe pf)) = wS at *
      clear hHeld
      have HB := HBF
      clear HBF
      obtain ⟨u0, u1, u2, u3, u4⟩ := HS.out _ HB.out
      have v0 := HZF.out.cell 0
      have v1 := HZF.out.cell 1
      have v2 := HZF.out.cell 2
      have v3 := HZF.out.cell 3
      simp only [List.getElem?_toArray, List.getElem?_cons_zero, List.getElem?_cons_succ] at v0 v1 v2 v3
      have HX := hide (HX0.out.bel HB.out)
      have HTG := hide (HTF.out.keep (S' := fun _ => True) (fun b _ _ => ⟨trivial, rfl⟩))
      go_wp2_with fail
      refine (HMS.out wS HX.out HTG.out).mono ?_
      rintro e w4 ⟨⟨qk, qs, qK, qL⟩, rfl, hb9, hT⟩
      obtain ⟨h4, h5⟩ := hT.sl
      simp only at h4 h5
      obtain ⟨qa, qn, qc, rfl⟩ := h4
      obtain ⟨qd, qe, qf, rfl⟩ := h5
      simp only [vagg]
      have HT := hide hT
      have HL2 := hide (show w.heap.size + 1 < wS.heap.size from (HQ.out.below HB.out).lt)
      have HB9 := hide (HB.out.trans (hb9.mono HB.out.size))
      clear hT hb9 HB HMS u0 u1 u2 u3 u4 v0 v1 v2 v3
      have HB := HB9
      clear HB9
      have hq4 := HQ.out.below HB.out
      have z0 := hq4.cell 0
      have z1 := hq4.cell 1
      have z2 := hq4.cell 2
      have z3 := hq4.cell 3
      simp only [List.getElem?_toArray, List.getElem?_cons_zero, List.getElem?_cons_succ] at z0 z1 z2 z3
      have y0 := hq4.frozen 0
      have y1 := hq4.frozen 1
      have y2 := hq4.frozen 2
      have y3 := hq4.frozen 3
      have lX := hq4.lt
      have HQ4 := hide hq4
      have HBF : Hid (Below w0.heap.size w0 w4) := HB.out
      clear hq4
      go_wp2
      refine bodyPost_ret (results_jv rfl rfl (resJ_v HQ4.out (.int .i64 qk) (.string qs) (.slice qa qn qc) (.slice qd qe qf))) rfl ?_
      refine ⟨(qk, qs, .slice qa qn qc, .slice qd qe qf), rfl, below4 (HB1.out.trans (HBF.out.mono HB1.out.size)) (by omega) _ _ _ _, HT.out.keep fun b hs _ => ?_⟩
      have hs' : wS.heap.size ≤ b := hs
      have hl := HL2.out
      refine ⟨by show w.heap.size ≤ b; omega, ?_⟩
      have hne : b ≠ w.heap.size + 1 := by omega
      rw [Below.heap_setCell _ ⟨w.heap.size + 1, 3, none⟩ _ b hne, Below.heap_setCell _ ⟨w.heap.size + 1, 2, none⟩ _ b hne, Below.heap_setCell _ ⟨w.heap.size + 1, 1, none⟩ _ b hne, Below.heap_setCell _ ⟨w.heap.size + 1, 0, none⟩ _ b hne]
  · go_simp
    have hb9 := bel wd (.cells #[.int .i64 0, .string ⟨#[]⟩, .slice none 0 0, .slice none 0 0] 27)
    have hbz := BoxC.new wd 27 #[.int .i64 0, .string ⟨#[]⟩, .slice none 0 0, .slice none 0 0]
    have HB9 := hide (HB.out.trans (hb9.mono HB.out.size))
    have HN := hide (HB.out.size)
    refine hK.out _ _ (HS.out _ HB9.out) (fun _ => ?_)
    clear hK K9 hb9 HB
    try simp only [Act.put, List.setIfInBounds_toArray, List.set_cons_zero, List.set_cons_succ, vagg]
    generalize wd.heap.size = B27 at *
    generalize wd.alloc (.cells #[.int .i64 0, .string ⟨#[]⟩, .slice none 0 0, .slice none 0 0] 27) = w26 at *
    have HB := HB9
    have HZ := hide hbz
    clear HB9 hbz
    refine wpAnyH_ready (rs := [2]) (by kernel_rfl) (by simp) ?_
    refine AllReadyH.cons rfl (fun K9 hK => ?_) AllReadyH.nil
    go_simp
    have hcall := HOF.out w26 HB.out
    try unfold vagg at hcall
    try simp only at hcall
    refine hcall.mono ?_
    rintro e w28 ⟨rfl, hb9⟩
    have HB9 := hide (HB.out.trans (hb9.mono HB.out.size))
    have HZ9 := hide (HZ.out.below hb9)
    clear hcall HB HZ
    have HB := HB9
    clear HB9
    have HZ := HZ9
    clear HZ9
    refine hK.out _ _ (HS.out _ HB.out) (fun _ => ?_)
    clear hK K9 hb9
    try simp only [Act.put, List.setIfInBounds_toArray, List.set_cons_zero, List.set_cons_succ, vagg]
    refine takeD (i := 3) (v := ?v16) (some 7) rfl (by kernel_rfl) (by kernel_rfl) (by kernel_rfl) (fun _ _ _ h => h) (Or.inl ⟨by rfl, ?hy16⟩) (HS.out _ HB.out) (by rfl) ?rest16
    case hy16 => first | (intro w hSw; (try dsimp only at hSw); obtain ⟨s0, s1, s2, s3, s4⟩ := hSw; go_simp; done) | (intro w hSw; (try dsimp only at hSw); obtain ⟨s0, s1, s2, s3, s4⟩ := hSw; go_simp; with_reducible rfl)
    try simp only [Act.put, List.setIfInBounds_toArray, List.set_cons_zero, List.set_cons_succ, vagg]
    refine wpAnyH_ready (rs := [6]) (by kernel_rfl) (by simp) ?_
    refine AllReadyH.cons rfl (fun K9 hK => ?_) AllReadyH.nil
    go_simp
    have hcall := HME.out w28
    try unfold vagg at hcall
    try simp only at hcall
    refine hcall.mono ?_
    rintro e w29 ⟨rfl, hb9⟩
    have HB9 := hide (HB.out.trans (hb9.mono HB.out.size))
    have HZ9 := hide (HZ.out.below hb9)
    clear hcall HB HZ
    have HB := HB9
    clear HB9
    have HZ := HZ9
    clear HZ9
    refine hK.out _ _ (HS.out _ HB.out) (fun _ => ?_)
    clear hK K9 hb9
    try simp only [Act.put, List.setIfInBounds_toArray, List.set_cons_zero, List.set_cons_succ, vagg]
    refine wpAnyH_ready (rs := [7]) (by kernel_rfl) (by simp) ?_
    refine AllReadyH.cons rfl (fun K9 hK => ?_) AllReadyH.nil
    go_simp
    have hcall := text_calls w29 sm
    try unfold vagg at hcall
    try simp only at hcall
    refine hcall.mono ?_
    rintro e w30 ⟨rfl, hb9⟩
    have HB9 := hide (HB.out.trans (hb9.mono HB.out.size))
    have HZ9 := hide (HZ.out.below hb9)
    clear hcall HB HZ
    have HB := HB9
    clear HB9
    have HZ := HZ9
    clear HZ9
    refine hK.out _ _ (HS.out _ HB.out) (fun _ => ?_)
    clear hK K9 hb9
    try simp only [Act.put, List.setIfInBounds_toArray, List.set_cons_zero, List.set_cons_succ, vagg]
    refine takeD (i := 8) (v := ?v17) (some 12) rfl (by kernel_rfl) (by kernel_rfl) (by kernel_rfl) (fun _ _ _ h => h) (Or.inl ⟨by rfl, ?hy17⟩) (HS.out _ HB.out) (by rfl) ?rest17
    case hy17 => first | (intro w hSw; (try dsimp only at hSw); obtain ⟨s0, s1, s2, s3, s4⟩ := hSw; go_simp; done) | (intro w hSw; (try dsimp only at hSw); obtain ⟨s0, s1, s2, s3, s4⟩ := hSw; go_simp; with_reducible rfl)
    try simp only [Act.put, List.setIfInBounds_toArray, List.set_cons_zero, List.set_cons_succ, vagg]
    refine wpAnyH_ready (rs := [9]) (by kernel_rfl) (by simp) ?_
    refine AllReadyH.cons rfl (fun K9 hK => ?_) AllReadyH.nil
    go_simp
    have hb9 := bel w30 (.cells #[.string ⟨#[99, 111, 100, 101]⟩, .int .i64 3, .string sn, .slice none 0 0, .slice none 0 0, .string ⟨#[109, 101, 115, 115, 97, 103, 101]⟩, .int .i64 4, .string sm, .slice none 0 0, .slice none 0 0] 85)
    have hbx := BoxC.new w30 85 #[.string ⟨#[99, 111, 100, 101]⟩, .int .i64 3, .string sn, .slice none 0 0, .slice none 0 0, .string ⟨#[109, 101, 115, 115, 97, 103, 101]⟩, .int .i64 4, .string sm, .slice none 0 0, .slice none 0 0]
    have HB9 := hide (HB.out.trans (hb9.mono HB.out.size))
    have HZ9 := hide (HZ.out.below hb9)
    refine hK.out _ _ (HS.out _ HB9.out) (fun _ => ?_)
    clear hK K9 hb9 HB HZ
    try simp only [Act.put, List.setIfInBounds_toArray, List.set_cons_zero, List.set_cons_succ, vagg]
    generalize w30.heap.size = B2 at *
    generalize w30.alloc (.cells #[.string ⟨#[99, 111, 100, 101]⟩, .int .i64 3, .string sn, .slice none 0 0, .slice none 0 0, .string ⟨#[109, 101, 115, 115, 97, 103, 101]⟩, .int .i64 4, .string sm, .slice none 0 0, .slice none 0 0] 85) = w31 at *
    have HB := HB9
    clear HB9
    have HBX := hide hbx
    clear hbx
    have HZ := HZ9
    clear HZ9
    refine wpAnyH_ready (rs := [10]) (by kernel_rfl) (by simp) ?_
    refine AllReadyH.cons rfl (fun K9 hK => ?_) AllReadyH.nil
    go_simp
    have hcall := HMA.out w31 B2 HBX.out
    try unfold vagg at hcall
    try simp only at hcall
    refine hcall.mono ?_
    rintro e w32 ⟨⟨pk, ps, pK, pL⟩, rfl, hb9, hT⟩
    have HB9 := hide (HB.out.trans (hb9.mono HB.out.size))
    have HZ9 := hide (HZ.out.below hb9)
    obtain ⟨h4, h5⟩ := hT.sl
    simp only at h4 h5
    obtain ⟨pa, pn, pc, rfl⟩ := h4
    obtain ⟨pd, pe, pf, rfl⟩ := h5
    have HT := hide hT
    clear hT
    have HL := hide (show B27 < w31.heap.size from HZ.out.lt)
    clear hcall HB HZ
    have HB := HB9
    clear HB9
    have HZ := HZ9
    clear HZ9
    refine hK.out _ _ (HS.out _ HB.out) (fun _ => ?_)
    clear hK K9 hb9
    try simp only [Act.put, List.setIfInBounds_toArray, List.set_cons_zero, List.set_cons_succ, vagg]
    have HWM := hide (rfl : w31 = w31)
    have z0 := HZ.out.cell 0
    have z1 := HZ.out.cell 1
    have z2 := HZ.out.cell 2
    have z3 := HZ.out.cell 3
    simp only [List.getElem?_toArray, List.getElem?_cons_zero, List.getElem?_cons_succ] at z0 z1 z2 z3
    have y0 := HZ.out.frozen 0
    have y1 := HZ.out.frozen 1
    have y2 := HZ.out.frozen 2
    have y3 := HZ.out.frozen 3
    have lX := HZ.out.lt
    have HZF := hide (resJ_v HZ.out (.int .i64 pk) (.string ps) (.slice pa pn pc) (.slice pd pe pf))
    have HBF : Hid (Below w0.heap.size w0 ((((w32.setCell ⟨B27, 0, none⟩ (.int .i64 pk)).setCell ⟨B27, 1, none⟩ (.string ps)).setCell ⟨B27, 2, none⟩ (.slice pa pn pc)).setCell ⟨B27, 3, none⟩ (.slice pd pe pf))) := below4 HB.out HN.out (.int .i64 pk) (.string ps) (.slice pa pn pc) (.slice pd pe pf)
    have HTF : Hid (TIn ((((w32.setCell ⟨B27, 0, none⟩ (.int .i64 pk)).setCell ⟨B27, 1, none⟩ (.string ps)).setCell ⟨B27, 2, none⟩ (.slice pa pn pc)).setCell ⟨B27, 3, none⟩ (.slice pd pe pf)) (fun _ => True) (pk, ps, .slice pa pn pc, .slice pd pe pf) (errT n)) := hide (HT.out.keep fun b hs hlt => by
      have hne : b ≠ B27 := by first | (have hq := HL.out; have hs' : _ ≤ b := hs; omega) | (have hs' : b < B27 := hs; omega)
      refine ⟨trivial, ?_⟩
      rw [Below.heap_setCell _ ⟨B27, 3, none⟩ _ b hne, Below.heap_setCell _ ⟨B27, 2, none⟩ _ b hne, Below.heap_setCell _ ⟨B27, 1, none⟩ _ b hne, Below.heap_setCell _ ⟨B27, 0, none⟩ _ b hne])
    clear HT HB
    refine wpAnyH_ready (rs := [12]) (by kernel_rfl) (by simp) ?_
    refine AllReadyH.cons rfl (fun K9 hK => ?_) AllReadyH.nil
    go_simp
    refine hK.out _ _ (HS.out _ HBF.out) (fun _ => ?_)
    clear hK K9 z0 z1 z2 z3 y0 y1 y2 y3 lX HZ
    try simp only [Act.put, List.setIfInBounds_toArray, List.set_cons_zero, List.set_cons_succ, vagg]
    refine wpAnyH_done (by kernel_rfl) ?_ _
    go_upto_region 2 with fail
    generalize ((((w32.setCell ⟨B27, 0, none⟩ (.int .i64 pk)).setCell ⟨B27, 1, none⟩ (.string ps)).setCell ⟨B27, 2, none⟩ (.slice pa pn pc)).setCell ⟨B27, 3, none⟩ (.slice pd pe pf)) = wS at *
    clear hHeld
    have HB := HBF
    clear HBF
    obtain ⟨u0, u1, u2, u3, u4⟩ := HS.out _ HB.out
    have v0 := HZF.out.cell 0
    have v1 := HZF.out.cell 1
    have v2 := HZF.out.cell 2
    have v3 := HZF.out.cell 3
    simp only [List.getElem?_toArray, List.getElem?_cons_zero, List.getElem?_cons_succ] at v0 v1 v2 v3
    have HX := hide (HX0.out.bel HB.out)
    have HTG := hide (HTF.out.keep (S' := fun _ => True) (fun b _ _ => ⟨trivial, rfl⟩))
    go_wp2_with fail
    refine (HMS.out wS HX.out HTG.out).mono ?_
    rintro e w4 ⟨⟨qk, qs, qK, qL⟩, rfl, hb9, hT⟩
    obtain ⟨h4, h5⟩ := hT.sl
    simp only at h4 h5
    obtain ⟨qa, qn, qc, rfl⟩ := h4
    obtain ⟨qd, qe, qf, rfl⟩ := h5
    simp only [vagg]
    have HT := hide hT
    have HL2 := hide (show w.heap.size + 1 < wS.heap.size from (HQ.out.below HB.out).lt)
    have HB9 := hide (HB.out.trans (hb9.mono HB.out.size))
    clear hT hb9 HB HMS u0 u1 u2 u3 u4 v0 v1 v2 v3
    have HB := HB9
    clear HB9
    have hq4 := HQ.out.below HB.out
    have z0 := hq4.cell 0
    have z1 := hq4.cell 1
    have z2 := hq4.cell 2
    have z3 := hq4.cell 3
    simp only [List.getElem?_toArray, List.getElem?_cons_zero, List.getElem?_cons_succ] at z0 z1 z2 z3
    have y0 := hq4.frozen 0
    have y1 := hq4.frozen 1
    have y2 := hq4.frozen 2
    have y3 := hq4.frozen 3
    have lX := hq4.lt
    have HQ4 := hide hq4
    have HBF : Hid (Below w0.heap.size w0 w4) := HB.out
    clear hq4
    go_wp2
    refine bodyPost_ret (results_jv rfl rfl (resJ_v HQ4.out (.int .i64 qk) (.string qs) (.slice qa qn qc) (.slice qd qe qf))) rfl ?_
    refine ⟨(qk, qs, .slice qa qn qc, .slice qd qe qf), rfl, below4 (HB1.out.trans (HBF.out.mono HB1.out.size)) (by omega) _ _ _ _, HT.out.keep fun b hs _ => ?_⟩
    have hs' : wS.heap.size ≤ b := hs
    have hl := HL2.out
    refine ⟨by show w.heap.size ≤ b; omega, ?_⟩
    have hne : b ≠ w.heap.size + 1 := by omega
    rw [Below.heap_setCell _ ⟨w.heap.size + 1, 3, none⟩ _ b hne, Below.heap_setCell _ ⟨w.heap.size + 1, 2, none⟩ _ b hne, Below.heap_setCell _ ⟨w.heap.size + 1, 1, none⟩ _ b hne, Below.heap_setCell _ ⟨w.heap.size + 1, 0, none⟩ _ b hne]


end Go.Proofs.YtbdpmpepmjpadaaGreatDoor

namespace Go.Proofs.YtbdpmpepmjpadaaGreatDoor
set_option linter.unusedVariables false
set_option linter.unusedSimpArgs false
set_option maxRecDepth 100000
open Go Go.RowKit Go.Shelf Go.Lib

theorem strOf_cons (x : Nat) (D : List Nat) : strOf [x] ++ strOf D = strOf (x :: D) := by
  apply ByteArray.ext
  simp [strOf]
theorem strOf_someN {D : List Nat} (h : D ≠ []) : (strOf D).toList.isEmpty = false := by
  rw [toList_data, strOf_list]
  cases D with
  | nil => exact (h rfl).elim
  | cons x l => rfl
theorem strN_nil : strOf [] = ⟨#[]⟩ := rfl
def emptyN : Value → Nat
  | .string s => if s.size = 0 then 1 else 0
  | _ => 0
theorem emptyN_no {s : ByteArray} (h : 0 < s.size) : emptyN (.string s) = 0 := if_neg (by omega)
theorem tdiv_abs (m : Int) : (m.tdiv 10).natAbs = m.natAbs / 10 := by
  rcases Int.le_total 0 m with h | h
  · rw [Int.tdiv_eq_ediv_of_nonneg h]; omega
  · obtain ⟨k, rfl⟩ : ∃ k : Int, m = -k := ⟨-m, by omega⟩
    rw [Int.neg_tdiv, Int.tdiv_eq_ediv_of_nonneg (by omega)]; omega
theorem tmod_abs (m : Int) : (m.tmod 10).natAbs = m.natAbs % 10 ∧ (0 ≤ m → 0 ≤ m.tmod 10) ∧ (m ≤ 0 → m.tmod 10 ≤ 0) := by
  rcases Int.le_total 0 m with h | h
  · rw [Int.tmod_eq_emod_of_nonneg h]; omega
  · obtain ⟨k, rfl⟩ : ∃ k : Int, m = -k := ⟨-m, by omega⟩
    rw [Int.neg_tmod, Int.tmod_eq_emod_of_nonneg (by omega)]; omega
/-- Digits under way: those that are left of a number, and those that stand already. -/
def DigN (n m : Int) (D : List Nat) : Prop := (D = [] ∧ m = n) ∨ (D ≠ [] ∧ (if m = 0 then D else digsT m.natAbs ++ D) = digsT n.natAbs)
theorem DigN.len {n m : Int} {D : List Nat} (h : DigN n m D) (hn : n.natAbs < 10000000000000000000) : D.length ≤ 19 := by
  have h3 := digs_length 18 n.natAbs hn
  rcases h with ⟨rfl, _⟩ | ⟨_, h⟩
  · exact Nat.zero_le _
  · rw [← h] at h3
    split at h3
    · exact h3
    · rw [List.length_append] at h3; omega
theorem DigN.next {n m : Int} {D : List Nat} (h : DigN n m D) (hm : m ≠ 0 ∨ D = []) : DigN n (m.tdiv 10) ((48 + m.natAbs % 10) :: D) := by
  refine .inr ⟨by simp, ?_⟩
  have key : (if m.tdiv 10 = 0 then (48 + m.natAbs % 10) :: D else digsT (m.tdiv 10).natAbs ++ ((48 + m.natAbs % 10) :: D)) = digsT m.natAbs ++ D := by
    have hd := tdiv_abs m
    by_cases q : m.natAbs < 10
    · have : m.tdiv 10 = 0 := by omega
      rw [if_pos this, digs_one q, show 48 + m.natAbs % 10 = 48 + m.natAbs by omega]
      rfl
    · have : m.tdiv 10 ≠ 0 := by omega
      rw [if_neg this, hd, digs_step q, List.append_assoc]
      rfl
  rw [key]
  rcases h with ⟨rfl, rfl⟩ | ⟨h0, h⟩
  · rw [List.append_nil]
  · rw [if_neg (by rcases hm with q | q; exact q; exact absurd q h0)] at h
    exact h

set_option maxHeartbeats 8000000 in
theorem rnumber_any (w : World) (n : Int) (h1 : -9223372036854775808 ≤ n) (h2 : n ≤ 9223372036854775807) :
    Calls Tryz.prog 42 #[.int .i64 n] w fun e w' => e = .returned (vagg (nC (strOf (itoaT n)))) ∧ Below w.heap.size w w' := by
  have hb := bel w (.cells #[.int .i64 0, .string ⟨#[]⟩, .slice none 0 0, .slice none 0 0] 36)
  have hx := BoxC.new w 36 #[.int .i64 0, .string ⟨#[]⟩, .slice none 0 0, .slice none 0 0]
  obtain ⟨w0, hw0⟩ : ∃ w0, w.alloc (.cells #[.int .i64 0, .string ⟨#[]⟩, .slice none 0 0, .slice none 0 0] 36) = w0 := ⟨_, rfl⟩
  rw [hw0] at hb hx
  have HW0 := hide hw0
  have HB := hide hb
  have HX := hide hx
  have HN : Hid (n.natAbs < 10000000000000000000) := by show _ < _; omega
  have HL : Hid (-9223372036854775808 ≤ n ∧ n ≤ 9223372036854775807) := ⟨h1, h2⟩
  clear hb hx hw0
  go_enter Tryz.func42, Tryz.ntmps42
  go_upto_region 1 with fail
  show Code.wp _ _ _ _ (w.alloc (.cells #[.int .i64 0, .string ⟨#[]⟩, .slice none 0 0, .slice none 0 0] 36))
  rw [HW0.out]
  clear HW0
  go_wp2
  go_loopw [3, 4, 5] (fun sv mv dv wr => ∃ (m : Int) (D : List Nat), mv = .int .i64 m ∧ sv = .string (strOf D) ∧ m.natAbs ≤ n.natAbs ∧ (-9223372036854775808 ≤ m ∧ m ≤ 9223372036854775807) ∧ DigN n m D ∧ Below w0.heap.size w0 wr) (fun sv mv _ _ => (RowKit.intOf mv).natAbs + emptyN sv)
  case atStart => exact ⟨n, [], rfl, rfl, Nat.le_refl _, HL.out, .inl ⟨rfl, rfl⟩, Below.refl _ _⟩
  case round =>
    obtain ⟨m, D, rfl, rfl, hmn, hml, hdig, hbr⟩ := hrel
    have HBR := hide hbr
    have hDl := hdig.len HN.out
    have HDG := hide hdig
    clear hbr hdig
    by_cases hgo : m ≠ 0 ∨ D = []
    · obtain ⟨d, hd⟩ : ∃ d, m.tmod 10 = d := ⟨_, rfl⟩
      obtain ⟨q, hq⟩ : ∃ q, m.tdiv 10 = q := ⟨_, rfl⟩
      obtain ⟨y, hy⟩ : ∃ y, m.natAbs % 10 = y := ⟨_, rfl⟩
      obtain ⟨x, hx⟩ : ∃ x, 48 + y = x := ⟨_, rfl⟩
      have hmd := tmod_abs m
      have hmq := tdiv_abs m
      rw [hd, hy] at hmd
      rw [hq] at hmq
      have e3 : (48 : Int) + (y : Int) = (x : Int) := by omega
      have e4 : IntKind.u8.wrap (x : Int) = (x : Int) := by rw [IntKind.wrap_u8]; omega
      have e5 : (x : Int) % 256 = (x : Int) := by omega
      have hxb : x ≤ 57 := by omega
      have hqb : -9223372036854775808 ≤ q ∧ q ≤ 9223372036854775807 := by omega
      have hby := byts_lit wr [x] (by simp; omega) (0, 0)
      have hcv : (convert 22 9 (.slice (some ⟨wr.heap.size, 0, none⟩) 1 1)).run Tryz.prog (wr.alloc (.cells #[.int .u8 (x : Int)] 5)) = .ok (.string (strOf [x])) (wr.alloc (.cells #[.int .u8 (x : Int)] 5)) := conv_byts hby
      have HBX := hide (bel wr (.cells #[.int .u8 (x : Int)] 5))
      have s1 : (strOf [x]).size = 1 := strOf_size [x]
      have s2 : (strOf D).size ≤ 19 := by rw [strOf_size]; exact hDl
      have HSA := hide (strOf_cons x D)
      have HNX : Hid (DigN n q (x :: D)) := by
        have := HDG.out.next hgo
        rw [hq, hy, hx] at this
        exact this
      have HNE : Hid (emptyN (.string (strOf [x] ++ strOf D)) = 0) := emptyN_no (by rw [ByteArray.size_append, s1]; omega)
      have HQ : Hid (q.natAbs ≤ n.natAbs ∧ (-9223372036854775808 ≤ q ∧ q ≤ 9223372036854775807) ∧ (q.natAbs < m.natAbs ∨ (m = 0 ∧ q = 0))) := show _ ∧ _ by omega
      have hcond : (m ≠ 0) ∨ (m = 0 ∧ D = []) := by
        rcases hgo with h | h
        · exact .inl h
        · by_cases h0 : m = 0
          · exact .inr ⟨h0, h⟩
          · exact .inl h0
      have HX48 : Hid (m = 0 → x = 48 ∧ d = 0) := fun q => by subst q; omega
      clear hx hy hby hgo
      rcases hcond with h0 | ⟨h0, rfl⟩
      · have e0 : (m != 0) = true := by simpa using h0
        generalize strOf [x] = sx at *
        generalize hsD : strOf D = sD at *
        have q3 : ∀ W : World, (Op.stringOp .add sx sD).run Tryz.prog W = .ok (.string (sx ++ sD)) W := fun W => run_string_add_sum W sx sD (by omega)
        have HSD := hide hsD
        clear s1 s2 hsD
        by_cases hs : d < 0
        · have e6 : -d = (y : Int) := by omega
          have HM2 := hide (And.intro hmd (And.intro hmq h0))
          clear hmd hmq h0
          go_wp2
          go_roundw
          case rel => exact ⟨q, x :: D, rfl, by rw [← HSA.out], HQ.out.1, HQ.out.2.1, HNX.out, HBR.out.trans (HBX.out.mono HBR.out.size)⟩
          case measure =>
            have h1 := HQ.out
            have h2 := HNE.out
            have h3 := HM2.out.2.2
            simp [RowKit.intOf, h2]
            omega
        · have e6 : d = (y : Int) := by omega
          have HM2 := hide (And.intro hmd (And.intro hmq h0))
          clear hmd hmq h0
          rw [e6] at hd hs
          clear e6
          go_wp2
          go_roundw
          case rel => exact ⟨q, x :: D, rfl, by rw [← HSA.out], HQ.out.1, HQ.out.2.1, HNX.out, HBR.out.trans (HBX.out.mono HBR.out.size)⟩
          case measure =>
            have h1 := HQ.out
            have h2 := HNE.out
            have h3 := HM2.out.2.2
            simp [RowKit.intOf, h2]
            omega
      · subst h0
        have q3 : ∀ W : World, (Op.stringOp .add (strOf [x]) (⟨#[]⟩ : ByteArray)).run Tryz.prog W = .ok (.string (strOf [x] ++ strOf [])) W := fun W => run_string_add_sum W _ _ (by rw [s1]; decide)
        rw [strN_nil]
        obtain rfl : q = 0 := by have := HQ.out.2.2; omega
        obtain ⟨rfl, rfl⟩ : x = 48 ∧ d = 0 := HX48.out rfl
        have hcv2 : (convert 22 9 (.slice (some ⟨wr.heap.size, 0, none⟩) 1 1)).run Tryz.prog (wr.alloc (.cells #[.int .u8 48] 5)) = .ok (.string (strOf [48])) (wr.alloc (.cells #[.int .u8 48] 5)) := hcv
        have HBX2 : Hid (Below wr.heap.size wr (wr.alloc (.cells #[.int .u8 48] 5))) := HBX.out
        clear hcv e3 e4 e5 hmd hmq hd hq
        generalize hsx : strOf [48] = sx at *
        have HSX := hide hsx
        clear s1 s2 hsx
        go_wp2
        go_roundw
        case rel => exact ⟨0, [48], rfl, by rw [HSA.out, HSX.out], HQ.out.1, HQ.out.2.1, HNX.out, HBR.out.trans (HBX2.out.mono HBR.out.size)⟩
        case measure =>
          have h2 := HNE.out
          simp [RowKit.intOf, h2]
          decide
    · obtain rfl : m = 0 := by omega
      have hD0 : D ≠ [] := fun e => hgo (.inr e)
      have hDn : D = digsT n.natAbs := by
        rcases HDG.out with ⟨e, _⟩ | ⟨_, e⟩
        · exact absurd e hD0
        · rw [if_pos rfl] at e; exact e
      have hem := strOf_someN hD0
      have HXE := hide (HX.out.below HBR.out)
      have HBE := hide (HB.out.trans (HBR.out.mono HB.out.size))
      have y0 := HXE.out.frozen 0
      have y1 := HXE.out.frozen 1
      have y2 := HXE.out.frozen 2
      have y3 := HXE.out.frozen 3
      have lX := HXE.out.lt
      have x0 : wr.cell? ⟨w.heap.size, 0, none⟩ = some (.int .i64 0) := HXE.out.cell 0
      have x1 : wr.cell? ⟨w.heap.size, 1, none⟩ = some (.string ⟨#[]⟩) := HXE.out.cell 1
      have x2 : wr.cell? ⟨w.heap.size, 2, none⟩ = some (.slice none 0 0) := HXE.out.cell 2
      have x3 : wr.cell? ⟨w.heap.size, 3, none⟩ = some (.slice none 0 0) := HXE.out.cell 3
      have s2 : (strOf D).size ≤ 19 := by rw [strOf_size]; exact hDl
      clear hgo hml hmn
      by_cases hneg : n < 0
      · have HIT : Hid (strOf [45] ++ strOf D = strOf (itoaT n)) := by
          show _ = _
          rw [strOf_cons, itoaT_eq, if_pos hneg, hDn]
        have q3 : ∀ W : World, (Op.stringOp .add (⟨#[45]⟩ : ByteArray) (strOf D)).run Tryz.prog W = .ok (.string (strOf [45] ++ strOf D)) W := fun W => run_string_add_sum W _ _ (by
          have : (⟨#[45]⟩ : ByteArray).size = 1 := rfl
          omega)
        rw [HIT.out] at q3
        clear hDn hD0 s2 hDl
        generalize hsn : strOf (itoaT n) = sn at *
        have HSN := hide hsn
        clear hsn
        generalize strOf D = sD at *
        go_wp2
        refine bodyPost_ret (results_rv rfl rfl (resJ_v HXE.out (.int .i64 3) (.string sn) (.slice none 0 0) (.slice none 0 0))) rfl ?_
        exact ⟨by rw [HSN.out]; rfl, below4 HBE.out (Nat.le_refl _) (.int .i64 3) (.string sn) (.slice none 0 0) (.slice none 0 0)⟩
      · have HIT : Hid (strOf D = strOf (itoaT n)) := by
          show _ = _
          rw [itoaT_eq, if_neg hneg, hDn, show n.natAbs = n.toNat by omega]
        rw [HIT.out] at hem ⊢
        clear hDn hD0 s2 hDl
        generalize hsn : strOf (itoaT n) = sn at *
        have HSN := hide hsn
        clear hsn
        go_wp2
        refine bodyPost_ret (results_rv rfl rfl (resJ_v HXE.out (.int .i64 3) (.string sn) (.slice none 0 0) (.slice none 0 0))) rfl ?_
        exact ⟨by rw [HSN.out]; rfl, below4 HBE.out (Nat.le_refl _) (.int .i64 3) (.string sn) (.slice none 0 0) (.slice none 0 0)⟩

end Go.Proofs.YtbdpmpepmjpadaaGreatDoor

namespace Go.Proofs.YtbdpmpepmjpadaaGreatDoor
set_option linter.unusedVariables false
set_option linter.unusedSimpArgs false
set_option maxRecDepth 100000
open Go Go.RowKit Go.Shelf Go.Lib

theorem rtext_any (w : World) (s : ByteArray) : Calls Tryz.prog 41 #[.string s] w fun e w' => e = .returned (vagg (4, s, .slice none 0 0, .slice none 0 0)) ∧ Below w.heap.size w w' := by
  go_enter Tryz.func41, Tryz.ntmps41
  go_wp2
  refine bodyPost_ret (results_rv rfl rfl (BoxC.new w 36 #[.int .i64 4, .string s, .slice none 0 0, .slice none 0 0])) rfl ?_
  exact ⟨rfl, bel w _⟩
theorem robject_any (w : World) (ka la : Option Addr) (kn kc ln lc : Nat) : Calls Tryz.prog 40 #[.slice ka kn kc, .slice la ln lc] w fun e w' => e = .returned (.agg #[.int .i64 6, .string ⟨#[]⟩, .slice ka kn kc, .slice la ln lc]) ∧ Below w.heap.size w w' := by
  go_enter Tryz.func40, Tryz.ntmps40
  go_wp2
  refine bodyPost_ret (results_rv rfl rfl (BoxC.new w 36 #[.int .i64 6, .string ⟨#[]⟩, .slice ka kn kc, .slice la ln lc])) rfl ?_
  exact ⟨rfl, bel w _⟩
theorem obj3_in {W : World} {Bk Bv : Nat} {k1 k2 k3 : ByteArray} {x y z : JC} {A C E : JT} {S : Nat → Prop} (hk : BoxC W Bk 9 #[.string k1, .string k2, .string k3]) (hv : BoxC W Bv 36 (vcell x ++ (vcell y ++ vcell z)).toArray) (h1 : S Bk) (h2 : S Bv) (hx : TIn W S x A) (hy : TIn W S y C) (hz : TIn W S z E) :
    TIn W S (6, ⟨#[]⟩, .slice (some ⟨Bk, 0, none⟩) 3 3, .slice (some ⟨Bv, 0, none⟩) 3 3) (.mk 6 ⟨#[]⟩ [k1, k2, k3] [A, C, E]) := by
  refine .mk 6 ⟨#[]⟩ (.slice (some ⟨Bk, 0, none⟩) 3 3) (some ⟨Bv, 0, none⟩) 3 [k1, k2, k3] [A, C, E] (fun i => if i = 0 then x else if i = 1 then y else z) ⟨_, 3, rfl, fun j hj => ?_⟩ (fun i hi => ⟨Bv, 0, rfl, h2, fun r hr => ?_⟩) (fun i hi => ?_) (fun i hi => ?_)
  · match j, hj with
    | 0, _ => exact ⟨Bk, 0, rfl, h1, hk.cell 0⟩
    | 1, _ => exact ⟨Bk, 0, rfl, h1, hk.cell 1⟩
    | 2, _ => exact ⟨Bk, 0, rfl, h1, hk.cell 2⟩
  · match i, hi with
    | 0, _ =>
      have := hv.cell r
      rw [show 0 + (0 * 4 + r) = r by omega, this, List.getElem?_toArray]
      exact List.getElem?_append_left (by simpa [vcell] using hr)
    | 1, _ =>
      have := hv.cell (4 + r)
      rw [show 0 + (1 * 4 + r) = 4 + r by omega, this, List.getElem?_toArray, List.getElem?_append_right (by simp [vcell]), List.getElem?_append_left (by simp [vcell]; omega)]
      simp [vcell]
    | 2, _ =>
      have := hv.cell (8 + r)
      rw [show 0 + (2 * 4 + r) = 8 + r by omega, this, List.getElem?_toArray, List.getElem?_append_right (by simp [vcell]; omega), List.getElem?_append_right (by simp [vcell]; omega)]
      simp [vcell]
      congr 1
      omega
  · match i, hi with
    | 0, _ => exact hx.sl
    | 1, _ => exact hy.sl
    | 2, _ => exact hz.sl
  · match i, hi with
    | 0, _ => exact hx
    | 1, _ => exact hy
    | 2, _ => exact hz
theorem obj2_in {W : World} {Bk Bv : Nat} {k1 k2 : ByteArray} {x y : JC} {A C : JT} {S : Nat → Prop} (hk : BoxC W Bk 9 #[.string k1, .string k2]) (hv : BoxC W Bv 36 (vcell x ++ vcell y).toArray) (h1 : S Bk) (h2 : S Bv) (hx : TIn W S x A) (hy : TIn W S y C) :
    TIn W S (6, ⟨#[]⟩, .slice (some ⟨Bk, 0, none⟩) 2 2, .slice (some ⟨Bv, 0, none⟩) 2 2) (.mk 6 ⟨#[]⟩ [k1, k2] [A, C]) := by
  refine .mk 6 ⟨#[]⟩ (.slice (some ⟨Bk, 0, none⟩) 2 2) (some ⟨Bv, 0, none⟩) 2 [k1, k2] [A, C] (fun i => if i = 0 then x else y) ⟨_, 2, rfl, fun j hj => ?_⟩ (fun i hi => ⟨Bv, 0, rfl, h2, fun r hr => ?_⟩) (fun i hi => ?_) (fun i hi => ?_)
  · match j, hj with
    | 0, _ => exact ⟨Bk, 0, rfl, h1, hk.cell 0⟩
    | 1, _ => exact ⟨Bk, 0, rfl, h1, hk.cell 1⟩
  · match i, hi with
    | 0, _ =>
      have := hv.cell r
      rw [show 0 + (0 * 4 + r) = r by omega, this, List.getElem?_toArray]
      exact List.getElem?_append_left (by simpa [vcell] using hr)
    | 1, _ =>
      have := hv.cell (4 + r)
      rw [show 0 + (1 * 4 + r) = 4 + r by omega, this, List.getElem?_toArray, List.getElem?_append_right (by simp [vcell])]
      simp [vcell]
  · match i, hi with
    | 0, _ => exact hx.sl
    | 1, _ => exact hy.sl
  · match i, hi with
    | 0, _ => exact hx
    | 1, _ => exact hy
/-- A tree that is answered. -/
def RNewN (N : Option Nat) (T : JT) (w : World) (e : Ending) (w' : World) : Prop := ∃ y : JC, e = .returned (vagg y) ∧ Below w.heap.size w w' ∧ TIn w' (fun b => some b ≠ N) y T
def RNewT (T : JT) (w : World) (e : Ending) (w' : World) : Prop := ∃ y : JC, e = .returned (vagg y) ∧ Below w.heap.size w w' ∧ TIn w' (fun _ => True) y T

set_option maxHeartbeats 16000000 in
theorem reply_any (w : World) (N : Option Nat) (hN : ∀ n, N = some n → n < w.heap.size) (key : ByteArray) {x y : JC} {A C : JT} (hx : TIn w (fun b => some b ≠ N) x A) (hy : TIn w (fun b => some b ≠ N) y C) :
    Calls Tryz.prog 16 #[vagg x, .string key, vagg y] w (RNewN N (msgT qId key A C) w) := by
  obtain ⟨hx2, hx3⟩ := hx.sl
  obtain ⟨xk, xs, xv, xw⟩ := x
  obtain ⟨xa, xn, xc, rfl⟩ := hx2
  obtain ⟨xd, xe, xf, rfl⟩ := hx3
  obtain ⟨hy2, hy3⟩ := hy.sl
  obtain ⟨yk, ys, yv, yw⟩ := y
  obtain ⟨ya, yn, yc, rfl⟩ := hy2
  obtain ⟨yd, ye, yf, rfl⟩ := hy3
  have hb : Below w.heap.size w (((w.alloc (.cells #[.int .i64 xk, .string xs, .slice xa xn xc, .slice xd xe xf] 36)).alloc (.cells #[.int .i64 yk, .string ys, .slice ya yn yc, .slice yd ye yf] 36)).alloc (.cells #[.int .i64 0, .string ⟨#[]⟩, .slice none 0 0, .slice none 0 0] 36)) := (((bel w _).alloc (by simp) _).alloc (by simp only [World.size_alloc]; omega) _)
  have h0 := (((BoxC.new w 36 #[.int .i64 xk, .string xs, .slice xa xn xc, .slice xd xe xf]).alloc (.cells #[.int .i64 yk, .string ys, .slice ya yn yc, .slice yd ye yf] 36)).alloc (.cells #[.int .i64 0, .string ⟨#[]⟩, .slice none 0 0, .slice none 0 0] 36))
  have h1 := ((BoxC.new (w.alloc (.cells #[.int .i64 xk, .string xs, .slice xa xn xc, .slice xd xe xf] 36)) 36 #[.int .i64 yk, .string ys, .slice ya yn yc, .slice yd ye yf]).alloc (.cells #[.int .i64 0, .string ⟨#[]⟩, .slice none 0 0, .slice none 0 0] 36))
  rw [World.size_alloc] at h1
  have h2 := (BoxC.new ((w.alloc (.cells #[.int .i64 xk, .string xs, .slice xa xn xc, .slice xd xe xf] 36)).alloc (.cells #[.int .i64 yk, .string ys, .slice ya yn yc, .slice yd ye yf] 36)) 36 #[.int .i64 0, .string ⟨#[]⟩, .slice none 0 0, .slice none 0 0])
  rw [World.size_alloc, World.size_alloc] at h2
  generalize hw0 : ((w.alloc (.cells #[.int .i64 xk, .string xs, .slice xa xn xc, .slice xd xe xf] 36)).alloc (.cells #[.int .i64 yk, .string ys, .slice ya yn yc, .slice yd ye yf] 36)).alloc (.cells #[.int .i64 0, .string ⟨#[]⟩, .slice none 0 0, .slice none 0 0] 36) = w0 at *
  unfold vagg
  simp only
  have HS : Hid (∀ X0 : World, Below w0.heap.size w0 X0 → (X0.cell? ⟨w.heap.size, 0, none⟩ = some (.int .i64 xk) ∧ X0.cell? ⟨w.heap.size, 1, none⟩ = some (.string xs) ∧ X0.cell? ⟨w.heap.size, 2, none⟩ = some (.slice xa xn xc) ∧ X0.cell? ⟨w.heap.size, 3, none⟩ = some (.slice xd xe xf) ∧ X0.cell? ⟨w.heap.size + 1, 0, none⟩ = some (.int .i64 yk) ∧ X0.cell? ⟨w.heap.size + 1, 1, none⟩ = some (.string ys) ∧ X0.cell? ⟨w.heap.size + 1, 2, none⟩ = some (.slice ya yn yc) ∧ X0.cell? ⟨w.heap.size + 1, 3, none⟩ = some (.slice yd ye yf))) := fun X0 h => ⟨(h0.below h).cell 0, (h0.below h).cell 1, (h0.below h).cell 2, (h0.below h).cell 3, (h1.below h).cell 0, (h1.below h).cell 1, (h1.below h).cell 2, (h1.below h).cell 3⟩
  have HW0 := hide hw0
  have HP := hide h0
  have HP2 := hide h1
  have HQ := hide h2
  have HB1 := hide hb
  have HX0 := hide (hx.keep (W' := w0) (S' := fun b => b ≠ w.heap.size + 1 + 1 ∧ some b ≠ N) fun b hs hlt => ⟨⟨by show b ≠ _; omega, hs⟩, hb.block b hlt⟩)
  have HY0 := hide (hy.keep (W' := w0) (S' := fun b => b ≠ w.heap.size + 1 + 1 ∧ some b ≠ N) fun b hs hlt => ⟨⟨by show b ≠ _; omega, hs⟩, hb.block b hlt⟩)
  have HNN : Hid (∀ n, N = some n → n < w0.heap.size) := fun n e => Nat.lt_of_lt_of_le (hN n e) hb.size
  clear hw0 h0 h1 h2 hb hx hy hN
  go_enter Tryz.func16, Tryz.ntmps16
  go_upto_region 1 with fail
  rw [HW0.out]
  clear HW0
  refine wp_region_held_drew (S := fun X0 : World => X0.cell? ⟨w.heap.size, 0, none⟩ = some (.int .i64 xk) ∧ X0.cell? ⟨w.heap.size, 1, none⟩ = some (.string xs) ∧ X0.cell? ⟨w.heap.size, 2, none⟩ = some (.slice xa xn xc) ∧ X0.cell? ⟨w.heap.size, 3, none⟩ = some (.slice xd xe xf) ∧ X0.cell? ⟨w.heap.size + 1, 0, none⟩ = some (.int .i64 yk) ∧ X0.cell? ⟨w.heap.size + 1, 1, none⟩ = some (.string ys) ∧ X0.cell? ⟨w.heap.size + 1, 2, none⟩ = some (.slice ya yn yc) ∧ X0.cell? ⟨w.heap.size + 1, 3, none⟩ = some (.slice yd ye yf)) (by kernel_rfl) (HS.out _ (Below.refl _ _).drew) (fun hHeld => ?_)
  have HB : Hid (Below w0.heap.size w0 w0.drew) := (Below.refl _ _).drew
  generalize w0.drew = wd at *
  refine takeD (i := 0) (v := ?v8) (some 7) rfl (by kernel_rfl) (by kernel_rfl) (by kernel_rfl) (fun _ _ _ h => h) (Or.inl ⟨by rfl, ?hy8⟩) (HS.out _ HB.out) (by rfl) ?rest8
  case hy8 => first | (intro w hSw; (try dsimp only at hSw); obtain ⟨s0, s1, s2, s3, s4, s5, s6, s7⟩ := hSw; go_simp; done) | (intro w hSw; (try dsimp only at hSw); obtain ⟨s0, s1, s2, s3, s4, s5, s6, s7⟩ := hSw; go_simp; with_reducible rfl)
  try simp only [Act.put, List.setIfInBounds_toArray, List.set_cons_zero, List.set_cons_succ, vagg]
  refine takeD (i := 3) (v := ?v9) (some 10) rfl (by kernel_rfl) (by kernel_rfl) (by kernel_rfl) (fun _ _ _ h => h) (Or.inl ⟨by rfl, ?hy9⟩) (HS.out _ HB.out) (by rfl) ?rest9
  case hy9 => first | (intro w hSw; (try dsimp only at hSw); obtain ⟨s0, s1, s2, s3, s4, s5, s6, s7⟩ := hSw; go_simp; done) | (intro w hSw; (try dsimp only at hSw); obtain ⟨s0, s1, s2, s3, s4, s5, s6, s7⟩ := hSw; go_simp; with_reducible rfl)
  try simp only [Act.put, List.setIfInBounds_toArray, List.set_cons_zero, List.set_cons_succ, vagg]
  refine takeD (i := 4) (v := ?v10) (some 11) rfl (by kernel_rfl) (by kernel_rfl) (by kernel_rfl) (fun _ _ _ h => h) (Or.inl ⟨by rfl, ?hy10⟩) (HS.out _ HB.out) (by rfl) ?rest10
  case hy10 => first | (intro w hSw; (try dsimp only at hSw); obtain ⟨s0, s1, s2, s3, s4, s5, s6, s7⟩ := hSw; go_simp; done) | (intro w hSw; (try dsimp only at hSw); obtain ⟨s0, s1, s2, s3, s4, s5, s6, s7⟩ := hSw; go_simp; with_reducible rfl)
  try simp only [Act.put, List.setIfInBounds_toArray, List.set_cons_zero, List.set_cons_succ, vagg]
  refine wpAnyH_ready (rs := [1, 2]) (by kernel_rfl) (by simp) ?_
  refine AllReadyH.cons rfl (fun K9 hK => ?_) (AllReadyH.cons rfl (fun K9 hK => ?_) AllReadyH.nil)
  · go_simp
    have hb9 := bel wd (.cells #[.string ⟨#[106, 115, 111, 110, 114, 112, 99]⟩, .string ⟨#[105, 100]⟩, .string key] 9)
    have hbx := BoxC.new wd 9 #[.string ⟨#[106, 115, 111, 110, 114, 112, 99]⟩, .string ⟨#[105, 100]⟩, .string key]
    have hlow := HB.out.size
    have HB9 := hide (HB.out.trans (hb9.mono HB.out.size))
    clear HB
    have HB := HB9
    clear HB9
    refine hK.out _ _ (HS.out _ HB.out) (fun _ => ?_)
    clear hK K9 hb9
    try simp only [Act.put, List.setIfInBounds_toArray, List.set_cons_zero, List.set_cons_succ, vagg]
    generalize wd.heap.size = Bk at *
    generalize wd.alloc (.cells #[.string ⟨#[106, 115, 111, 110, 114, 112, 99]⟩, .string ⟨#[105, 100]⟩, .string key] 9) = w1 at *
    have HK := hide hbx
    have HKL := hide hlow
    clear hbx hlow
    refine wpAnyH_ready (rs := [2]) (by kernel_rfl) (by simp) ?_
    refine AllReadyH.cons rfl (fun K9 hK => ?_) AllReadyH.nil
    go_simp
    have hcall := rtext_any w1 ⟨#[50, 46, 48]⟩
    try unfold vagg at hcall
    try simp only at hcall
    refine hcall.mono ?_
    rintro e w2 ⟨rfl, hb9⟩
    have HB9 := hide (HB.out.trans (hb9.mono HB.out.size))
    have HK9 := hide (HK.out.below hb9)
    clear hcall
    clear HB HK
    have HB := HB9
    clear HB9
    have HK := HK9
    clear HK9
    refine hK.out _ _ (HS.out _ HB.out) (fun _ => ?_)
    clear hK K9 hb9
    try simp only [Act.put, List.setIfInBounds_toArray, List.set_cons_zero, List.set_cons_succ, vagg]
    refine wpAnyH_ready (rs := [5]) (by kernel_rfl) (by simp) ?_
    refine AllReadyH.cons rfl (fun K9 hK => ?_) AllReadyH.nil
    go_simp
    have hb9 := bel w2 (.cells #[.int .i64 4, .string ⟨#[50, 46, 48]⟩, .slice none 0 0, .slice none 0 0, .int .i64 xk, .string xs, .slice xa xn xc, .slice xd xe xf, .int .i64 yk, .string ys, .slice ya yn yc, .slice yd ye yf] 36)
    have hbx := BoxC.new w2 36 #[.int .i64 4, .string ⟨#[50, 46, 48]⟩, .slice none 0 0, .slice none 0 0, .int .i64 xk, .string xs, .slice xa xn xc, .slice xd xe xf, .int .i64 yk, .string ys, .slice ya yn yc, .slice yd ye yf]
    have hlow := HB.out.size
    have HB9 := hide (HB.out.trans (hb9.mono HB.out.size))
    have HK9 := hide (HK.out.below hb9)
    clear HB HK
    have HB := HB9
    clear HB9
    have HK := HK9
    clear HK9
    refine hK.out _ _ (HS.out _ HB.out) (fun _ => ?_)
    clear hK K9 hb9
    try simp only [Act.put, List.setIfInBounds_toArray, List.set_cons_zero, List.set_cons_succ, vagg]
    generalize w2.heap.size = Bv at *
    generalize w2.alloc (.cells #[.int .i64 4, .string ⟨#[50, 46, 48]⟩, .slice none 0 0, .slice none 0 0, .int .i64 xk, .string xs, .slice xa xn xc, .slice xd xe xf, .int .i64 yk, .string ys, .slice ya yn yc, .slice yd ye yf] 36) = w3 at *
    have HV := hide hbx
    have HVL := hide hlow
    clear hbx hlow
    refine wpAnyH_ready (rs := [6]) (by kernel_rfl) (by simp) ?_
    refine AllReadyH.cons rfl (fun K9 hK => ?_) AllReadyH.nil
    go_simp
    have hcall := robject_any w3 (some ⟨Bk, 0, none⟩) (some ⟨Bv, 0, none⟩) 3 3 3 3
    try unfold vagg at hcall
    try simp only at hcall
    refine hcall.mono ?_
    rintro e w4 ⟨rfl, hb9⟩
    have HB9 := hide (HB.out.trans (hb9.mono HB.out.size))
    have HK9 := hide (HK.out.below hb9)
    have HV9 := hide (HV.out.below hb9)
    clear hcall
    clear HB HK HV
    have HB := HB9
    clear HB9
    have HK := HK9
    clear HK9
    have HV := HV9
    clear HV9
    have HT : Hid (TIn w4 (fun b => b ≠ w.heap.size + 1 + 1 ∧ some b ≠ N) (6, ⟨#[]⟩, .slice (some ⟨Bk, 0, none⟩) 3 3, .slice (some ⟨Bv, 0, none⟩) 3 3) (msgT qId key A C)) := obj3_in (x := cVer) (y := (xk, xs, .slice xa xn xc, .slice xd xe xf)) (z := (yk, ys, .slice ya yn yc, .slice yd ye yf)) HK.out HV.out ⟨by show Bk ≠ _; have := HKL.out; have := HQ.out.lt; omega, fun e => by have := HNN.out _ e.symm; have := HKL.out; omega⟩ ⟨by show Bv ≠ _; have := HVL.out; have := HQ.out.lt; omega, fun e => by have := HNN.out _ e.symm; have := HVL.out; omega⟩ (flat_in _ _ (x := cVer) ⟨rfl, rfl⟩) (HX0.out.bel HB.out) (HY0.out.bel HB.out)
    refine hK.out _ _ (HS.out _ HB.out) (fun _ => ?_)
    clear hK K9 hb9
    try simp only [Act.put, List.setIfInBounds_toArray, List.set_cons_zero, List.set_cons_succ, vagg]
    have hq4 := HQ.out.below HB.out
    have z0 := hq4.cell 0
    have z1 := hq4.cell 1
    have z2 := hq4.cell 2
    have z3 := hq4.cell 3
    simp only [List.getElem?_toArray, List.getElem?_cons_zero, List.getElem?_cons_succ] at z0 z1 z2 z3
    have y0 := hq4.frozen 0
    have y1 := hq4.frozen 1
    have y2 := hq4.frozen 2
    have y3 := hq4.frozen 3
    have lX := hq4.lt
    have HQ4 := hide hq4
    have HBF : Hid (Below w0.heap.size w0 w4) := HB.out
    clear hq4
    refine wpAnyH_ready (rs := [7]) (by kernel_rfl) (by simp) ?_
    refine AllReadyH.cons rfl (fun K9 hK => ?_) AllReadyH.nil
    go_simp
    have hS0 := box_off4 (HP.out.below HBF.out) (show w.heap.size ≠ w.heap.size + 1 + 1 by omega) (.int .i64 6) (.string ⟨#[]⟩) (.slice (some ⟨Bk, 0, none⟩) 3 3) (.slice (some ⟨Bv, 0, none⟩) 3 3)
    have hS1 := box_off4 (HP2.out.below HBF.out) (show w.heap.size + 1 ≠ w.heap.size + 1 + 1 by omega) (.int .i64 6) (.string ⟨#[]⟩) (.slice (some ⟨Bk, 0, none⟩) 3 3) (.slice (some ⟨Bv, 0, none⟩) 3 3)
    refine hK.out _ _ ⟨hS0.cell 0, hS0.cell 1, hS0.cell 2, hS0.cell 3, hS1.cell 0, hS1.cell 1, hS1.cell 2, hS1.cell 3⟩ (fun _ => ?_)
    clear hK K9 hS0 hS1
    try simp only [Act.put, List.setIfInBounds_toArray, List.set_cons_zero, List.set_cons_succ, vagg]
    refine wpAnyH_done (by kernel_rfl) ?_ _
    go_wp2
    refine bodyPost_ret (results_rv rfl rfl (resJ_v HQ4.out (.int .i64 6) (.string ⟨#[]⟩) (.slice (some ⟨Bk, 0, none⟩) 3 3) (.slice (some ⟨Bv, 0, none⟩) 3 3))) rfl ?_
    refine ⟨(6, ⟨#[]⟩, .slice (some ⟨Bk, 0, none⟩) 3 3, .slice (some ⟨Bv, 0, none⟩) 3 3), rfl, below4 (HB1.out.trans (HBF.out.mono HB1.out.size)) (by omega) _ _ _ _, HT.out.keep fun b hs _ => ?_⟩
    have hne : b ≠ w.heap.size + 1 + 1 := hs.1
    refine ⟨hs.2, ?_⟩
    rw [Below.heap_setCell _ ⟨w.heap.size + 1 + 1, 3, none⟩ _ b hne, Below.heap_setCell _ ⟨w.heap.size + 1 + 1, 2, none⟩ _ b hne, Below.heap_setCell _ ⟨w.heap.size + 1 + 1, 1, none⟩ _ b hne, Below.heap_setCell _ ⟨w.heap.size + 1 + 1, 0, none⟩ _ b hne]
  · go_simp
    have hcall := rtext_any wd ⟨#[50, 46, 48]⟩
    try unfold vagg at hcall
    try simp only at hcall
    refine hcall.mono ?_
    rintro e w5 ⟨rfl, hb9⟩
    have HB9 := hide (HB.out.trans (hb9.mono HB.out.size))
    clear hcall
    clear HB
    have HB := HB9
    clear HB9
    refine hK.out _ _ (HS.out _ HB.out) (fun _ => ?_)
    clear hK K9 hb9
    try simp only [Act.put, List.setIfInBounds_toArray, List.set_cons_zero, List.set_cons_succ, vagg]
    refine wpAnyH_ready (rs := [1, 5]) (by kernel_rfl) (by simp) ?_
    refine AllReadyH.cons rfl (fun K9 hK => ?_) (AllReadyH.cons rfl (fun K9 hK => ?_) AllReadyH.nil)
    · go_simp
      have hb9 := bel w5 (.cells #[.string ⟨#[106, 115, 111, 110, 114, 112, 99]⟩, .string ⟨#[105, 100]⟩, .string key] 9)
      have hbx := BoxC.new w5 9 #[.string ⟨#[106, 115, 111, 110, 114, 112, 99]⟩, .string ⟨#[105, 100]⟩, .string key]
      have hlow := HB.out.size
      have HB9 := hide (HB.out.trans (hb9.mono HB.out.size))
      clear HB
      have HB := HB9
      clear HB9
      refine hK.out _ _ (HS.out _ HB.out) (fun _ => ?_)
      clear hK K9 hb9
      try simp only [Act.put, List.setIfInBounds_toArray, List.set_cons_zero, List.set_cons_succ, vagg]
      generalize w5.heap.size = Bk at *
      generalize w5.alloc (.cells #[.string ⟨#[106, 115, 111, 110, 114, 112, 99]⟩, .string ⟨#[105, 100]⟩, .string key] 9) = w6 at *
      have HK := hide hbx
      have HKL := hide hlow
      clear hbx hlow
      refine wpAnyH_ready (rs := [5]) (by kernel_rfl) (by simp) ?_
      refine AllReadyH.cons rfl (fun K9 hK => ?_) AllReadyH.nil
      go_simp
      have hb9 := bel w6 (.cells #[.int .i64 4, .string ⟨#[50, 46, 48]⟩, .slice none 0 0, .slice none 0 0, .int .i64 xk, .string xs, .slice xa xn xc, .slice xd xe xf, .int .i64 yk, .string ys, .slice ya yn yc, .slice yd ye yf] 36)
      have hbx := BoxC.new w6 36 #[.int .i64 4, .string ⟨#[50, 46, 48]⟩, .slice none 0 0, .slice none 0 0, .int .i64 xk, .string xs, .slice xa xn xc, .slice xd xe xf, .int .i64 yk, .string ys, .slice ya yn yc, .slice yd ye yf]
      have hlow := HB.out.size
      have HB9 := hide (HB.out.trans (hb9.mono HB.out.size))
      have HK9 := hide (HK.out.below hb9)
      clear HB HK
      have HB := HB9
      clear HB9
      have HK := HK9
      clear HK9
      refine hK.out _ _ (HS.out _ HB.out) (fun _ => ?_)
      clear hK K9 hb9
      try simp only [Act.put, List.setIfInBounds_toArray, List.set_cons_zero, List.set_cons_succ, vagg]
      generalize w6.heap.size = Bv at *
      generalize w6.alloc (.cells #[.int .i64 4, .string ⟨#[50, 46, 48]⟩, .slice none 0 0, .slice none 0 0, .int .i64 xk, .string xs, .slice xa xn xc, .slice xd xe xf, .int .i64 yk, .string ys, .slice ya yn yc, .slice yd ye yf] 36) = w7 at *
      have HV := hide hbx
      have HVL := hide hlow
      clear hbx hlow
      refine wpAnyH_ready (rs := [6]) (by kernel_rfl) (by simp) ?_
      refine AllReadyH.cons rfl (fun K9 hK => ?_) AllReadyH.nil
      go_simp
      have hcall := robject_any w7 (some ⟨Bk, 0, none⟩) (some ⟨Bv, 0, none⟩) 3 3 3 3
      try unfold vagg at hcall
      try simp only at hcall
      refine hcall.mono ?_
      rintro e w8 ⟨rfl, hb9⟩
      have HB9 := hide (HB.out.trans (hb9.mono HB.out.size))
      have HK9 := hide (HK.out.below hb9)
      have HV9 := hide (HV.out.below hb9)
      clear hcall
      clear HB HK HV
      have HB := HB9
      clear HB9
      have HK := HK9
      clear HK9
      have HV := HV9
      clear HV9
      have HT : Hid (TIn w8 (fun b => b ≠ w.heap.size + 1 + 1 ∧ some b ≠ N) (6, ⟨#[]⟩, .slice (some ⟨Bk, 0, none⟩) 3 3, .slice (some ⟨Bv, 0, none⟩) 3 3) (msgT qId key A C)) := obj3_in (x := cVer) (y := (xk, xs, .slice xa xn xc, .slice xd xe xf)) (z := (yk, ys, .slice ya yn yc, .slice yd ye yf)) HK.out HV.out ⟨by show Bk ≠ _; have := HKL.out; have := HQ.out.lt; omega, fun e => by have := HNN.out _ e.symm; have := HKL.out; omega⟩ ⟨by show Bv ≠ _; have := HVL.out; have := HQ.out.lt; omega, fun e => by have := HNN.out _ e.symm; have := HVL.out; omega⟩ (flat_in _ _ (x := cVer) ⟨rfl, rfl⟩) (HX0.out.bel HB.out) (HY0.out.bel HB.out)
      refine hK.out _ _ (HS.out _ HB.out) (fun _ => ?_)
      clear hK K9 hb9
      try simp only [Act.put, List.setIfInBounds_toArray, List.set_cons_zero, List.set_cons_succ, vagg]
      have hq4 := HQ.out.below HB.out
      have z0 := hq4.cell 0
      have z1 := hq4.cell 1
      have z2 := hq4.cell 2
      have z3 := hq4.cell 3
      simp only [List.getElem?_toArray, List.getElem?_cons_zero, List.getElem?_cons_succ] at z0 z1 z2 z3
      have y0 := hq4.frozen 0
      have y1 := hq4.frozen 1
      have y2 := hq4.frozen 2
      have y3 := hq4.frozen 3
      have lX := hq4.lt
      have HQ4 := hide hq4
      have HBF : Hid (Below w0.heap.size w0 w8) := HB.out
      clear hq4
      refine wpAnyH_ready (rs := [7]) (by kernel_rfl) (by simp) ?_
      refine AllReadyH.cons rfl (fun K9 hK => ?_) AllReadyH.nil
      go_simp
      have hS0 := box_off4 (HP.out.below HBF.out) (show w.heap.size ≠ w.heap.size + 1 + 1 by omega) (.int .i64 6) (.string ⟨#[]⟩) (.slice (some ⟨Bk, 0, none⟩) 3 3) (.slice (some ⟨Bv, 0, none⟩) 3 3)
      have hS1 := box_off4 (HP2.out.below HBF.out) (show w.heap.size + 1 ≠ w.heap.size + 1 + 1 by omega) (.int .i64 6) (.string ⟨#[]⟩) (.slice (some ⟨Bk, 0, none⟩) 3 3) (.slice (some ⟨Bv, 0, none⟩) 3 3)
      refine hK.out _ _ ⟨hS0.cell 0, hS0.cell 1, hS0.cell 2, hS0.cell 3, hS1.cell 0, hS1.cell 1, hS1.cell 2, hS1.cell 3⟩ (fun _ => ?_)
      clear hK K9 hS0 hS1
      try simp only [Act.put, List.setIfInBounds_toArray, List.set_cons_zero, List.set_cons_succ, vagg]
      refine wpAnyH_done (by kernel_rfl) ?_ _
      go_wp2
      refine bodyPost_ret (results_rv rfl rfl (resJ_v HQ4.out (.int .i64 6) (.string ⟨#[]⟩) (.slice (some ⟨Bk, 0, none⟩) 3 3) (.slice (some ⟨Bv, 0, none⟩) 3 3))) rfl ?_
      refine ⟨(6, ⟨#[]⟩, .slice (some ⟨Bk, 0, none⟩) 3 3, .slice (some ⟨Bv, 0, none⟩) 3 3), rfl, below4 (HB1.out.trans (HBF.out.mono HB1.out.size)) (by omega) _ _ _ _, HT.out.keep fun b hs _ => ?_⟩
      have hne : b ≠ w.heap.size + 1 + 1 := hs.1
      refine ⟨hs.2, ?_⟩
      rw [Below.heap_setCell _ ⟨w.heap.size + 1 + 1, 3, none⟩ _ b hne, Below.heap_setCell _ ⟨w.heap.size + 1 + 1, 2, none⟩ _ b hne, Below.heap_setCell _ ⟨w.heap.size + 1 + 1, 1, none⟩ _ b hne, Below.heap_setCell _ ⟨w.heap.size + 1 + 1, 0, none⟩ _ b hne]
    · go_simp
      have hb9 := bel w5 (.cells #[.int .i64 4, .string ⟨#[50, 46, 48]⟩, .slice none 0 0, .slice none 0 0, .int .i64 xk, .string xs, .slice xa xn xc, .slice xd xe xf, .int .i64 yk, .string ys, .slice ya yn yc, .slice yd ye yf] 36)
      have hbx := BoxC.new w5 36 #[.int .i64 4, .string ⟨#[50, 46, 48]⟩, .slice none 0 0, .slice none 0 0, .int .i64 xk, .string xs, .slice xa xn xc, .slice xd xe xf, .int .i64 yk, .string ys, .slice ya yn yc, .slice yd ye yf]
      have hlow := HB.out.size
      have HB9 := hide (HB.out.trans (hb9.mono HB.out.size))
      clear HB
      have HB := HB9
      clear HB9
      refine hK.out _ _ (HS.out _ HB.out) (fun _ => ?_)
      clear hK K9 hb9
      try simp only [Act.put, List.setIfInBounds_toArray, List.set_cons_zero, List.set_cons_succ, vagg]
      generalize w5.heap.size = Bv at *
      generalize w5.alloc (.cells #[.int .i64 4, .string ⟨#[50, 46, 48]⟩, .slice none 0 0, .slice none 0 0, .int .i64 xk, .string xs, .slice xa xn xc, .slice xd xe xf, .int .i64 yk, .string ys, .slice ya yn yc, .slice yd ye yf] 36) = w9 at *
      have HV := hide hbx
      have HVL := hide hlow
      clear hbx hlow
      refine wpAnyH_ready (rs := [1]) (by kernel_rfl) (by simp) ?_
      refine AllReadyH.cons rfl (fun K9 hK => ?_) AllReadyH.nil
      go_simp
      have hb9 := bel w9 (.cells #[.string ⟨#[106, 115, 111, 110, 114, 112, 99]⟩, .string ⟨#[105, 100]⟩, .string key] 9)
      have hbx := BoxC.new w9 9 #[.string ⟨#[106, 115, 111, 110, 114, 112, 99]⟩, .string ⟨#[105, 100]⟩, .string key]
      have hlow := HB.out.size
      have HB9 := hide (HB.out.trans (hb9.mono HB.out.size))
      have HV9 := hide (HV.out.below hb9)
      clear HB HV
      have HB := HB9
      clear HB9
      have HV := HV9
      clear HV9
      refine hK.out _ _ (HS.out _ HB.out) (fun _ => ?_)
      clear hK K9 hb9
      try simp only [Act.put, List.setIfInBounds_toArray, List.set_cons_zero, List.set_cons_succ, vagg]
      generalize w9.heap.size = Bk at *
      generalize w9.alloc (.cells #[.string ⟨#[106, 115, 111, 110, 114, 112, 99]⟩, .string ⟨#[105, 100]⟩, .string key] 9) = w10 at *
      have HK := hide hbx
      have HKL := hide hlow
      clear hbx hlow
      refine wpAnyH_ready (rs := [6]) (by kernel_rfl) (by simp) ?_
      refine AllReadyH.cons rfl (fun K9 hK => ?_) AllReadyH.nil
      go_simp
      have hcall := robject_any w10 (some ⟨Bk, 0, none⟩) (some ⟨Bv, 0, none⟩) 3 3 3 3
      try unfold vagg at hcall
      try simp only at hcall
      refine hcall.mono ?_
      rintro e w11 ⟨rfl, hb9⟩
      have HB9 := hide (HB.out.trans (hb9.mono HB.out.size))
      have HV9 := hide (HV.out.below hb9)
      have HK9 := hide (HK.out.below hb9)
      clear hcall
      clear HB HV HK
      have HB := HB9
      clear HB9
      have HV := HV9
      clear HV9
      have HK := HK9
      clear HK9
      have HT : Hid (TIn w11 (fun b => b ≠ w.heap.size + 1 + 1 ∧ some b ≠ N) (6, ⟨#[]⟩, .slice (some ⟨Bk, 0, none⟩) 3 3, .slice (some ⟨Bv, 0, none⟩) 3 3) (msgT qId key A C)) := obj3_in (x := cVer) (y := (xk, xs, .slice xa xn xc, .slice xd xe xf)) (z := (yk, ys, .slice ya yn yc, .slice yd ye yf)) HK.out HV.out ⟨by show Bk ≠ _; have := HKL.out; have := HQ.out.lt; omega, fun e => by have := HNN.out _ e.symm; have := HKL.out; omega⟩ ⟨by show Bv ≠ _; have := HVL.out; have := HQ.out.lt; omega, fun e => by have := HNN.out _ e.symm; have := HVL.out; omega⟩ (flat_in _ _ (x := cVer) ⟨rfl, rfl⟩) (HX0.out.bel HB.out) (HY0.out.bel HB.out)
      refine hK.out _ _ (HS.out _ HB.out) (fun _ => ?_)
      clear hK K9 hb9
      try simp only [Act.put, List.setIfInBounds_toArray, List.set_cons_zero, List.set_cons_succ, vagg]
      have hq4 := HQ.out.below HB.out
      have z0 := hq4.cell 0
      have z1 := hq4.cell 1
      have z2 := hq4.cell 2
      have z3 := hq4.cell 3
      simp only [List.getElem?_toArray, List.getElem?_cons_zero, List.getElem?_cons_succ] at z0 z1 z2 z3
      have y0 := hq4.frozen 0
      have y1 := hq4.frozen 1
      have y2 := hq4.frozen 2
      have y3 := hq4.frozen 3
      have lX := hq4.lt
      have HQ4 := hide hq4
      have HBF : Hid (Below w0.heap.size w0 w11) := HB.out
      clear hq4
      refine wpAnyH_ready (rs := [7]) (by kernel_rfl) (by simp) ?_
      refine AllReadyH.cons rfl (fun K9 hK => ?_) AllReadyH.nil
      go_simp
      have hS0 := box_off4 (HP.out.below HBF.out) (show w.heap.size ≠ w.heap.size + 1 + 1 by omega) (.int .i64 6) (.string ⟨#[]⟩) (.slice (some ⟨Bk, 0, none⟩) 3 3) (.slice (some ⟨Bv, 0, none⟩) 3 3)
      have hS1 := box_off4 (HP2.out.below HBF.out) (show w.heap.size + 1 ≠ w.heap.size + 1 + 1 by omega) (.int .i64 6) (.string ⟨#[]⟩) (.slice (some ⟨Bk, 0, none⟩) 3 3) (.slice (some ⟨Bv, 0, none⟩) 3 3)
      refine hK.out _ _ ⟨hS0.cell 0, hS0.cell 1, hS0.cell 2, hS0.cell 3, hS1.cell 0, hS1.cell 1, hS1.cell 2, hS1.cell 3⟩ (fun _ => ?_)
      clear hK K9 hS0 hS1
      try simp only [Act.put, List.setIfInBounds_toArray, List.set_cons_zero, List.set_cons_succ, vagg]
      refine wpAnyH_done (by kernel_rfl) ?_ _
      go_wp2
      refine bodyPost_ret (results_rv rfl rfl (resJ_v HQ4.out (.int .i64 6) (.string ⟨#[]⟩) (.slice (some ⟨Bk, 0, none⟩) 3 3) (.slice (some ⟨Bv, 0, none⟩) 3 3))) rfl ?_
      refine ⟨(6, ⟨#[]⟩, .slice (some ⟨Bk, 0, none⟩) 3 3, .slice (some ⟨Bv, 0, none⟩) 3 3), rfl, below4 (HB1.out.trans (HBF.out.mono HB1.out.size)) (by omega) _ _ _ _, HT.out.keep fun b hs _ => ?_⟩
      have hne : b ≠ w.heap.size + 1 + 1 := hs.1
      refine ⟨hs.2, ?_⟩
      rw [Below.heap_setCell _ ⟨w.heap.size + 1 + 1, 3, none⟩ _ b hne, Below.heap_setCell _ ⟨w.heap.size + 1 + 1, 2, none⟩ _ b hne, Below.heap_setCell _ ⟨w.heap.size + 1 + 1, 1, none⟩ _ b hne, Below.heap_setCell _ ⟨w.heap.size + 1 + 1, 0, none⟩ _ b hne]

set_option maxHeartbeats 16000000 in
theorem rnotify_any (w : World) {S : Nat → Prop} (s : ByteArray) {y : JC} {C : JT} (hy : TIn w S y C) :
    Calls Tryz.prog 18 #[.string s, vagg y] w (RNewT (msgT qMeth qPar (textT s) C) w) := by
  obtain ⟨hy2, hy3⟩ := hy.sl
  obtain ⟨yk, ys, yv, yw⟩ := y
  obtain ⟨ya, yn, yc, rfl⟩ := hy2
  obtain ⟨yd, ye, yf, rfl⟩ := hy3
  have hb : Below w.heap.size w ((w.alloc (.cells #[.int .i64 yk, .string ys, .slice ya yn yc, .slice yd ye yf] 36)).alloc (.cells #[.int .i64 0, .string ⟨#[]⟩, .slice none 0 0, .slice none 0 0] 36)) := ((bel w _).alloc (by simp) _)
  have h0 := ((BoxC.new w 36 #[.int .i64 yk, .string ys, .slice ya yn yc, .slice yd ye yf]).alloc (.cells #[.int .i64 0, .string ⟨#[]⟩, .slice none 0 0, .slice none 0 0] 36))
  have h1 := (BoxC.new (w.alloc (.cells #[.int .i64 yk, .string ys, .slice ya yn yc, .slice yd ye yf] 36)) 36 #[.int .i64 0, .string ⟨#[]⟩, .slice none 0 0, .slice none 0 0])
  rw [World.size_alloc] at h1
  generalize hw0 : (w.alloc (.cells #[.int .i64 yk, .string ys, .slice ya yn yc, .slice yd ye yf] 36)).alloc (.cells #[.int .i64 0, .string ⟨#[]⟩, .slice none 0 0, .slice none 0 0] 36) = w0 at *
  unfold vagg
  simp only
  have HS : Hid (∀ X0 : World, Below w0.heap.size w0 X0 → (X0.cell? ⟨w.heap.size, 0, none⟩ = some (.int .i64 yk) ∧ X0.cell? ⟨w.heap.size, 1, none⟩ = some (.string ys) ∧ X0.cell? ⟨w.heap.size, 2, none⟩ = some (.slice ya yn yc) ∧ X0.cell? ⟨w.heap.size, 3, none⟩ = some (.slice yd ye yf))) := fun X0 h => ⟨(h0.below h).cell 0, (h0.below h).cell 1, (h0.below h).cell 2, (h0.below h).cell 3⟩
  have HW0 := hide hw0
  have HP := hide h0
  have HQ := hide h1
  have HB1 := hide hb
  have HY0 := hide (hy.keep (W' := w0) (S' := fun b => b ≠ w.heap.size + 1) fun b _ hlt => ⟨by show b ≠ _; omega, hb.block b hlt⟩)
  clear hw0 h0 h1 hb hy
  go_enter Tryz.func18, Tryz.ntmps18
  go_upto_region 1 with fail
  rw [HW0.out]
  clear HW0
  refine wp_region_held_drew (S := fun X0 : World => X0.cell? ⟨w.heap.size, 0, none⟩ = some (.int .i64 yk) ∧ X0.cell? ⟨w.heap.size, 1, none⟩ = some (.string ys) ∧ X0.cell? ⟨w.heap.size, 2, none⟩ = some (.slice ya yn yc) ∧ X0.cell? ⟨w.heap.size, 3, none⟩ = some (.slice yd ye yf)) (by kernel_rfl) (HS.out _ (Below.refl _ _).drew) (fun hHeld => ?_)
  have HB : Hid (Below w0.heap.size w0 w0.drew) := (Below.refl _ _).drew
  generalize w0.drew = wd at *
  refine takeD (i := 2) (v := ?v11) (some 7) rfl (by kernel_rfl) (by kernel_rfl) (by kernel_rfl) (fun _ _ _ h => h) (Or.inl ⟨by rfl, ?hy11⟩) (HS.out _ HB.out) (by rfl) ?rest11
  case hy11 => first | (intro w hSw; (try dsimp only at hSw); obtain ⟨s0, s1, s2, s3⟩ := hSw; go_simp; done) | (intro w hSw; (try dsimp only at hSw); obtain ⟨s0, s1, s2, s3⟩ := hSw; go_simp; with_reducible rfl)
  try simp only [Act.put, List.setIfInBounds_toArray, List.set_cons_zero, List.set_cons_succ, vagg]
  refine takeD (i := 4) (v := ?v12) (some 9) rfl (by kernel_rfl) (by kernel_rfl) (by kernel_rfl) (fun _ _ _ h => h) (Or.inl ⟨by rfl, ?hy12⟩) (HS.out _ HB.out) (by rfl) ?rest12
  case hy12 => first | (intro w hSw; (try dsimp only at hSw); obtain ⟨s0, s1, s2, s3⟩ := hSw; go_simp; done) | (intro w hSw; (try dsimp only at hSw); obtain ⟨s0, s1, s2, s3⟩ := hSw; go_simp; with_reducible rfl)
  try simp only [Act.put, List.setIfInBounds_toArray, List.set_cons_zero, List.set_cons_succ, vagg]
  refine wpAnyH_ready (rs := [0, 1]) (by kernel_rfl) (by simp) ?_
  refine AllReadyH.cons rfl (fun K9 hK => ?_) (AllReadyH.cons rfl (fun K9 hK => ?_) AllReadyH.nil)
  · go_simp
    have hb9 := bel wd (.cells #[.string ⟨#[106, 115, 111, 110, 114, 112, 99]⟩, .string ⟨#[109, 101, 116, 104, 111, 100]⟩, .string ⟨#[112, 97, 114, 97, 109, 115]⟩] 9)
    have hbx := BoxC.new wd 9 #[.string ⟨#[106, 115, 111, 110, 114, 112, 99]⟩, .string ⟨#[109, 101, 116, 104, 111, 100]⟩, .string ⟨#[112, 97, 114, 97, 109, 115]⟩]
    have hlow := HB.out.size
    have HB9 := hide (HB.out.trans (hb9.mono HB.out.size))
    clear HB
    have HB := HB9
    clear HB9
    refine hK.out _ _ (HS.out _ HB.out) (fun _ => ?_)
    clear hK K9 hb9
    try simp only [Act.put, List.setIfInBounds_toArray, List.set_cons_zero, List.set_cons_succ, vagg]
    generalize wd.heap.size = Bk at *
    generalize wd.alloc (.cells #[.string ⟨#[106, 115, 111, 110, 114, 112, 99]⟩, .string ⟨#[109, 101, 116, 104, 111, 100]⟩, .string ⟨#[112, 97, 114, 97, 109, 115]⟩] 9) = w12 at *
    have HK := hide hbx
    have HKL := hide hlow
    clear hbx hlow
    refine wpAnyH_ready (rs := [1]) (by kernel_rfl) (by simp) ?_
    refine AllReadyH.cons rfl (fun K9 hK => ?_) AllReadyH.nil
    go_simp
    have hcall := rtext_any w12 ⟨#[50, 46, 48]⟩
    try unfold vagg at hcall
    try simp only at hcall
    refine hcall.mono ?_
    rintro e w13 ⟨rfl, hb9⟩
    have HB9 := hide (HB.out.trans (hb9.mono HB.out.size))
    have HK9 := hide (HK.out.below hb9)
    clear hcall
    clear HB HK
    have HB := HB9
    clear HB9
    have HK := HK9
    clear HK9
    refine hK.out _ _ (HS.out _ HB.out) (fun _ => ?_)
    clear hK K9 hb9
    try simp only [Act.put, List.setIfInBounds_toArray, List.set_cons_zero, List.set_cons_succ, vagg]
    refine wpAnyH_ready (rs := [3]) (by kernel_rfl) (by simp) ?_
    refine AllReadyH.cons rfl (fun K9 hK => ?_) AllReadyH.nil
    go_simp
    have hcall := rtext_any w13 s
    try unfold vagg at hcall
    try simp only at hcall
    refine hcall.mono ?_
    rintro e w14 ⟨rfl, hb9⟩
    have HB9 := hide (HB.out.trans (hb9.mono HB.out.size))
    have HK9 := hide (HK.out.below hb9)
    clear hcall
    clear HB HK
    have HB := HB9
    clear HB9
    have HK := HK9
    clear HK9
    refine hK.out _ _ (HS.out _ HB.out) (fun _ => ?_)
    clear hK K9 hb9
    try simp only [Act.put, List.setIfInBounds_toArray, List.set_cons_zero, List.set_cons_succ, vagg]
    refine wpAnyH_ready (rs := [5]) (by kernel_rfl) (by simp) ?_
    refine AllReadyH.cons rfl (fun K9 hK => ?_) AllReadyH.nil
    go_simp
    have hb9 := bel w14 (.cells #[.int .i64 4, .string ⟨#[50, 46, 48]⟩, .slice none 0 0, .slice none 0 0, .int .i64 4, .string s, .slice none 0 0, .slice none 0 0, .int .i64 yk, .string ys, .slice ya yn yc, .slice yd ye yf] 36)
    have hbx := BoxC.new w14 36 #[.int .i64 4, .string ⟨#[50, 46, 48]⟩, .slice none 0 0, .slice none 0 0, .int .i64 4, .string s, .slice none 0 0, .slice none 0 0, .int .i64 yk, .string ys, .slice ya yn yc, .slice yd ye yf]
    have hlow := HB.out.size
    have HB9 := hide (HB.out.trans (hb9.mono HB.out.size))
    have HK9 := hide (HK.out.below hb9)
    clear HB HK
    have HB := HB9
    clear HB9
    have HK := HK9
    clear HK9
    refine hK.out _ _ (HS.out _ HB.out) (fun _ => ?_)
    clear hK K9 hb9
    try simp only [Act.put, List.setIfInBounds_toArray, List.set_cons_zero, List.set_cons_succ, vagg]
    generalize w14.heap.size = Bv at *
    generalize w14.alloc (.cells #[.int .i64 4, .string ⟨#[50, 46, 48]⟩, .slice none 0 0, .slice none 0 0, .int .i64 4, .string s, .slice none 0 0, .slice none 0 0, .int .i64 yk, .string ys, .slice ya yn yc, .slice yd ye yf] 36) = w15 at *
    have HV := hide hbx
    have HVL := hide hlow
    clear hbx hlow
    refine wpAnyH_ready (rs := [6]) (by kernel_rfl) (by simp) ?_
    refine AllReadyH.cons rfl (fun K9 hK => ?_) AllReadyH.nil
    go_simp
    have hcall := robject_any w15 (some ⟨Bk, 0, none⟩) (some ⟨Bv, 0, none⟩) 3 3 3 3
    try unfold vagg at hcall
    try simp only at hcall
    refine hcall.mono ?_
    rintro e w16 ⟨rfl, hb9⟩
    have HB9 := hide (HB.out.trans (hb9.mono HB.out.size))
    have HK9 := hide (HK.out.below hb9)
    have HV9 := hide (HV.out.below hb9)
    clear hcall
    clear HB HK HV
    have HB := HB9
    clear HB9
    have HK := HK9
    clear HK9
    have HV := HV9
    clear HV9
    have HT : Hid (TIn w16 (fun b => b ≠ w.heap.size + 1) (6, ⟨#[]⟩, .slice (some ⟨Bk, 0, none⟩) 3 3, .slice (some ⟨Bv, 0, none⟩) 3 3) (msgT qMeth qPar (textT s) C)) := obj3_in (x := cVer) (y := (4, s, .slice none 0 0, .slice none 0 0)) (z := (yk, ys, .slice ya yn yc, .slice yd ye yf)) HK.out HV.out (by show Bk ≠ _; have := HKL.out; have := HQ.out.lt; omega) (by show Bv ≠ _; have := HVL.out; have := HQ.out.lt; omega) (flat_in _ _ (x := cVer) ⟨rfl, rfl⟩) (flat_in _ _ (x := (4, s, .slice none 0 0, .slice none 0 0)) ⟨rfl, rfl⟩) (HY0.out.bel HB.out)
    refine hK.out _ _ (HS.out _ HB.out) (fun _ => ?_)
    clear hK K9 hb9
    try simp only [Act.put, List.setIfInBounds_toArray, List.set_cons_zero, List.set_cons_succ, vagg]
    have hq4 := HQ.out.below HB.out
    have z0 := hq4.cell 0
    have z1 := hq4.cell 1
    have z2 := hq4.cell 2
    have z3 := hq4.cell 3
    simp only [List.getElem?_toArray, List.getElem?_cons_zero, List.getElem?_cons_succ] at z0 z1 z2 z3
    have y0 := hq4.frozen 0
    have y1 := hq4.frozen 1
    have y2 := hq4.frozen 2
    have y3 := hq4.frozen 3
    have lX := hq4.lt
    have HQ4 := hide hq4
    have HBF : Hid (Below w0.heap.size w0 w16) := HB.out
    clear hq4
    refine wpAnyH_ready (rs := [7]) (by kernel_rfl) (by simp) ?_
    refine AllReadyH.cons rfl (fun K9 hK => ?_) AllReadyH.nil
    go_simp
    have hS0 := box_off4 (HP.out.below HBF.out) (show w.heap.size ≠ w.heap.size + 1 by omega) (.int .i64 6) (.string ⟨#[]⟩) (.slice (some ⟨Bk, 0, none⟩) 3 3) (.slice (some ⟨Bv, 0, none⟩) 3 3)
    refine hK.out _ _ ⟨hS0.cell 0, hS0.cell 1, hS0.cell 2, hS0.cell 3⟩ (fun _ => ?_)
    clear hK K9 hS0
    try simp only [Act.put, List.setIfInBounds_toArray, List.set_cons_zero, List.set_cons_succ, vagg]
    refine wpAnyH_done (by kernel_rfl) ?_ _
    go_wp2
    refine bodyPost_ret (results_rv rfl rfl (resJ_v HQ4.out (.int .i64 6) (.string ⟨#[]⟩) (.slice (some ⟨Bk, 0, none⟩) 3 3) (.slice (some ⟨Bv, 0, none⟩) 3 3))) rfl ?_
    refine ⟨(6, ⟨#[]⟩, .slice (some ⟨Bk, 0, none⟩) 3 3, .slice (some ⟨Bv, 0, none⟩) 3 3), rfl, below4 (HB1.out.trans (HBF.out.mono HB1.out.size)) (by omega) _ _ _ _, HT.out.keep fun b hs _ => ?_⟩
    have hne : b ≠ w.heap.size + 1 := hs
    refine ⟨trivial, ?_⟩
    rw [Below.heap_setCell _ ⟨w.heap.size + 1, 3, none⟩ _ b hne, Below.heap_setCell _ ⟨w.heap.size + 1, 2, none⟩ _ b hne, Below.heap_setCell _ ⟨w.heap.size + 1, 1, none⟩ _ b hne, Below.heap_setCell _ ⟨w.heap.size + 1, 0, none⟩ _ b hne]
  · go_simp
    have hcall := rtext_any wd ⟨#[50, 46, 48]⟩
    try unfold vagg at hcall
    try simp only at hcall
    refine hcall.mono ?_
    rintro e w17 ⟨rfl, hb9⟩
    have HB9 := hide (HB.out.trans (hb9.mono HB.out.size))
    clear hcall
    clear HB
    have HB := HB9
    clear HB9
    refine hK.out _ _ (HS.out _ HB.out) (fun _ => ?_)
    clear hK K9 hb9
    try simp only [Act.put, List.setIfInBounds_toArray, List.set_cons_zero, List.set_cons_succ, vagg]
    refine wpAnyH_ready (rs := [0, 3]) (by kernel_rfl) (by simp) ?_
    refine AllReadyH.cons rfl (fun K9 hK => ?_) (AllReadyH.cons rfl (fun K9 hK => ?_) AllReadyH.nil)
    · go_simp
      have hb9 := bel w17 (.cells #[.string ⟨#[106, 115, 111, 110, 114, 112, 99]⟩, .string ⟨#[109, 101, 116, 104, 111, 100]⟩, .string ⟨#[112, 97, 114, 97, 109, 115]⟩] 9)
      have hbx := BoxC.new w17 9 #[.string ⟨#[106, 115, 111, 110, 114, 112, 99]⟩, .string ⟨#[109, 101, 116, 104, 111, 100]⟩, .string ⟨#[112, 97, 114, 97, 109, 115]⟩]
      have hlow := HB.out.size
      have HB9 := hide (HB.out.trans (hb9.mono HB.out.size))
      clear HB
      have HB := HB9
      clear HB9
      refine hK.out _ _ (HS.out _ HB.out) (fun _ => ?_)
      clear hK K9 hb9
      try simp only [Act.put, List.setIfInBounds_toArray, List.set_cons_zero, List.set_cons_succ, vagg]
      generalize w17.heap.size = Bk at *
      generalize w17.alloc (.cells #[.string ⟨#[106, 115, 111, 110, 114, 112, 99]⟩, .string ⟨#[109, 101, 116, 104, 111, 100]⟩, .string ⟨#[112, 97, 114, 97, 109, 115]⟩] 9) = w18 at *
      have HK := hide hbx
      have HKL := hide hlow
      clear hbx hlow
      refine wpAnyH_ready (rs := [3]) (by kernel_rfl) (by simp) ?_
      refine AllReadyH.cons rfl (fun K9 hK => ?_) AllReadyH.nil
      go_simp
      have hcall := rtext_any w18 s
      try unfold vagg at hcall
      try simp only at hcall
      refine hcall.mono ?_
      rintro e w19 ⟨rfl, hb9⟩
      have HB9 := hide (HB.out.trans (hb9.mono HB.out.size))
      have HK9 := hide (HK.out.below hb9)
      clear hcall
      clear HB HK
      have HB := HB9
      clear HB9
      have HK := HK9
      clear HK9
      refine hK.out _ _ (HS.out _ HB.out) (fun _ => ?_)
      clear hK K9 hb9
      try simp only [Act.put, List.setIfInBounds_toArray, List.set_cons_zero, List.set_cons_succ, vagg]
      refine wpAnyH_ready (rs := [5]) (by kernel_rfl) (by simp) ?_
      refine AllReadyH.cons rfl (fun K9 hK => ?_) AllReadyH.nil
      go_simp
      have hb9 := bel w19 (.cells #[.int .i64 4, .string ⟨#[50, 46, 48]⟩, .slice none 0 0, .slice none 0 0, .int .i64 4, .string s, .slice none 0 0, .slice none 0 0, .int .i64 yk, .string ys, .slice ya yn yc, .slice yd ye yf] 36)
      have hbx := BoxC.new w19 36 #[.int .i64 4, .string ⟨#[50, 46, 48]⟩, .slice none 0 0, .slice none 0 0, .int .i64 4, .string s, .slice none 0 0, .slice none 0 0, .int .i64 yk, .string ys, .slice ya yn yc, .slice yd ye yf]
      have hlow := HB.out.size
      have HB9 := hide (HB.out.trans (hb9.mono HB.out.size))
      have HK9 := hide (HK.out.below hb9)
      clear HB HK
      have HB := HB9
      clear HB9
      have HK := HK9
      clear HK9
      refine hK.out _ _ (HS.out _ HB.out) (fun _ => ?_)
      clear hK K9 hb9
      try simp only [Act.put, List.setIfInBounds_toArray, List.set_cons_zero, List.set_cons_succ, vagg]
      generalize w19.heap.size = Bv at *
      generalize w19.alloc (.cells #[.int .i64 4, .string ⟨#[50, 46, 48]⟩, .slice none 0 0, .slice none 0 0, .int .i64 4, .string s, .slice none 0 0, .slice none 0 0, .int .i64 yk, .string ys, .slice ya yn yc, .slice yd ye yf] 36) = w20 at *
      have HV := hide hbx
      have HVL := hide hlow
      clear hbx hlow
      refine wpAnyH_ready (rs := [6]) (by kernel_rfl) (by simp) ?_
      refine AllReadyH.cons rfl (fun K9 hK => ?_) AllReadyH.nil
      go_simp
      have hcall := robject_any w20 (some ⟨Bk, 0, none⟩) (some ⟨Bv, 0, none⟩) 3 3 3 3
      try unfold vagg at hcall
      try simp only at hcall
      refine hcall.mono ?_
      rintro e w21 ⟨rfl, hb9⟩
      have HB9 := hide (HB.out.trans (hb9.mono HB.out.size))
      have HK9 := hide (HK.out.below hb9)
      have HV9 := hide (HV.out.below hb9)
      clear hcall
      clear HB HK HV
      have HB := HB9
      clear HB9
      have HK := HK9
      clear HK9
      have HV := HV9
      clear HV9
      have HT : Hid (TIn w21 (fun b => b ≠ w.heap.size + 1) (6, ⟨#[]⟩, .slice (some ⟨Bk, 0, none⟩) 3 3, .slice (some ⟨Bv, 0, none⟩) 3 3) (msgT qMeth qPar (textT s) C)) := obj3_in (x := cVer) (y := (4, s, .slice none 0 0, .slice none 0 0)) (z := (yk, ys, .slice ya yn yc, .slice yd ye yf)) HK.out HV.out (by show Bk ≠ _; have := HKL.out; have := HQ.out.lt; omega) (by show Bv ≠ _; have := HVL.out; have := HQ.out.lt; omega) (flat_in _ _ (x := cVer) ⟨rfl, rfl⟩) (flat_in _ _ (x := (4, s, .slice none 0 0, .slice none 0 0)) ⟨rfl, rfl⟩) (HY0.out.bel HB.out)
      refine hK.out _ _ (HS.out _ HB.out) (fun _ => ?_)
      clear hK K9 hb9
      try simp only [Act.put, List.setIfInBounds_toArray, List.set_cons_zero, List.set_cons_succ, vagg]
      have hq4 := HQ.out.below HB.out
      have z0 := hq4.cell 0
      have z1 := hq4.cell 1
      have z2 := hq4.cell 2
      have z3 := hq4.cell 3
      simp only [List.getElem?_toArray, List.getElem?_cons_zero, List.getElem?_cons_succ] at z0 z1 z2 z3
      have y0 := hq4.frozen 0
      have y1 := hq4.frozen 1
      have y2 := hq4.frozen 2
      have y3 := hq4.frozen 3
      have lX := hq4.lt
      have HQ4 := hide hq4
      have HBF : Hid (Below w0.heap.size w0 w21) := HB.out
      clear hq4
      refine wpAnyH_ready (rs := [7]) (by kernel_rfl) (by simp) ?_
      refine AllReadyH.cons rfl (fun K9 hK => ?_) AllReadyH.nil
      go_simp
      have hS0 := box_off4 (HP.out.below HBF.out) (show w.heap.size ≠ w.heap.size + 1 by omega) (.int .i64 6) (.string ⟨#[]⟩) (.slice (some ⟨Bk, 0, none⟩) 3 3) (.slice (some ⟨Bv, 0, none⟩) 3 3)
      refine hK.out _ _ ⟨hS0.cell 0, hS0.cell 1, hS0.cell 2, hS0.cell 3⟩ (fun _ => ?_)
      clear hK K9 hS0
      try simp only [Act.put, List.setIfInBounds_toArray, List.set_cons_zero, List.set_cons_succ, vagg]
      refine wpAnyH_done (by kernel_rfl) ?_ _
      go_wp2
      refine bodyPost_ret (results_rv rfl rfl (resJ_v HQ4.out (.int .i64 6) (.string ⟨#[]⟩) (.slice (some ⟨Bk, 0, none⟩) 3 3) (.slice (some ⟨Bv, 0, none⟩) 3 3))) rfl ?_
      refine ⟨(6, ⟨#[]⟩, .slice (some ⟨Bk, 0, none⟩) 3 3, .slice (some ⟨Bv, 0, none⟩) 3 3), rfl, below4 (HB1.out.trans (HBF.out.mono HB1.out.size)) (by omega) _ _ _ _, HT.out.keep fun b hs _ => ?_⟩
      have hne : b ≠ w.heap.size + 1 := hs
      refine ⟨trivial, ?_⟩
      rw [Below.heap_setCell _ ⟨w.heap.size + 1, 3, none⟩ _ b hne, Below.heap_setCell _ ⟨w.heap.size + 1, 2, none⟩ _ b hne, Below.heap_setCell _ ⟨w.heap.size + 1, 1, none⟩ _ b hne, Below.heap_setCell _ ⟨w.heap.size + 1, 0, none⟩ _ b hne]
    · go_simp
      have hcall := rtext_any w17 s
      try unfold vagg at hcall
      try simp only at hcall
      refine hcall.mono ?_
      rintro e w22 ⟨rfl, hb9⟩
      have HB9 := hide (HB.out.trans (hb9.mono HB.out.size))
      clear hcall
      clear HB
      have HB := HB9
      clear HB9
      refine hK.out _ _ (HS.out _ HB.out) (fun _ => ?_)
      clear hK K9 hb9
      try simp only [Act.put, List.setIfInBounds_toArray, List.set_cons_zero, List.set_cons_succ, vagg]
      refine wpAnyH_ready (rs := [0, 5]) (by kernel_rfl) (by simp) ?_
      refine AllReadyH.cons rfl (fun K9 hK => ?_) (AllReadyH.cons rfl (fun K9 hK => ?_) AllReadyH.nil)
      · go_simp
        have hb9 := bel w22 (.cells #[.string ⟨#[106, 115, 111, 110, 114, 112, 99]⟩, .string ⟨#[109, 101, 116, 104, 111, 100]⟩, .string ⟨#[112, 97, 114, 97, 109, 115]⟩] 9)
        have hbx := BoxC.new w22 9 #[.string ⟨#[106, 115, 111, 110, 114, 112, 99]⟩, .string ⟨#[109, 101, 116, 104, 111, 100]⟩, .string ⟨#[112, 97, 114, 97, 109, 115]⟩]
        have hlow := HB.out.size
        have HB9 := hide (HB.out.trans (hb9.mono HB.out.size))
        clear HB
        have HB := HB9
        clear HB9
        refine hK.out _ _ (HS.out _ HB.out) (fun _ => ?_)
        clear hK K9 hb9
        try simp only [Act.put, List.setIfInBounds_toArray, List.set_cons_zero, List.set_cons_succ, vagg]
        generalize w22.heap.size = Bk at *
        generalize w22.alloc (.cells #[.string ⟨#[106, 115, 111, 110, 114, 112, 99]⟩, .string ⟨#[109, 101, 116, 104, 111, 100]⟩, .string ⟨#[112, 97, 114, 97, 109, 115]⟩] 9) = w23 at *
        have HK := hide hbx
        have HKL := hide hlow
        clear hbx hlow
        refine wpAnyH_ready (rs := [5]) (by kernel_rfl) (by simp) ?_
        refine AllReadyH.cons rfl (fun K9 hK => ?_) AllReadyH.nil
        go_simp
        have hb9 := bel w23 (.cells #[.int .i64 4, .string ⟨#[50, 46, 48]⟩, .slice none 0 0, .slice none 0 0, .int .i64 4, .string s, .slice none 0 0, .slice none 0 0, .int .i64 yk, .string ys, .slice ya yn yc, .slice yd ye yf] 36)
        have hbx := BoxC.new w23 36 #[.int .i64 4, .string ⟨#[50, 46, 48]⟩, .slice none 0 0, .slice none 0 0, .int .i64 4, .string s, .slice none 0 0, .slice none 0 0, .int .i64 yk, .string ys, .slice ya yn yc, .slice yd ye yf]
        have hlow := HB.out.size
        have HB9 := hide (HB.out.trans (hb9.mono HB.out.size))
        have HK9 := hide (HK.out.below hb9)
        clear HB HK
        have HB := HB9
        clear HB9
        have HK := HK9
        clear HK9
        refine hK.out _ _ (HS.out _ HB.out) (fun _ => ?_)
        clear hK K9 hb9
        try simp only [Act.put, List.setIfInBounds_toArray, List.set_cons_zero, List.set_cons_succ, vagg]
        generalize w23.heap.size = Bv at *
        generalize w23.alloc (.cells #[.int .i64 4, .string ⟨#[50, 46, 48]⟩, .slice none 0 0, .slice none 0 0, .int .i64 4, .string s, .slice none 0 0, .slice none 0 0, .int .i64 yk, .string ys, .slice ya yn yc, .slice yd ye yf] 36) = w24 at *
        have HV := hide hbx
        have HVL := hide hlow
        clear hbx hlow
        refine wpAnyH_ready (rs := [6]) (by kernel_rfl) (by simp) ?_
        refine AllReadyH.cons rfl (fun K9 hK => ?_) AllReadyH.nil
        go_simp
        have hcall := robject_any w24 (some ⟨Bk, 0, none⟩) (some ⟨Bv, 0, none⟩) 3 3 3 3
        try unfold vagg at hcall
        try simp only at hcall
        refine hcall.mono ?_
        rintro e w25 ⟨rfl, hb9⟩
        have HB9 := hide (HB.out.trans (hb9.mono HB.out.size))
        have HK9 := hide (HK.out.below hb9)
        have HV9 := hide (HV.out.below hb9)
        clear hcall
        clear HB HK HV
        have HB := HB9
        clear HB9
        have HK := HK9
        clear HK9
        have HV := HV9
        clear HV9
        have HT : Hid (TIn w25 (fun b => b ≠ w.heap.size + 1) (6, ⟨#[]⟩, .slice (some ⟨Bk, 0, none⟩) 3 3, .slice (some ⟨Bv, 0, none⟩) 3 3) (msgT qMeth qPar (textT s) C)) := obj3_in (x := cVer) (y := (4, s, .slice none 0 0, .slice none 0 0)) (z := (yk, ys, .slice ya yn yc, .slice yd ye yf)) HK.out HV.out (by show Bk ≠ _; have := HKL.out; have := HQ.out.lt; omega) (by show Bv ≠ _; have := HVL.out; have := HQ.out.lt; omega) (flat_in _ _ (x := cVer) ⟨rfl, rfl⟩) (flat_in _ _ (x := (4, s, .slice none 0 0, .slice none 0 0)) ⟨rfl, rfl⟩) (HY0.out.bel HB.out)
        refine hK.out _ _ (HS.out _ HB.out) (fun _ => ?_)
        clear hK K9 hb9
        try simp only [Act.put, List.setIfInBounds_toArray, List.set_cons_zero, List.set_cons_succ, vagg]
        have hq4 := HQ.out.below HB.out
        have z0 := hq4.cell 0
        have z1 := hq4.cell 1
        have z2 := hq4.cell 2
        have z3 := hq4.cell 3
        simp only [List.getElem?_toArray, List.getElem?_cons_zero, List.getElem?_cons_succ] at z0 z1 z2 z3
        have y0 := hq4.frozen 0
        have y1 := hq4.frozen 1
        have y2 := hq4.frozen 2
        have y3 := hq4.frozen 3
        have lX := hq4.lt
        have HQ4 := hide hq4
        have HBF : Hid (Below w0.heap.size w0 w25) := HB.out
        clear hq4
        refine wpAnyH_ready (rs := [7]) (by kernel_rfl) (by simp) ?_
        refine AllReadyH.cons rfl (fun K9 hK => ?_) AllReadyH.nil
        go_simp
        have hS0 := box_off4 (HP.out.below HBF.out) (show w.heap.size ≠ w.heap.size + 1 by omega) (.int .i64 6) (.string ⟨#[]⟩) (.slice (some ⟨Bk, 0, none⟩) 3 3) (.slice (some ⟨Bv, 0, none⟩) 3 3)
        refine hK.out _ _ ⟨hS0.cell 0, hS0.cell 1, hS0.cell 2, hS0.cell 3⟩ (fun _ => ?_)
        clear hK K9 hS0
        try simp only [Act.put, List.setIfInBounds_toArray, List.set_cons_zero, List.set_cons_succ, vagg]
        refine wpAnyH_done (by kernel_rfl) ?_ _
        go_wp2
        refine bodyPost_ret (results_rv rfl rfl (resJ_v HQ4.out (.int .i64 6) (.string ⟨#[]⟩) (.slice (some ⟨Bk, 0, none⟩) 3 3) (.slice (some ⟨Bv, 0, none⟩) 3 3))) rfl ?_
        refine ⟨(6, ⟨#[]⟩, .slice (some ⟨Bk, 0, none⟩) 3 3, .slice (some ⟨Bv, 0, none⟩) 3 3), rfl, below4 (HB1.out.trans (HBF.out.mono HB1.out.size)) (by omega) _ _ _ _, HT.out.keep fun b hs _ => ?_⟩
        have hne : b ≠ w.heap.size + 1 := hs
        refine ⟨trivial, ?_⟩
        rw [Below.heap_setCell _ ⟨w.heap.size + 1, 3, none⟩ _ b hne, Below.heap_setCell _ ⟨w.heap.size + 1, 2, none⟩ _ b hne, Below.heap_setCell _ ⟨w.heap.size + 1, 1, none⟩ _ b hne, Below.heap_setCell _ ⟨w.heap.size + 1, 0, none⟩ _ b hne]
      · go_simp
        have hb9 := bel w22 (.cells #[.int .i64 4, .string ⟨#[50, 46, 48]⟩, .slice none 0 0, .slice none 0 0, .int .i64 4, .string s, .slice none 0 0, .slice none 0 0, .int .i64 yk, .string ys, .slice ya yn yc, .slice yd ye yf] 36)
        have hbx := BoxC.new w22 36 #[.int .i64 4, .string ⟨#[50, 46, 48]⟩, .slice none 0 0, .slice none 0 0, .int .i64 4, .string s, .slice none 0 0, .slice none 0 0, .int .i64 yk, .string ys, .slice ya yn yc, .slice yd ye yf]
        have hlow := HB.out.size
        have HB9 := hide (HB.out.trans (hb9.mono HB.out.size))
        clear HB
        have HB := HB9
        clear HB9
        refine hK.out _ _ (HS.out _ HB.out) (fun _ => ?_)
        clear hK K9 hb9
        try simp only [Act.put, List.setIfInBounds_toArray, List.set_cons_zero, List.set_cons_succ, vagg]
        generalize w22.heap.size = Bv at *
        generalize w22.alloc (.cells #[.int .i64 4, .string ⟨#[50, 46, 48]⟩, .slice none 0 0, .slice none 0 0, .int .i64 4, .string s, .slice none 0 0, .slice none 0 0, .int .i64 yk, .string ys, .slice ya yn yc, .slice yd ye yf] 36) = w26 at *
        have HV := hide hbx
        have HVL := hide hlow
        clear hbx hlow
        refine wpAnyH_ready (rs := [0]) (by kernel_rfl) (by simp) ?_
        refine AllReadyH.cons rfl (fun K9 hK => ?_) AllReadyH.nil
        go_simp
        have hb9 := bel w26 (.cells #[.string ⟨#[106, 115, 111, 110, 114, 112, 99]⟩, .string ⟨#[109, 101, 116, 104, 111, 100]⟩, .string ⟨#[112, 97, 114, 97, 109, 115]⟩] 9)
        have hbx := BoxC.new w26 9 #[.string ⟨#[106, 115, 111, 110, 114, 112, 99]⟩, .string ⟨#[109, 101, 116, 104, 111, 100]⟩, .string ⟨#[112, 97, 114, 97, 109, 115]⟩]
        have hlow := HB.out.size
        have HB9 := hide (HB.out.trans (hb9.mono HB.out.size))
        have HV9 := hide (HV.out.below hb9)
        clear HB HV
        have HB := HB9
        clear HB9
        have HV := HV9
        clear HV9
        refine hK.out _ _ (HS.out _ HB.out) (fun _ => ?_)
        clear hK K9 hb9
        try simp only [Act.put, List.setIfInBounds_toArray, List.set_cons_zero, List.set_cons_succ, vagg]
        generalize w26.heap.size = Bk at *
        generalize w26.alloc (.cells #[.string ⟨#[106, 115, 111, 110, 114, 112, 99]⟩, .string ⟨#[109, 101, 116, 104, 111, 100]⟩, .string ⟨#[112, 97, 114, 97, 109, 115]⟩] 9) = w27 at *
        have HK := hide hbx
        have HKL := hide hlow
        clear hbx hlow
        refine wpAnyH_ready (rs := [6]) (by kernel_rfl) (by simp) ?_
        refine AllReadyH.cons rfl (fun K9 hK => ?_) AllReadyH.nil
        go_simp
        have hcall := robject_any w27 (some ⟨Bk, 0, none⟩) (some ⟨Bv, 0, none⟩) 3 3 3 3
        try unfold vagg at hcall
        try simp only at hcall
        refine hcall.mono ?_
        rintro e w28 ⟨rfl, hb9⟩
        have HB9 := hide (HB.out.trans (hb9.mono HB.out.size))
        have HV9 := hide (HV.out.below hb9)
        have HK9 := hide (HK.out.below hb9)
        clear hcall
        clear HB HV HK
        have HB := HB9
        clear HB9
        have HV := HV9
        clear HV9
        have HK := HK9
        clear HK9
        have HT : Hid (TIn w28 (fun b => b ≠ w.heap.size + 1) (6, ⟨#[]⟩, .slice (some ⟨Bk, 0, none⟩) 3 3, .slice (some ⟨Bv, 0, none⟩) 3 3) (msgT qMeth qPar (textT s) C)) := obj3_in (x := cVer) (y := (4, s, .slice none 0 0, .slice none 0 0)) (z := (yk, ys, .slice ya yn yc, .slice yd ye yf)) HK.out HV.out (by show Bk ≠ _; have := HKL.out; have := HQ.out.lt; omega) (by show Bv ≠ _; have := HVL.out; have := HQ.out.lt; omega) (flat_in _ _ (x := cVer) ⟨rfl, rfl⟩) (flat_in _ _ (x := (4, s, .slice none 0 0, .slice none 0 0)) ⟨rfl, rfl⟩) (HY0.out.bel HB.out)
        refine hK.out _ _ (HS.out _ HB.out) (fun _ => ?_)
        clear hK K9 hb9
        try simp only [Act.put, List.setIfInBounds_toArray, List.set_cons_zero, List.set_cons_succ, vagg]
        have hq4 := HQ.out.below HB.out
        have z0 := hq4.cell 0
        have z1 := hq4.cell 1
        have z2 := hq4.cell 2
        have z3 := hq4.cell 3
        simp only [List.getElem?_toArray, List.getElem?_cons_zero, List.getElem?_cons_succ] at z0 z1 z2 z3
        have y0 := hq4.frozen 0
        have y1 := hq4.frozen 1
        have y2 := hq4.frozen 2
        have y3 := hq4.frozen 3
        have lX := hq4.lt
        have HQ4 := hide hq4
        have HBF : Hid (Below w0.heap.size w0 w28) := HB.out
        clear hq4
        refine wpAnyH_ready (rs := [7]) (by kernel_rfl) (by simp) ?_
        refine AllReadyH.cons rfl (fun K9 hK => ?_) AllReadyH.nil
        go_simp
        have hS0 := box_off4 (HP.out.below HBF.out) (show w.heap.size ≠ w.heap.size + 1 by omega) (.int .i64 6) (.string ⟨#[]⟩) (.slice (some ⟨Bk, 0, none⟩) 3 3) (.slice (some ⟨Bv, 0, none⟩) 3 3)
        refine hK.out _ _ ⟨hS0.cell 0, hS0.cell 1, hS0.cell 2, hS0.cell 3⟩ (fun _ => ?_)
        clear hK K9 hS0
        try simp only [Act.put, List.setIfInBounds_toArray, List.set_cons_zero, List.set_cons_succ, vagg]
        refine wpAnyH_done (by kernel_rfl) ?_ _
        go_wp2
        refine bodyPost_ret (results_rv rfl rfl (resJ_v HQ4.out (.int .i64 6) (.string ⟨#[]⟩) (.slice (some ⟨Bk, 0, none⟩) 3 3) (.slice (some ⟨Bv, 0, none⟩) 3 3))) rfl ?_
        refine ⟨(6, ⟨#[]⟩, .slice (some ⟨Bk, 0, none⟩) 3 3, .slice (some ⟨Bv, 0, none⟩) 3 3), rfl, below4 (HB1.out.trans (HBF.out.mono HB1.out.size)) (by omega) _ _ _ _, HT.out.keep fun b hs _ => ?_⟩
        have hne : b ≠ w.heap.size + 1 := hs
        refine ⟨trivial, ?_⟩
        rw [Below.heap_setCell _ ⟨w.heap.size + 1, 3, none⟩ _ b hne, Below.heap_setCell _ ⟨w.heap.size + 1, 2, none⟩ _ b hne, Below.heap_setCell _ ⟨w.heap.size + 1, 1, none⟩ _ b hne, Below.heap_setCell _ ⟨w.heap.size + 1, 0, none⟩ _ b hne]


end Go.Proofs.YtbdpmpepmjpadaaGreatDoor

namespace Go.Proofs.YtbdpmpepmjpadaaGreatDoor
set_option linter.unusedVariables false
set_option linter.unusedSimpArgs false
set_option maxRecDepth 100000
open Go Go.RowKit Go.Shelf Go.Lib

set_option maxHeartbeats 32000000 in
theorem rerror_any (w : World) {S : Nat → Prop} (n : Int) (h1 : -9223372036854775808 ≤ n) (h2 : n ≤ 9223372036854775807) {x : JC} {A : JT} (hx : TIn w S x A) :
    Calls Tryz.prog 17 #[.agg #[.int .i64 n, .int .i64 x.1, .string x.2.1, x.2.2.1, x.2.2.2]] w (RNewT (msgT qId qErr A (errT n)) w) := by
  obtain ⟨hx2, hx3⟩ := hx.sl
  obtain ⟨xk, xs, xv, xw⟩ := x
  obtain ⟨xa, xn, xc, rfl⟩ := hx2
  obtain ⟨xd, xe, xf, rfl⟩ := hx3
  have hb : Below w.heap.size w ((w.alloc (.cells #[.int .i64 n, .int .i64 xk, .string xs, .slice xa xn xc, .slice xd xe xf] 40)).alloc (.cells #[.int .i64 0, .string ⟨#[]⟩, .slice none 0 0, .slice none 0 0] 36)) := ((bel w _).alloc (by simp) _)
  have hz0 := ((BoxC.new w 40 #[.int .i64 n, .int .i64 xk, .string xs, .slice xa xn xc, .slice xd xe xf]).alloc (.cells #[.int .i64 0, .string ⟨#[]⟩, .slice none 0 0, .slice none 0 0] 36))
  have hz1 := (BoxC.new (w.alloc (.cells #[.int .i64 n, .int .i64 xk, .string xs, .slice xa xn xc, .slice xd xe xf] 40)) 36 #[.int .i64 0, .string ⟨#[]⟩, .slice none 0 0, .slice none 0 0])
  rw [World.size_alloc] at hz1
  generalize hw0 : (w.alloc (.cells #[.int .i64 n, .int .i64 xk, .string xs, .slice xa xn xc, .slice xd xe xf] 40)).alloc (.cells #[.int .i64 0, .string ⟨#[]⟩, .slice none 0 0, .slice none 0 0] 36) = w0 at *
  simp only
  have HNU := hide (fun W => rnumber_any W n h1 h2)
  have HME := hide (fun W => rmeaning_any W n)
  have HOB : Hid (∀ (W : World) (Bk Bv : Nat), BoxC W Bk 9 #[.string qCode, .string qMsg] → BoxC W Bv 36 (vcell (nC (strOf (itoaT n))) ++ vcell (4, meanT n, .slice none 0 0, .slice none 0 0)).toArray → w0.heap.size ≤ Bk → w0.heap.size ≤ Bv → TIn W (fun b => some b ≠ some (w.heap.size + 1)) (6, ⟨#[]⟩, .slice (some ⟨Bk, 0, none⟩) 2 2, .slice (some ⟨Bv, 0, none⟩) 2 2) (errT n)) := fun W Bk Bv h3 h4 h5 h6 => obj2_in h3 h4 (fun e => by cases e; have := hz1.lt; omega) (fun e => by cases e; have := hz1.lt; omega) (num_in W _ n) (flat_in _ _ (x := (4, meanT n, .slice none 0 0, .slice none 0 0)) ⟨rfl, rfl⟩)
  have HRE : Hid (∀ (W : World) (p : JC), TIn W (fun b => some b ≠ some (w.heap.size + 1)) (xk, xs, .slice xa xn xc, .slice xd xe xf) A → TIn W (fun b => some b ≠ some (w.heap.size + 1)) p (errT n) → Below w0.heap.size w0 W → Calls Tryz.prog 16 #[vagg (xk, xs, .slice xa xn xc, .slice xd xe xf), .string qErr, vagg p] W (RNewN (some (w.heap.size + 1)) (msgT qId qErr A (errT n)) W)) := fun W p h3 h4 h5 => reply_any W (some (w.heap.size + 1)) (fun n e => by cases e; have := h5.size; have := hz1.lt; omega) qErr h3 h4
  unfold nC vagg at HNU
  unfold nC vcell qCode qMsg at HOB
  unfold vagg qErr RNewN at HRE
  simp only [List.cons_append, List.nil_append] at HNU HOB HRE
  generalize hsn : strOf (itoaT n) = sn at HNU HOB
  generalize hsm : meanT n = sm at HME HOB
  clear hsn hsm
  have HS : Hid (∀ X0 : World, Below w0.heap.size w0 X0 → (X0.cell? ⟨w.heap.size, 0, none⟩ = some (.int .i64 n) ∧ X0.cell? ⟨w.heap.size, 1, none⟩ = some (.int .i64 xk) ∧ X0.cell? ⟨w.heap.size, 2, none⟩ = some (.string xs) ∧ X0.cell? ⟨w.heap.size, 3, none⟩ = some (.slice xa xn xc) ∧ X0.cell? ⟨w.heap.size, 4, none⟩ = some (.slice xd xe xf))) := fun X0 h => ⟨(hz0.below h).cell 0, (hz0.below h).cell 1, (hz0.below h).cell 2, (hz0.below h).cell 3, (hz0.below h).cell 4⟩
  have HW0 := hide hw0
  have HP := hide hz0
  have HQ := hide hz1
  have HB1 := hide hb
  have HX0 := hide (hx.keep (W' := w0) (S' := fun b => some b ≠ some (w.heap.size + 1)) fun b _ hlt => ⟨fun e => by cases e; omega, hb.block b hlt⟩)
  clear hw0 hz0 hz1 hb hx h1 h2
  go_enter Tryz.func17, Tryz.ntmps17
  go_upto_region 1 with fail
  rw [HW0.out]
  clear HW0
  refine wp_region_held_drew (S := fun X0 : World => X0.cell? ⟨w.heap.size, 0, none⟩ = some (.int .i64 n) ∧ X0.cell? ⟨w.heap.size, 1, none⟩ = some (.int .i64 xk) ∧ X0.cell? ⟨w.heap.size, 2, none⟩ = some (.string xs) ∧ X0.cell? ⟨w.heap.size, 3, none⟩ = some (.slice xa xn xc) ∧ X0.cell? ⟨w.heap.size, 4, none⟩ = some (.slice xd xe xf)) (by kernel_rfl) (HS.out _ (Below.refl _ _).drew) (fun hHeld => ?_)
  have HB : Hid (Below w0.heap.size w0 w0.drew) := (Below.refl _ _).drew
  generalize w0.drew = wd at *
  refine takeD (i := 0) (v := ?v13) (some 3) rfl (by kernel_rfl) (by kernel_rfl) (by kernel_rfl) (fun _ _ _ h => h) (Or.inl ⟨by rfl, ?hy13⟩) (HS.out _ HB.out) (by rfl) ?rest13
  case hy13 => first | (intro w hSw; (try dsimp only at hSw); obtain ⟨s0, s1, s2, s3, s4⟩ := hSw; go_simp; done) | (intro w hSw; (try dsimp only at hSw); obtain ⟨s0, s1, s2, s3, s4⟩ := hSw; go_simp; with_reducible rfl)
  try simp only [Act.put, List.setIfInBounds_toArray, List.set_cons_zero, List.set_cons_succ, vagg]
  refine takeD (i := 1) (v := ?v14) (some 4) rfl (by kernel_rfl) (by kernel_rfl) (by kernel_rfl) (fun _ _ _ h => h) (Or.inl ⟨by rfl, ?hy14⟩) (HS.out _ HB.out) (by rfl) ?rest14
  case hy14 => first | (intro w hSw; (try dsimp only at hSw); obtain ⟨s0, s1, s2, s3, s4⟩ := hSw; go_simp; done) | (intro w hSw; (try dsimp only at hSw); obtain ⟨s0, s1, s2, s3, s4⟩ := hSw; go_simp; with_reducible rfl)
  try simp only [Act.put, List.setIfInBounds_toArray, List.set_cons_zero, List.set_cons_succ, vagg]
  refine takeD (i := 3) (v := ?v15) (some 6) rfl (by kernel_rfl) (by kernel_rfl) (by kernel_rfl) (fun _ _ _ h => h) (Or.inl ⟨by rfl, ?hy15⟩) (HS.out _ HB.out) (by rfl) ?rest15
  case hy15 => first | (intro w hSw; (try dsimp only at hSw); obtain ⟨s0, s1, s2, s3, s4⟩ := hSw; go_simp; done) | (intro w hSw; (try dsimp only at hSw); obtain ⟨s0, s1, s2, s3, s4⟩ := hSw; go_simp; with_reducible rfl)
  try simp only [Act.put, List.setIfInBounds_toArray, List.set_cons_zero, List.set_cons_succ, vagg]
  refine takeD (i := 4) (v := ?v16) (some 7) rfl (by kernel_rfl) (by kernel_rfl) (by kernel_rfl) (fun _ _ _ h => h) (Or.inl ⟨by rfl, ?hy16⟩) (HS.out _ HB.out) (by rfl) ?rest16
  case hy16 => first | (intro w hSw; (try dsimp only at hSw); obtain ⟨s0, s1, s2, s3, s4⟩ := hSw; go_simp; done) | (intro w hSw; (try dsimp only at hSw); obtain ⟨s0, s1, s2, s3, s4⟩ := hSw; go_simp; with_reducible rfl)
  try simp only [Act.put, List.setIfInBounds_toArray, List.set_cons_zero, List.set_cons_succ, vagg]
  refine takeD (i := 6) (v := ?v17) (some 9) rfl (by kernel_rfl) (by kernel_rfl) (by kernel_rfl) (fun _ _ _ h => h) (Or.inl ⟨by rfl, ?hy17⟩) (HS.out _ HB.out) (by rfl) ?rest17
  case hy17 => first | (intro w hSw; (try dsimp only at hSw); obtain ⟨s0, s1, s2, s3, s4⟩ := hSw; go_simp; done) | (intro w hSw; (try dsimp only at hSw); obtain ⟨s0, s1, s2, s3, s4⟩ := hSw; go_simp; with_reducible rfl)
  try simp only [Act.put, List.setIfInBounds_toArray, List.set_cons_zero, List.set_cons_succ, vagg]
  refine takeD (i := 7) (v := ?v18) (some 10) rfl (by kernel_rfl) (by kernel_rfl) (by kernel_rfl) (fun _ _ _ h => h) (Or.inl ⟨by rfl, ?hy18⟩) (HS.out _ HB.out) (by rfl) ?rest18
  case hy18 => first | (intro w hSw; (try dsimp only at hSw); obtain ⟨s0, s1, s2, s3, s4⟩ := hSw; go_simp; done) | (intro w hSw; (try dsimp only at hSw); obtain ⟨s0, s1, s2, s3, s4⟩ := hSw; go_simp; with_reducible rfl)
  try simp only [Act.put, List.setIfInBounds_toArray, List.set_cons_zero, List.set_cons_succ, vagg]
  refine wpAnyH_ready (rs := [2, 5]) (by kernel_rfl) (by simp) ?_
  refine AllReadyH.cons rfl (fun K9 hK => ?_) (AllReadyH.cons rfl (fun K9 hK => ?_) AllReadyH.nil)
  · go_simp
    have hb9 := bel wd (.cells #[.string ⟨#[99, 111, 100, 101]⟩, .string ⟨#[109, 101, 115, 115, 97, 103, 101]⟩] 9)
    have hbx := BoxC.new wd 9 #[.string ⟨#[99, 111, 100, 101]⟩, .string ⟨#[109, 101, 115, 115, 97, 103, 101]⟩]
    have hlow := HB.out.size
    have HB9 := hide (HB.out.trans (hb9.mono HB.out.size))
    clear HB
    have HB := HB9
    clear HB9
    refine hK.out _ _ (HS.out _ HB.out) (fun _ => ?_)
    clear hK K9 hb9
    try simp only [Act.put, List.setIfInBounds_toArray, List.set_cons_zero, List.set_cons_succ, vagg]
    generalize wd.heap.size = Bk at *
    generalize wd.alloc (.cells #[.string ⟨#[99, 111, 100, 101]⟩, .string ⟨#[109, 101, 115, 115, 97, 103, 101]⟩] 9) = w29 at *
    have HK := hide hbx
    have HKL := hide hlow
    clear hbx hlow
    refine wpAnyH_ready (rs := [5]) (by kernel_rfl) (by simp) ?_
    refine AllReadyH.cons rfl (fun K9 hK => ?_) AllReadyH.nil
    go_simp
    have hcall := HNU.out w29
    try unfold vagg at hcall
    try simp only at hcall
    refine hcall.mono ?_
    rintro e w30 ⟨rfl, hb9⟩
    have HB9 := hide (HB.out.trans (hb9.mono HB.out.size))
    have HK9 := hide (HK.out.below hb9)
    clear hcall
    clear HB HK
    have HB := HB9
    clear HB9
    have HK := HK9
    clear HK9
    refine hK.out _ _ (HS.out _ HB.out) (fun _ => ?_)
    clear hK K9 hb9
    try simp only [Act.put, List.setIfInBounds_toArray, List.set_cons_zero, List.set_cons_succ, vagg]
    refine wpAnyH_ready (rs := [8]) (by kernel_rfl) (by simp) ?_
    refine AllReadyH.cons rfl (fun K9 hK => ?_) AllReadyH.nil
    go_simp
    have hcall := HME.out w30
    try unfold vagg at hcall
    try simp only at hcall
    refine hcall.mono ?_
    rintro e w31 ⟨rfl, hb9⟩
    have HB9 := hide (HB.out.trans (hb9.mono HB.out.size))
    have HK9 := hide (HK.out.below hb9)
    clear hcall
    clear HB HK
    have HB := HB9
    clear HB9
    have HK := HK9
    clear HK9
    refine hK.out _ _ (HS.out _ HB.out) (fun _ => ?_)
    clear hK K9 hb9
    try simp only [Act.put, List.setIfInBounds_toArray, List.set_cons_zero, List.set_cons_succ, vagg]
    refine wpAnyH_ready (rs := [9]) (by kernel_rfl) (by simp) ?_
    refine AllReadyH.cons rfl (fun K9 hK => ?_) AllReadyH.nil
    go_simp
    have hcall := rtext_any w31 sm
    try unfold vagg at hcall
    try simp only at hcall
    refine hcall.mono ?_
    rintro e w32 ⟨rfl, hb9⟩
    have HB9 := hide (HB.out.trans (hb9.mono HB.out.size))
    have HK9 := hide (HK.out.below hb9)
    clear hcall
    clear HB HK
    have HB := HB9
    clear HB9
    have HK := HK9
    clear HK9
    refine hK.out _ _ (HS.out _ HB.out) (fun _ => ?_)
    clear hK K9 hb9
    try simp only [Act.put, List.setIfInBounds_toArray, List.set_cons_zero, List.set_cons_succ, vagg]
    refine wpAnyH_ready (rs := [10]) (by kernel_rfl) (by simp) ?_
    refine AllReadyH.cons rfl (fun K9 hK => ?_) AllReadyH.nil
    go_simp
    have hb9 := bel w32 (.cells #[.int .i64 3, .string sn, .slice none 0 0, .slice none 0 0, .int .i64 4, .string sm, .slice none 0 0, .slice none 0 0] 36)
    have hbx := BoxC.new w32 36 #[.int .i64 3, .string sn, .slice none 0 0, .slice none 0 0, .int .i64 4, .string sm, .slice none 0 0, .slice none 0 0]
    have hlow := HB.out.size
    have HB9 := hide (HB.out.trans (hb9.mono HB.out.size))
    have HK9 := hide (HK.out.below hb9)
    clear HB HK
    have HB := HB9
    clear HB9
    have HK := HK9
    clear HK9
    refine hK.out _ _ (HS.out _ HB.out) (fun _ => ?_)
    clear hK K9 hb9
    try simp only [Act.put, List.setIfInBounds_toArray, List.set_cons_zero, List.set_cons_succ, vagg]
    generalize w32.heap.size = Bv at *
    generalize w32.alloc (.cells #[.int .i64 3, .string sn, .slice none 0 0, .slice none 0 0, .int .i64 4, .string sm, .slice none 0 0, .slice none 0 0] 36) = w33 at *
    have HV := hide hbx
    have HVL := hide hlow
    clear hbx hlow
    refine wpAnyH_ready (rs := [11]) (by kernel_rfl) (by simp) ?_
    refine AllReadyH.cons rfl (fun K9 hK => ?_) AllReadyH.nil
    go_simp
    have hcall := robject_any w33 (some ⟨Bk, 0, none⟩) (some ⟨Bv, 0, none⟩) 2 2 2 2
    try unfold vagg at hcall
    try simp only at hcall
    refine hcall.mono ?_
    rintro e w34 ⟨rfl, hb9⟩
    have HB9 := hide (HB.out.trans (hb9.mono HB.out.size))
    have HK9 := hide (HK.out.below hb9)
    have HV9 := hide (HV.out.below hb9)
    clear hcall
    clear HB HK HV
    have HB := HB9
    clear HB9
    have HK := HK9
    clear HK9
    have HV := HV9
    clear HV9
    have HT : Hid (TIn w34 (fun b => some b ≠ some (w.heap.size + 1)) (6, ⟨#[]⟩, .slice (some ⟨Bk, 0, none⟩) 2 2, .slice (some ⟨Bv, 0, none⟩) 2 2) (errT n)) := HOB.out _ _ _ HK.out HV.out HKL.out HVL.out
    refine hK.out _ _ (HS.out _ HB.out) (fun _ => ?_)
    clear hK K9 hb9
    try simp only [Act.put, List.setIfInBounds_toArray, List.set_cons_zero, List.set_cons_succ, vagg]
    refine wpAnyH_ready (rs := [12]) (by kernel_rfl) (by simp) ?_
    refine AllReadyH.cons rfl (fun K9 hK => ?_) AllReadyH.nil
    go_simp
    have hcall := HRE.out w34 _ (HX0.out.bel HB.out) HT.out HB.out
    try unfold vagg at hcall
    try simp only at hcall
    refine hcall.mono ?_
    rintro e w35 ⟨⟨ok, os, oK, oL⟩, rfl, hb9, hT⟩
    have HB9 := hide (HB.out.trans (hb9.mono HB.out.size))
    clear hcall
    clear HB
    have HB := HB9
    clear HB9
    obtain ⟨h4, h5⟩ := hT.sl
    simp only at h4 h5
    obtain ⟨oa, on, oc, rfl⟩ := h4
    obtain ⟨od, oe, of, rfl⟩ := h5
    have HTO := hide hT
    clear hT
    refine hK.out _ _ (HS.out _ HB.out) (fun _ => ?_)
    clear hK K9 hb9
    try simp only [Act.put, List.setIfInBounds_toArray, List.set_cons_zero, List.set_cons_succ, vagg]
    have hq4 := HQ.out.below HB.out
    have z0 := hq4.cell 0
    have z1 := hq4.cell 1
    have z2 := hq4.cell 2
    have z3 := hq4.cell 3
    simp only [List.getElem?_toArray, List.getElem?_cons_zero, List.getElem?_cons_succ] at z0 z1 z2 z3
    have y0 := hq4.frozen 0
    have y1 := hq4.frozen 1
    have y2 := hq4.frozen 2
    have y3 := hq4.frozen 3
    have lX := hq4.lt
    have HQ4 := hide hq4
    have HBF : Hid (Below w0.heap.size w0 w35) := HB.out
    clear hq4
    refine wpAnyH_ready (rs := [13]) (by kernel_rfl) (by simp) ?_
    refine AllReadyH.cons rfl (fun K9 hK => ?_) AllReadyH.nil
    go_simp
    have hS0 := box_off4 (HP.out.below HBF.out) (show w.heap.size ≠ w.heap.size + 1 by omega) (.int .i64 ok) (.string os) (.slice oa on oc) (.slice od oe of)
    refine hK.out _ _ ⟨hS0.cell 0, hS0.cell 1, hS0.cell 2, hS0.cell 3, hS0.cell 4⟩ (fun _ => ?_)
    clear hK K9 hS0
    try simp only [Act.put, List.setIfInBounds_toArray, List.set_cons_zero, List.set_cons_succ, vagg]
    refine wpAnyH_done (by kernel_rfl) ?_ _
    go_wp2
    refine bodyPost_ret (results_rv rfl rfl (resJ_v HQ4.out (.int .i64 ok) (.string os) (.slice oa on oc) (.slice od oe of))) rfl ?_
    refine ⟨(ok, os, .slice oa on oc, .slice od oe of), rfl, below4 (HB1.out.trans (HBF.out.mono HB1.out.size)) (by omega) _ _ _ _, HTO.out.keep fun b hs _ => ?_⟩
    have hne : b ≠ w.heap.size + 1 := fun e => hs (congrArg some e)
    refine ⟨trivial, ?_⟩
    rw [Below.heap_setCell _ ⟨w.heap.size + 1, 3, none⟩ _ b hne, Below.heap_setCell _ ⟨w.heap.size + 1, 2, none⟩ _ b hne, Below.heap_setCell _ ⟨w.heap.size + 1, 1, none⟩ _ b hne, Below.heap_setCell _ ⟨w.heap.size + 1, 0, none⟩ _ b hne]
  · go_simp
    have hcall := HNU.out wd
    try unfold vagg at hcall
    try simp only at hcall
    refine hcall.mono ?_
    rintro e w36 ⟨rfl, hb9⟩
    have HB9 := hide (HB.out.trans (hb9.mono HB.out.size))
    clear hcall
    clear HB
    have HB := HB9
    clear HB9
    refine hK.out _ _ (HS.out _ HB.out) (fun _ => ?_)
    clear hK K9 hb9
    try simp only [Act.put, List.setIfInBounds_toArray, List.set_cons_zero, List.set_cons_succ, vagg]
    refine wpAnyH_ready (rs := [2, 8]) (by kernel_rfl) (by simp) ?_
    refine AllReadyH.cons rfl (fun K9 hK => ?_) (AllReadyH.cons rfl (fun K9 hK => ?_) AllReadyH.nil)
    · go_simp
      have hb9 := bel w36 (.cells #[.string ⟨#[99, 111, 100, 101]⟩, .string ⟨#[109, 101, 115, 115, 97, 103, 101]⟩] 9)
      have hbx := BoxC.new w36 9 #[.string ⟨#[99, 111, 100, 101]⟩, .string ⟨#[109, 101, 115, 115, 97, 103, 101]⟩]
      have hlow := HB.out.size
      have HB9 := hide (HB.out.trans (hb9.mono HB.out.size))
      clear HB
      have HB := HB9
      clear HB9
      refine hK.out _ _ (HS.out _ HB.out) (fun _ => ?_)
      clear hK K9 hb9
      try simp only [Act.put, List.setIfInBounds_toArray, List.set_cons_zero, List.set_cons_succ, vagg]
      generalize w36.heap.size = Bk at *
      generalize w36.alloc (.cells #[.string ⟨#[99, 111, 100, 101]⟩, .string ⟨#[109, 101, 115, 115, 97, 103, 101]⟩] 9) = w37 at *
      have HK := hide hbx
      have HKL := hide hlow
      clear hbx hlow
      refine wpAnyH_ready (rs := [8]) (by kernel_rfl) (by simp) ?_
      refine AllReadyH.cons rfl (fun K9 hK => ?_) AllReadyH.nil
      go_simp
      have hcall := HME.out w37
      try unfold vagg at hcall
      try simp only at hcall
      refine hcall.mono ?_
      rintro e w38 ⟨rfl, hb9⟩
      have HB9 := hide (HB.out.trans (hb9.mono HB.out.size))
      have HK9 := hide (HK.out.below hb9)
      clear hcall
      clear HB HK
      have HB := HB9
      clear HB9
      have HK := HK9
      clear HK9
      refine hK.out _ _ (HS.out _ HB.out) (fun _ => ?_)
      clear hK K9 hb9
      try simp only [Act.put, List.setIfInBounds_toArray, List.set_cons_zero, List.set_cons_succ, vagg]
      refine wpAnyH_ready (rs := [9]) (by kernel_rfl) (by simp) ?_
      refine AllReadyH.cons rfl (fun K9 hK => ?_) AllReadyH.nil
      go_simp
      have hcall := rtext_any w38 sm
      try unfold vagg at hcall
      try simp only at hcall
      refine hcall.mono ?_
      rintro e w39 ⟨rfl, hb9⟩
      have HB9 := hide (HB.out.trans (hb9.mono HB.out.size))
      have HK9 := hide (HK.out.below hb9)
      clear hcall
      clear HB HK
      have HB := HB9
      clear HB9
      have HK := HK9
      clear HK9
      refine hK.out _ _ (HS.out _ HB.out) (fun _ => ?_)
      clear hK K9 hb9
      try simp only [Act.put, List.setIfInBounds_toArray, List.set_cons_zero, List.set_cons_succ, vagg]
      refine wpAnyH_ready (rs := [10]) (by kernel_rfl) (by simp) ?_
      refine AllReadyH.cons rfl (fun K9 hK => ?_) AllReadyH.nil
      go_simp
      have hb9 := bel w39 (.cells #[.int .i64 3, .string sn, .slice none 0 0, .slice none 0 0, .int .i64 4, .string sm, .slice none 0 0, .slice none 0 0] 36)
      have hbx := BoxC.new w39 36 #[.int .i64 3, .string sn, .slice none 0 0, .slice none 0 0, .int .i64 4, .string sm, .slice none 0 0, .slice none 0 0]
      have hlow := HB.out.size
      have HB9 := hide (HB.out.trans (hb9.mono HB.out.size))
      have HK9 := hide (HK.out.below hb9)
      clear HB HK
      have HB := HB9
      clear HB9
      have HK := HK9
      clear HK9
      refine hK.out _ _ (HS.out _ HB.out) (fun _ => ?_)
      clear hK K9 hb9
      try simp only [Act.put, List.setIfInBounds_toArray, List.set_cons_zero, List.set_cons_succ, vagg]
      generalize w39.heap.size = Bv at *
      generalize w39.alloc (.cells #[.int .i64 3, .string sn, .slice none 0 0, .slice none 0 0, .int .i64 4, .string sm, .slice none 0 0, .slice none 0 0] 36) = w40 at *
      have HV := hide hbx
      have HVL := hide hlow
      clear hbx hlow
      refine wpAnyH_ready (rs := [11]) (by kernel_rfl) (by simp) ?_
      refine AllReadyH.cons rfl (fun K9 hK => ?_) AllReadyH.nil
      go_simp
      have hcall := robject_any w40 (some ⟨Bk, 0, none⟩) (some ⟨Bv, 0, none⟩) 2 2 2 2
      try unfold vagg at hcall
      try simp only at hcall
      refine hcall.mono ?_
      rintro e w41 ⟨rfl, hb9⟩
      have HB9 := hide (HB.out.trans (hb9.mono HB.out.size))
      have HK9 := hide (HK.out.below hb9)
      have HV9 := hide (HV.out.below hb9)
      clear hcall
      clear HB HK HV
      have HB := HB9
      clear HB9
      have HK := HK9
      clear HK9
      have HV := HV9
      clear HV9
      have HT : Hid (TIn w41 (fun b => some b ≠ some (w.heap.size + 1)) (6, ⟨#[]⟩, .slice (some ⟨Bk, 0, none⟩) 2 2, .slice (some ⟨Bv, 0, none⟩) 2 2) (errT n)) := HOB.out _ _ _ HK.out HV.out HKL.out HVL.out
      refine hK.out _ _ (HS.out _ HB.out) (fun _ => ?_)
      clear hK K9 hb9
      try simp only [Act.put, List.setIfInBounds_toArray, List.set_cons_zero, List.set_cons_succ, vagg]
      refine wpAnyH_ready (rs := [12]) (by kernel_rfl) (by simp) ?_
      refine AllReadyH.cons rfl (fun K9 hK => ?_) AllReadyH.nil
      go_simp
      have hcall := HRE.out w41 _ (HX0.out.bel HB.out) HT.out HB.out
      try unfold vagg at hcall
      try simp only at hcall
      refine hcall.mono ?_
      rintro e w42 ⟨⟨ok, os, oK, oL⟩, rfl, hb9, hT⟩
      have HB9 := hide (HB.out.trans (hb9.mono HB.out.size))
      clear hcall
      clear HB
      have HB := HB9
      clear HB9
      obtain ⟨h4, h5⟩ := hT.sl
      simp only at h4 h5
      obtain ⟨oa, on, oc, rfl⟩ := h4
      obtain ⟨od, oe, of, rfl⟩ := h5
      have HTO := hide hT
      clear hT
      refine hK.out _ _ (HS.out _ HB.out) (fun _ => ?_)
      clear hK K9 hb9
      try simp only [Act.put, List.setIfInBounds_toArray, List.set_cons_zero, List.set_cons_succ, vagg]
      have hq4 := HQ.out.below HB.out
      have z0 := hq4.cell 0
      have z1 := hq4.cell 1
      have z2 := hq4.cell 2
      have z3 := hq4.cell 3
      simp only [List.getElem?_toArray, List.getElem?_cons_zero, List.getElem?_cons_succ] at z0 z1 z2 z3
      have y0 := hq4.frozen 0
      have y1 := hq4.frozen 1
      have y2 := hq4.frozen 2
      have y3 := hq4.frozen 3
      have lX := hq4.lt
      have HQ4 := hide hq4
      have HBF : Hid (Below w0.heap.size w0 w42) := HB.out
      clear hq4
      refine wpAnyH_ready (rs := [13]) (by kernel_rfl) (by simp) ?_
      refine AllReadyH.cons rfl (fun K9 hK => ?_) AllReadyH.nil
      go_simp
      have hS0 := box_off4 (HP.out.below HBF.out) (show w.heap.size ≠ w.heap.size + 1 by omega) (.int .i64 ok) (.string os) (.slice oa on oc) (.slice od oe of)
      refine hK.out _ _ ⟨hS0.cell 0, hS0.cell 1, hS0.cell 2, hS0.cell 3, hS0.cell 4⟩ (fun _ => ?_)
      clear hK K9 hS0
      try simp only [Act.put, List.setIfInBounds_toArray, List.set_cons_zero, List.set_cons_succ, vagg]
      refine wpAnyH_done (by kernel_rfl) ?_ _
      go_wp2
      refine bodyPost_ret (results_rv rfl rfl (resJ_v HQ4.out (.int .i64 ok) (.string os) (.slice oa on oc) (.slice od oe of))) rfl ?_
      refine ⟨(ok, os, .slice oa on oc, .slice od oe of), rfl, below4 (HB1.out.trans (HBF.out.mono HB1.out.size)) (by omega) _ _ _ _, HTO.out.keep fun b hs _ => ?_⟩
      have hne : b ≠ w.heap.size + 1 := fun e => hs (congrArg some e)
      refine ⟨trivial, ?_⟩
      rw [Below.heap_setCell _ ⟨w.heap.size + 1, 3, none⟩ _ b hne, Below.heap_setCell _ ⟨w.heap.size + 1, 2, none⟩ _ b hne, Below.heap_setCell _ ⟨w.heap.size + 1, 1, none⟩ _ b hne, Below.heap_setCell _ ⟨w.heap.size + 1, 0, none⟩ _ b hne]
    · go_simp
      have hcall := HME.out w36
      try unfold vagg at hcall
      try simp only at hcall
      refine hcall.mono ?_
      rintro e w43 ⟨rfl, hb9⟩
      have HB9 := hide (HB.out.trans (hb9.mono HB.out.size))
      clear hcall
      clear HB
      have HB := HB9
      clear HB9
      refine hK.out _ _ (HS.out _ HB.out) (fun _ => ?_)
      clear hK K9 hb9
      try simp only [Act.put, List.setIfInBounds_toArray, List.set_cons_zero, List.set_cons_succ, vagg]
      refine wpAnyH_ready (rs := [2, 9]) (by kernel_rfl) (by simp) ?_
      refine AllReadyH.cons rfl (fun K9 hK => ?_) (AllReadyH.cons rfl (fun K9 hK => ?_) AllReadyH.nil)
      · go_simp
        have hb9 := bel w43 (.cells #[.string ⟨#[99, 111, 100, 101]⟩, .string ⟨#[109, 101, 115, 115, 97, 103, 101]⟩] 9)
        have hbx := BoxC.new w43 9 #[.string ⟨#[99, 111, 100, 101]⟩, .string ⟨#[109, 101, 115, 115, 97, 103, 101]⟩]
        have hlow := HB.out.size
        have HB9 := hide (HB.out.trans (hb9.mono HB.out.size))
        clear HB
        have HB := HB9
        clear HB9
        refine hK.out _ _ (HS.out _ HB.out) (fun _ => ?_)
        clear hK K9 hb9
        try simp only [Act.put, List.setIfInBounds_toArray, List.set_cons_zero, List.set_cons_succ, vagg]
        generalize w43.heap.size = Bk at *
        generalize w43.alloc (.cells #[.string ⟨#[99, 111, 100, 101]⟩, .string ⟨#[109, 101, 115, 115, 97, 103, 101]⟩] 9) = w44 at *
        have HK := hide hbx
        have HKL := hide hlow
        clear hbx hlow
        refine wpAnyH_ready (rs := [9]) (by kernel_rfl) (by simp) ?_
        refine AllReadyH.cons rfl (fun K9 hK => ?_) AllReadyH.nil
        go_simp
        have hcall := rtext_any w44 sm
        try unfold vagg at hcall
        try simp only at hcall
        refine hcall.mono ?_
        rintro e w45 ⟨rfl, hb9⟩
        have HB9 := hide (HB.out.trans (hb9.mono HB.out.size))
        have HK9 := hide (HK.out.below hb9)
        clear hcall
        clear HB HK
        have HB := HB9
        clear HB9
        have HK := HK9
        clear HK9
        refine hK.out _ _ (HS.out _ HB.out) (fun _ => ?_)
        clear hK K9 hb9
        try simp only [Act.put, List.setIfInBounds_toArray, List.set_cons_zero, List.set_cons_succ, vagg]
        refine wpAnyH_ready (rs := [10]) (by kernel_rfl) (by simp) ?_
        refine AllReadyH.cons rfl (fun K9 hK => ?_) AllReadyH.nil
        go_simp
        have hb9 := bel w45 (.cells #[.int .i64 3, .string sn, .slice none 0 0, .slice none 0 0, .int .i64 4, .string sm, .slice none 0 0, .slice none 0 0] 36)
        have hbx := BoxC.new w45 36 #[.int .i64 3, .string sn, .slice none 0 0, .slice none 0 0, .int .i64 4, .string sm, .slice none 0 0, .slice none 0 0]
        have hlow := HB.out.size
        have HB9 := hide (HB.out.trans (hb9.mono HB.out.size))
        have HK9 := hide (HK.out.below hb9)
        clear HB HK
        have HB := HB9
        clear HB9
        have HK := HK9
        clear HK9
        refine hK.out _ _ (HS.out _ HB.out) (fun _ => ?_)
        clear hK K9 hb9
        try simp only [Act.put, List.setIfInBounds_toArray, List.set_cons_zero, List.set_cons_succ, vagg]
        generalize w45.heap.size = Bv at *
        generalize w45.alloc (.cells #[.int .i64 3, .string sn, .slice none 0 0, .slice none 0 0, .int .i64 4, .string sm, .slice none 0 0, .slice none 0 0] 36) = w46 at *
        have HV := hide hbx
        have HVL := hide hlow
        clear hbx hlow
        refine wpAnyH_ready (rs := [11]) (by kernel_rfl) (by simp) ?_
        refine AllReadyH.cons rfl (fun K9 hK => ?_) AllReadyH.nil
        go_simp
        have hcall := robject_any w46 (some ⟨Bk, 0, none⟩) (some ⟨Bv, 0, none⟩) 2 2 2 2
        try unfold vagg at hcall
        try simp only at hcall
        refine hcall.mono ?_
        rintro e w47 ⟨rfl, hb9⟩
        have HB9 := hide (HB.out.trans (hb9.mono HB.out.size))
        have HK9 := hide (HK.out.below hb9)
        have HV9 := hide (HV.out.below hb9)
        clear hcall
        clear HB HK HV
        have HB := HB9
        clear HB9
        have HK := HK9
        clear HK9
        have HV := HV9
        clear HV9
        have HT : Hid (TIn w47 (fun b => some b ≠ some (w.heap.size + 1)) (6, ⟨#[]⟩, .slice (some ⟨Bk, 0, none⟩) 2 2, .slice (some ⟨Bv, 0, none⟩) 2 2) (errT n)) := HOB.out _ _ _ HK.out HV.out HKL.out HVL.out
        refine hK.out _ _ (HS.out _ HB.out) (fun _ => ?_)
        clear hK K9 hb9
        try simp only [Act.put, List.setIfInBounds_toArray, List.set_cons_zero, List.set_cons_succ, vagg]
        refine wpAnyH_ready (rs := [12]) (by kernel_rfl) (by simp) ?_
        refine AllReadyH.cons rfl (fun K9 hK => ?_) AllReadyH.nil
        go_simp
        have hcall := HRE.out w47 _ (HX0.out.bel HB.out) HT.out HB.out
        try unfold vagg at hcall
        try simp only at hcall
        refine hcall.mono ?_
        rintro e w48 ⟨⟨ok, os, oK, oL⟩, rfl, hb9, hT⟩
        have HB9 := hide (HB.out.trans (hb9.mono HB.out.size))
        clear hcall
        clear HB
        have HB := HB9
        clear HB9
        obtain ⟨h4, h5⟩ := hT.sl
        simp only at h4 h5
        obtain ⟨oa, on, oc, rfl⟩ := h4
        obtain ⟨od, oe, of, rfl⟩ := h5
        have HTO := hide hT
        clear hT
        refine hK.out _ _ (HS.out _ HB.out) (fun _ => ?_)
        clear hK K9 hb9
        try simp only [Act.put, List.setIfInBounds_toArray, List.set_cons_zero, List.set_cons_succ, vagg]
        have hq4 := HQ.out.below HB.out
        have z0 := hq4.cell 0
        have z1 := hq4.cell 1
        have z2 := hq4.cell 2
        have z3 := hq4.cell 3
        simp only [List.getElem?_toArray, List.getElem?_cons_zero, List.getElem?_cons_succ] at z0 z1 z2 z3
        have y0 := hq4.frozen 0
        have y1 := hq4.frozen 1
        have y2 := hq4.frozen 2
        have y3 := hq4.frozen 3
        have lX := hq4.lt
        have HQ4 := hide hq4
        have HBF : Hid (Below w0.heap.size w0 w48) := HB.out
        clear hq4
        refine wpAnyH_ready (rs := [13]) (by kernel_rfl) (by simp) ?_
        refine AllReadyH.cons rfl (fun K9 hK => ?_) AllReadyH.nil
        go_simp
        have hS0 := box_off4 (HP.out.below HBF.out) (show w.heap.size ≠ w.heap.size + 1 by omega) (.int .i64 ok) (.string os) (.slice oa on oc) (.slice od oe of)
        refine hK.out _ _ ⟨hS0.cell 0, hS0.cell 1, hS0.cell 2, hS0.cell 3, hS0.cell 4⟩ (fun _ => ?_)
        clear hK K9 hS0
        try simp only [Act.put, List.setIfInBounds_toArray, List.set_cons_zero, List.set_cons_succ, vagg]
        refine wpAnyH_done (by kernel_rfl) ?_ _
        go_wp2
        refine bodyPost_ret (results_rv rfl rfl (resJ_v HQ4.out (.int .i64 ok) (.string os) (.slice oa on oc) (.slice od oe of))) rfl ?_
        refine ⟨(ok, os, .slice oa on oc, .slice od oe of), rfl, below4 (HB1.out.trans (HBF.out.mono HB1.out.size)) (by omega) _ _ _ _, HTO.out.keep fun b hs _ => ?_⟩
        have hne : b ≠ w.heap.size + 1 := fun e => hs (congrArg some e)
        refine ⟨trivial, ?_⟩
        rw [Below.heap_setCell _ ⟨w.heap.size + 1, 3, none⟩ _ b hne, Below.heap_setCell _ ⟨w.heap.size + 1, 2, none⟩ _ b hne, Below.heap_setCell _ ⟨w.heap.size + 1, 1, none⟩ _ b hne, Below.heap_setCell _ ⟨w.heap.size + 1, 0, none⟩ _ b hne]
      · go_simp
        have hcall := rtext_any w43 sm
        try unfold vagg at hcall
        try simp only at hcall
        refine hcall.mono ?_
        rintro e w49 ⟨rfl, hb9⟩
        have HB9 := hide (HB.out.trans (hb9.mono HB.out.size))
        clear hcall
        clear HB
        have HB := HB9
        clear HB9
        refine hK.out _ _ (HS.out _ HB.out) (fun _ => ?_)
        clear hK K9 hb9
        try simp only [Act.put, List.setIfInBounds_toArray, List.set_cons_zero, List.set_cons_succ, vagg]
        refine wpAnyH_ready (rs := [2, 10]) (by kernel_rfl) (by simp) ?_
        refine AllReadyH.cons rfl (fun K9 hK => ?_) (AllReadyH.cons rfl (fun K9 hK => ?_) AllReadyH.nil)
        · go_simp
          have hb9 := bel w49 (.cells #[.string ⟨#[99, 111, 100, 101]⟩, .string ⟨#[109, 101, 115, 115, 97, 103, 101]⟩] 9)
          have hbx := BoxC.new w49 9 #[.string ⟨#[99, 111, 100, 101]⟩, .string ⟨#[109, 101, 115, 115, 97, 103, 101]⟩]
          have hlow := HB.out.size
          have HB9 := hide (HB.out.trans (hb9.mono HB.out.size))
          clear HB
          have HB := HB9
          clear HB9
          refine hK.out _ _ (HS.out _ HB.out) (fun _ => ?_)
          clear hK K9 hb9
          try simp only [Act.put, List.setIfInBounds_toArray, List.set_cons_zero, List.set_cons_succ, vagg]
          generalize w49.heap.size = Bk at *
          generalize w49.alloc (.cells #[.string ⟨#[99, 111, 100, 101]⟩, .string ⟨#[109, 101, 115, 115, 97, 103, 101]⟩] 9) = w50 at *
          have HK := hide hbx
          have HKL := hide hlow
          clear hbx hlow
          refine wpAnyH_ready (rs := [10]) (by kernel_rfl) (by simp) ?_
          refine AllReadyH.cons rfl (fun K9 hK => ?_) AllReadyH.nil
          go_simp
          have hb9 := bel w50 (.cells #[.int .i64 3, .string sn, .slice none 0 0, .slice none 0 0, .int .i64 4, .string sm, .slice none 0 0, .slice none 0 0] 36)
          have hbx := BoxC.new w50 36 #[.int .i64 3, .string sn, .slice none 0 0, .slice none 0 0, .int .i64 4, .string sm, .slice none 0 0, .slice none 0 0]
          have hlow := HB.out.size
          have HB9 := hide (HB.out.trans (hb9.mono HB.out.size))
          have HK9 := hide (HK.out.below hb9)
          clear HB HK
          have HB := HB9
          clear HB9
          have HK := HK9
          clear HK9
          refine hK.out _ _ (HS.out _ HB.out) (fun _ => ?_)
          clear hK K9 hb9
          try simp only [Act.put, List.setIfInBounds_toArray, List.set_cons_zero, List.set_cons_succ, vagg]
          generalize w50.heap.size = Bv at *
          generalize w50.alloc (.cells #[.int .i64 3, .string sn, .slice none 0 0, .slice none 0 0, .int .i64 4, .string sm, .slice none 0 0, .slice none 0 0] 36) = w51 at *
          have HV := hide hbx
          have HVL := hide hlow
          clear hbx hlow
          refine wpAnyH_ready (rs := [11]) (by kernel_rfl) (by simp) ?_
          refine AllReadyH.cons rfl (fun K9 hK => ?_) AllReadyH.nil
          go_simp
          have hcall := robject_any w51 (some ⟨Bk, 0, none⟩) (some ⟨Bv, 0, none⟩) 2 2 2 2
          try unfold vagg at hcall
          try simp only at hcall
          refine hcall.mono ?_
          rintro e w52 ⟨rfl, hb9⟩
          have HB9 := hide (HB.out.trans (hb9.mono HB.out.size))
          have HK9 := hide (HK.out.below hb9)
          have HV9 := hide (HV.out.below hb9)
          clear hcall
          clear HB HK HV
          have HB := HB9
          clear HB9
          have HK := HK9
          clear HK9
          have HV := HV9
          clear HV9
          have HT : Hid (TIn w52 (fun b => some b ≠ some (w.heap.size + 1)) (6, ⟨#[]⟩, .slice (some ⟨Bk, 0, none⟩) 2 2, .slice (some ⟨Bv, 0, none⟩) 2 2) (errT n)) := HOB.out _ _ _ HK.out HV.out HKL.out HVL.out
          refine hK.out _ _ (HS.out _ HB.out) (fun _ => ?_)
          clear hK K9 hb9
          try simp only [Act.put, List.setIfInBounds_toArray, List.set_cons_zero, List.set_cons_succ, vagg]
          refine wpAnyH_ready (rs := [12]) (by kernel_rfl) (by simp) ?_
          refine AllReadyH.cons rfl (fun K9 hK => ?_) AllReadyH.nil
          go_simp
          have hcall := HRE.out w52 _ (HX0.out.bel HB.out) HT.out HB.out
          try unfold vagg at hcall
          try simp only at hcall
          refine hcall.mono ?_
          rintro e w53 ⟨⟨ok, os, oK, oL⟩, rfl, hb9, hT⟩
          have HB9 := hide (HB.out.trans (hb9.mono HB.out.size))
          clear hcall
          clear HB
          have HB := HB9
          clear HB9
          obtain ⟨h4, h5⟩ := hT.sl
          simp only at h4 h5
          obtain ⟨oa, on, oc, rfl⟩ := h4
          obtain ⟨od, oe, of, rfl⟩ := h5
          have HTO := hide hT
          clear hT
          refine hK.out _ _ (HS.out _ HB.out) (fun _ => ?_)
          clear hK K9 hb9
          try simp only [Act.put, List.setIfInBounds_toArray, List.set_cons_zero, List.set_cons_succ, vagg]
          have hq4 := HQ.out.below HB.out
          have z0 := hq4.cell 0
          have z1 := hq4.cell 1
          have z2 := hq4.cell 2
          have z3 := hq4.cell 3
          simp only [List.getElem?_toArray, List.getElem?_cons_zero, List.getElem?_cons_succ] at z0 z1 z2 z3
          have y0 := hq4.frozen 0
          have y1 := hq4.frozen 1
          have y2 := hq4.frozen 2
          have y3 := hq4.frozen 3
          have lX := hq4.lt
          have HQ4 := hide hq4
          have HBF : Hid (Below w0.heap.size w0 w53) := HB.out
          clear hq4
          refine wpAnyH_ready (rs := [13]) (by kernel_rfl) (by simp) ?_
          refine AllReadyH.cons rfl (fun K9 hK => ?_) AllReadyH.nil
          go_simp
          have hS0 := box_off4 (HP.out.below HBF.out) (show w.heap.size ≠ w.heap.size + 1 by omega) (.int .i64 ok) (.string os) (.slice oa on oc) (.slice od oe of)
          refine hK.out _ _ ⟨hS0.cell 0, hS0.cell 1, hS0.cell 2, hS0.cell 3, hS0.cell 4⟩ (fun _ => ?_)
          clear hK K9 hS0
          try simp only [Act.put, List.setIfInBounds_toArray, List.set_cons_zero, List.set_cons_succ, vagg]
          refine wpAnyH_done (by kernel_rfl) ?_ _
          go_wp2
          refine bodyPost_ret (results_rv rfl rfl (resJ_v HQ4.out (.int .i64 ok) (.string os) (.slice oa on oc) (.slice od oe of))) rfl ?_
          refine ⟨(ok, os, .slice oa on oc, .slice od oe of), rfl, below4 (HB1.out.trans (HBF.out.mono HB1.out.size)) (by omega) _ _ _ _, HTO.out.keep fun b hs _ => ?_⟩
          have hne : b ≠ w.heap.size + 1 := fun e => hs (congrArg some e)
          refine ⟨trivial, ?_⟩
          rw [Below.heap_setCell _ ⟨w.heap.size + 1, 3, none⟩ _ b hne, Below.heap_setCell _ ⟨w.heap.size + 1, 2, none⟩ _ b hne, Below.heap_setCell _ ⟨w.heap.size + 1, 1, none⟩ _ b hne, Below.heap_setCell _ ⟨w.heap.size + 1, 0, none⟩ _ b hne]
        · go_simp
          have hb9 := bel w49 (.cells #[.int .i64 3, .string sn, .slice none 0 0, .slice none 0 0, .int .i64 4, .string sm, .slice none 0 0, .slice none 0 0] 36)
          have hbx := BoxC.new w49 36 #[.int .i64 3, .string sn, .slice none 0 0, .slice none 0 0, .int .i64 4, .string sm, .slice none 0 0, .slice none 0 0]
          have hlow := HB.out.size
          have HB9 := hide (HB.out.trans (hb9.mono HB.out.size))
          clear HB
          have HB := HB9
          clear HB9
          refine hK.out _ _ (HS.out _ HB.out) (fun _ => ?_)
          clear hK K9 hb9
          try simp only [Act.put, List.setIfInBounds_toArray, List.set_cons_zero, List.set_cons_succ, vagg]
          generalize w49.heap.size = Bv at *
          generalize w49.alloc (.cells #[.int .i64 3, .string sn, .slice none 0 0, .slice none 0 0, .int .i64 4, .string sm, .slice none 0 0, .slice none 0 0] 36) = w54 at *
          have HV := hide hbx
          have HVL := hide hlow
          clear hbx hlow
          refine wpAnyH_ready (rs := [2]) (by kernel_rfl) (by simp) ?_
          refine AllReadyH.cons rfl (fun K9 hK => ?_) AllReadyH.nil
          go_simp
          have hb9 := bel w54 (.cells #[.string ⟨#[99, 111, 100, 101]⟩, .string ⟨#[109, 101, 115, 115, 97, 103, 101]⟩] 9)
          have hbx := BoxC.new w54 9 #[.string ⟨#[99, 111, 100, 101]⟩, .string ⟨#[109, 101, 115, 115, 97, 103, 101]⟩]
          have hlow := HB.out.size
          have HB9 := hide (HB.out.trans (hb9.mono HB.out.size))
          have HV9 := hide (HV.out.below hb9)
          clear HB HV
          have HB := HB9
          clear HB9
          have HV := HV9
          clear HV9
          refine hK.out _ _ (HS.out _ HB.out) (fun _ => ?_)
          clear hK K9 hb9
          try simp only [Act.put, List.setIfInBounds_toArray, List.set_cons_zero, List.set_cons_succ, vagg]
          generalize w54.heap.size = Bk at *
          generalize w54.alloc (.cells #[.string ⟨#[99, 111, 100, 101]⟩, .string ⟨#[109, 101, 115, 115, 97, 103, 101]⟩] 9) = w55 at *
          have HK := hide hbx
          have HKL := hide hlow
          clear hbx hlow
          refine wpAnyH_ready (rs := [11]) (by kernel_rfl) (by simp) ?_
          refine AllReadyH.cons rfl (fun K9 hK => ?_) AllReadyH.nil
          go_simp
          have hcall := robject_any w55 (some ⟨Bk, 0, none⟩) (some ⟨Bv, 0, none⟩) 2 2 2 2
          try unfold vagg at hcall
          try simp only at hcall
          refine hcall.mono ?_
          rintro e w56 ⟨rfl, hb9⟩
          have HB9 := hide (HB.out.trans (hb9.mono HB.out.size))
          have HV9 := hide (HV.out.below hb9)
          have HK9 := hide (HK.out.below hb9)
          clear hcall
          clear HB HV HK
          have HB := HB9
          clear HB9
          have HV := HV9
          clear HV9
          have HK := HK9
          clear HK9
          have HT : Hid (TIn w56 (fun b => some b ≠ some (w.heap.size + 1)) (6, ⟨#[]⟩, .slice (some ⟨Bk, 0, none⟩) 2 2, .slice (some ⟨Bv, 0, none⟩) 2 2) (errT n)) := HOB.out _ _ _ HK.out HV.out HKL.out HVL.out
          refine hK.out _ _ (HS.out _ HB.out) (fun _ => ?_)
          clear hK K9 hb9
          try simp only [Act.put, List.setIfInBounds_toArray, List.set_cons_zero, List.set_cons_succ, vagg]
          refine wpAnyH_ready (rs := [12]) (by kernel_rfl) (by simp) ?_
          refine AllReadyH.cons rfl (fun K9 hK => ?_) AllReadyH.nil
          go_simp
          have hcall := HRE.out w56 _ (HX0.out.bel HB.out) HT.out HB.out
          try unfold vagg at hcall
          try simp only at hcall
          refine hcall.mono ?_
          rintro e w57 ⟨⟨ok, os, oK, oL⟩, rfl, hb9, hT⟩
          have HB9 := hide (HB.out.trans (hb9.mono HB.out.size))
          clear hcall
          clear HB
          have HB := HB9
          clear HB9
          obtain ⟨h4, h5⟩ := hT.sl
          simp only at h4 h5
          obtain ⟨oa, on, oc, rfl⟩ := h4
          obtain ⟨od, oe, of, rfl⟩ := h5
          have HTO := hide hT
          clear hT
          refine hK.out _ _ (HS.out _ HB.out) (fun _ => ?_)
          clear hK K9 hb9
          try simp only [Act.put, List.setIfInBounds_toArray, List.set_cons_zero, List.set_cons_succ, vagg]
          have hq4 := HQ.out.below HB.out
          have z0 := hq4.cell 0
          have z1 := hq4.cell 1
          have z2 := hq4.cell 2
          have z3 := hq4.cell 3
          simp only [List.getElem?_toArray, List.getElem?_cons_zero, List.getElem?_cons_succ] at z0 z1 z2 z3
          have y0 := hq4.frozen 0
          have y1 := hq4.frozen 1
          have y2 := hq4.frozen 2
          have y3 := hq4.frozen 3
          have lX := hq4.lt
          have HQ4 := hide hq4
          have HBF : Hid (Below w0.heap.size w0 w57) := HB.out
          clear hq4
          refine wpAnyH_ready (rs := [13]) (by kernel_rfl) (by simp) ?_
          refine AllReadyH.cons rfl (fun K9 hK => ?_) AllReadyH.nil
          go_simp
          have hS0 := box_off4 (HP.out.below HBF.out) (show w.heap.size ≠ w.heap.size + 1 by omega) (.int .i64 ok) (.string os) (.slice oa on oc) (.slice od oe of)
          refine hK.out _ _ ⟨hS0.cell 0, hS0.cell 1, hS0.cell 2, hS0.cell 3, hS0.cell 4⟩ (fun _ => ?_)
          clear hK K9 hS0
          try simp only [Act.put, List.setIfInBounds_toArray, List.set_cons_zero, List.set_cons_succ, vagg]
          refine wpAnyH_done (by kernel_rfl) ?_ _
          go_wp2
          refine bodyPost_ret (results_rv rfl rfl (resJ_v HQ4.out (.int .i64 ok) (.string os) (.slice oa on oc) (.slice od oe of))) rfl ?_
          refine ⟨(ok, os, .slice oa on oc, .slice od oe of), rfl, below4 (HB1.out.trans (HBF.out.mono HB1.out.size)) (by omega) _ _ _ _, HTO.out.keep fun b hs _ => ?_⟩
          have hne : b ≠ w.heap.size + 1 := fun e => hs (congrArg some e)
          refine ⟨trivial, ?_⟩
          rw [Below.heap_setCell _ ⟨w.heap.size + 1, 3, none⟩ _ b hne, Below.heap_setCell _ ⟨w.heap.size + 1, 2, none⟩ _ b hne, Below.heap_setCell _ ⟨w.heap.size + 1, 1, none⟩ _ b hne, Below.heap_setCell _ ⟨w.heap.size + 1, 0, none⟩ _ b hne]


end Go.Proofs.YtbdpmpepmjpadaaGreatDoor

namespace Go.Proofs.YtbdpmpepmjpadaaGreatDoor
set_option linter.unusedVariables false
set_option linter.unusedSimpArgs false
set_option maxRecDepth 100000
open Go Go.RowKit Go.Shelf Go.Lib Go.ChangeShapes Go.WideShapes Go.ChangeAt

theorem cellsMk : Tryz.prog.cellsOf 47 = 4 := by kernel_rfl
theorem cellsBytes : Tryz.prog.cellsOf 22 = 1 := by kernel_rfl
theorem typesMk : Tryz.prog.cellTypes Tryz.prog.depth 47 = some [22, 22, 9, 3] := by kernel_rfl
theorem wf64M {x : Int} (h : (Lit.int .i64 x).wf = true) : -9223372036854775808 ≤ x ∧ x ≤ 9223372036854775807 := by
  simp [Lit.wf, IntKind.min, IntKind.max, IntKind.signed, IntKind.bits] at h
  omega
theorem cell_block {W : World} {base : Nat} {a : Addr} {len cap : Nat} (h : Cell.okWide Tryz.prog W .any base 22 (.slice (some a) len cap)) : a.block < W.heap.size := by
  simp only [Cell.okWide, Cell.ok, Tryz.underlying22, World.has] at h
  obtain ⟨_, _, _, _, row, cells, hs, _⟩ := h
  exact shape_lt hs
/-- Bytes that are a part of what came in. -/
theorem bytes_part {H : Type} {enc : TypeId × Value → H} {W : World} {base fuel : Nat} {v : Value} {x : DataW H × List MemPlace}
    (hok : Cell.okWide Tryz.prog W .any base 22 v) (hf : DataW.trod enc Tryz.prog W 0 (fun _ => true) true fuel 22 [v] = some x) : ∃ ao cap T, v = .slice ao T.length cap ∧ Byts W (.slice ao T.length cap) T ∧ T.length ≤ cap ∧ ∀ a, ao = some a → a.block < W.heap.size := by
  rcases open_ints Tryz.underlying22 Tryz.underlying5 cellsU8 hf with ⟨hcs, _⟩ | ⟨x, len0, cap0, zs, hcs, _, hl, hm, hz, hx, hcell, hwz⟩
  · simp at hcs
    subst hcs
    exact ⟨none, 0, [], rfl, ⟨none, 0, rfl, fun x hx => by simp at hx, fun j hj => by simp at hj⟩, Nat.le_refl _, fun _ h => by cases h⟩
  · simp at hcs
    subst hcs
    simp only [if_true] at hz
    have hl0 : ((zs.take len0).map Int.toNat).length = len0 := by simp; omega
    have hw : ∀ n ∈ zs, 0 ≤ n ∧ n < 256 := fun n hn => by
      have := hwz n hn
      simp [Lit.wf, IntKind.min, IntKind.max, IntKind.signed, IntKind.bits] at this
      omega
    refine ⟨some x, cap0, (zs.take len0).map Int.toNat, by rw [hl0], ⟨some x, cap0, by rw [hl0], ?_, fun j hj => ?_⟩, by rw [hl0]; exact hl, fun a e => by cases e; exact cell_block hok⟩
    · intro y hy
      obtain ⟨n, hn, rfl⟩ := List.mem_map.1 hy
      have := hw n (List.mem_of_mem_take hn)
      omega
    · rw [hl0] at hj
      have hc := hcell j (by omega)
      have hc0 := hcell 0 (by omega)
      obtain ⟨b, off, spot⟩ := x
      have hspot : spot = none := by simpa [Addr.add] using World.cell?_spot hc0
      subst hspot
      have ha : (⟨b, off, none⟩ : Addr).add j = ⟨b, off + j, none⟩ := by
        unfold Addr.add
        split
        · rename_i h0; simp [h0]
        · rfl
      rw [ha] at hc
      refine ⟨b, off, rfl, ?_⟩
      have hjz : j < zs.length := by omega
      have hmem := hw zs[j] (List.getElem_mem hjz)
      have e1 : nth ((zs.take len0).map Int.toNat) j = (zs[j]).toNat := by
        unfold nth
        rw [List.getElem?_eq_getElem (by simp; omega)]
        simp
      rw [e1, Int.toNat_of_nonneg hmem.1]
      simpa [List.getD, hjz] using hc
theorem mk_in {H : Type} {enc : TypeId × Value → H} {W : World} {base : Nat} {v : Value} {d : DataW H} {ps : List MemPlace}
    (hval : Value.okWide Tryz.prog W .any base 47 v) (h : DataW.Trod enc Tryz.prog W 0 (fun _ => true) true 47 v d ps) :
    ∃ ao bo cap dap T U ms z, v = .agg #[.slice ao (List.length T) cap, .slice bo (List.length U) dap, .string ms, .int .i64 z] ∧ Byts W (.slice ao T.length cap) T ∧ T.length ≤ cap ∧ (∀ a, ao = some a → a.block < W.heap.size) ∧ Byts W (.slice bo U.length dap) U ∧ U.length ≤ dap ∧ (∀ a, bo = some a → a.block < W.heap.size) ∧ (-9223372036854775808 ≤ z ∧ z ≤ 9223372036854775807) := by
  have hval' := hval
  obtain ⟨cs, rfl, hcl⟩ := okWide_struct Tryz.underlying47 hval
  rw [cellsMk] at hcl
  obtain ⟨l⟩ := cs
  match l, hcl with
  | [c0, c1, c2, c3], _ =>
    have hrow : Row.okWide Tryz.prog W .any base 47 #[c0, c1, c2, c3] := by
      unfold Value.okWide at hval'
      rw [Tryz.underlying47] at hval'
      obtain ⟨cs, e, _, h⟩ := hval'
      cases e
      exact h
    obtain ⟨ts, hts, _, hcell⟩ := hrow
    rw [typesMk] at hts
    cases hts
    obtain ⟨u0, e0, k0⟩ := hcell 0 c0 rfl
    obtain ⟨u1, e1, k1⟩ := hcell 1 c1 rfl
    obtain rfl : 22 = u0 := Option.some.inj e0
    obtain rfl : 22 = u1 := Option.some.inj e1
    obtain ⟨fuel, hf⟩ := h
    obtain ⟨y0, y1, y2, y3, m, hx, _, hy0, hy1, hy2, hy3⟩ := Go.Joins.trod_struct4 Tryz.underlying47 hf
    simp [Value.cells, cellsStr, cellsBytes, cellsInt] at hy0 hy1 hy2 hy3
    obtain ⟨ao, cap, T, rfl, hA⟩ := bytes_part k0 hy0
    obtain ⟨bo, dap, U, rfl, hB⟩ := bytes_part k1 hy1
    obtain ⟨s, e2, _, _⟩ := DataW.trod_string Tryz.underlying9 hy2
    obtain ⟨z, e3, _, w3⟩ := DataW.trod_int Tryz.underlying3 hy3
    simp at e2 e3
    subst e2 e3
    exact ⟨ao, bo, cap, dap, T, U, s, z, rfl, hA.1, hA.2.1, hA.2.2, hB.1, hB.2.1, hB.2.2, wf64M w3⟩

end Go.Proofs.YtbdpmpepmjpadaaGreatDoor

namespace Go.Proofs.YtbdpmpepmjpadaaGreatDoor
set_option linter.unusedVariables false
set_option linter.unusedSimpArgs false
set_option maxRecDepth 100000
open Go Go.RowKit Go.Shelf Go.Lib

theorem call_set {W : World} {A : Nat} {t : TypeId} {c0 c1 c2 c3 c4 c5 c6 c7 c8 c9 : Value} (h0 : BoxC W A t #[c0, c1, c2, c3, c4, c5, c6, c7, c8, c9]) (x0 x1 x2 x3 x4 x5 x6 x7 x8 x9 : Value) : BoxC ((((((((((W.setCell ⟨A, 0, none⟩ x0).setCell ⟨A, 1, none⟩ x1).setCell ⟨A, 2, none⟩ x2).setCell ⟨A, 3, none⟩ x3).setCell ⟨A, 4, none⟩ x4).setCell ⟨A, 5, none⟩ x5).setCell ⟨A, 6, none⟩ x6).setCell ⟨A, 7, none⟩ x7).setCell ⟨A, 8, none⟩ x8).setCell ⟨A, 9, none⟩ x9) A t #[x0, x1, x2, x3, x4, x5, x6, x7, x8, x9] := by
  have h1 : BoxC (W.setCell ⟨A, 0, none⟩ x0) A t #[x0, c1, c2, c3, c4, c5, c6, c7, c8, c9] := h0.set 0 x0
  have h2 : BoxC ((W.setCell ⟨A, 0, none⟩ x0).setCell ⟨A, 1, none⟩ x1) A t #[x0, x1, c2, c3, c4, c5, c6, c7, c8, c9] := h1.set 1 x1
  have h3 : BoxC (((W.setCell ⟨A, 0, none⟩ x0).setCell ⟨A, 1, none⟩ x1).setCell ⟨A, 2, none⟩ x2) A t #[x0, x1, x2, c3, c4, c5, c6, c7, c8, c9] := h2.set 2 x2
  have h4 : BoxC ((((W.setCell ⟨A, 0, none⟩ x0).setCell ⟨A, 1, none⟩ x1).setCell ⟨A, 2, none⟩ x2).setCell ⟨A, 3, none⟩ x3) A t #[x0, x1, x2, x3, c4, c5, c6, c7, c8, c9] := h3.set 3 x3
  have h5 : BoxC (((((W.setCell ⟨A, 0, none⟩ x0).setCell ⟨A, 1, none⟩ x1).setCell ⟨A, 2, none⟩ x2).setCell ⟨A, 3, none⟩ x3).setCell ⟨A, 4, none⟩ x4) A t #[x0, x1, x2, x3, x4, c5, c6, c7, c8, c9] := h4.set 4 x4
  have h6 : BoxC ((((((W.setCell ⟨A, 0, none⟩ x0).setCell ⟨A, 1, none⟩ x1).setCell ⟨A, 2, none⟩ x2).setCell ⟨A, 3, none⟩ x3).setCell ⟨A, 4, none⟩ x4).setCell ⟨A, 5, none⟩ x5) A t #[x0, x1, x2, x3, x4, x5, c6, c7, c8, c9] := h5.set 5 x5
  have h7 : BoxC (((((((W.setCell ⟨A, 0, none⟩ x0).setCell ⟨A, 1, none⟩ x1).setCell ⟨A, 2, none⟩ x2).setCell ⟨A, 3, none⟩ x3).setCell ⟨A, 4, none⟩ x4).setCell ⟨A, 5, none⟩ x5).setCell ⟨A, 6, none⟩ x6) A t #[x0, x1, x2, x3, x4, x5, x6, c7, c8, c9] := h6.set 6 x6
  have h8 : BoxC ((((((((W.setCell ⟨A, 0, none⟩ x0).setCell ⟨A, 1, none⟩ x1).setCell ⟨A, 2, none⟩ x2).setCell ⟨A, 3, none⟩ x3).setCell ⟨A, 4, none⟩ x4).setCell ⟨A, 5, none⟩ x5).setCell ⟨A, 6, none⟩ x6).setCell ⟨A, 7, none⟩ x7) A t #[x0, x1, x2, x3, x4, x5, x6, x7, c8, c9] := h7.set 7 x7
  have h9 : BoxC (((((((((W.setCell ⟨A, 0, none⟩ x0).setCell ⟨A, 1, none⟩ x1).setCell ⟨A, 2, none⟩ x2).setCell ⟨A, 3, none⟩ x3).setCell ⟨A, 4, none⟩ x4).setCell ⟨A, 5, none⟩ x5).setCell ⟨A, 6, none⟩ x6).setCell ⟨A, 7, none⟩ x7).setCell ⟨A, 8, none⟩ x8) A t #[x0, x1, x2, x3, x4, x5, x6, x7, x8, c9] := h8.set 8 x8
  have h10 : BoxC ((((((((((W.setCell ⟨A, 0, none⟩ x0).setCell ⟨A, 1, none⟩ x1).setCell ⟨A, 2, none⟩ x2).setCell ⟨A, 3, none⟩ x3).setCell ⟨A, 4, none⟩ x4).setCell ⟨A, 5, none⟩ x5).setCell ⟨A, 6, none⟩ x6).setCell ⟨A, 7, none⟩ x7).setCell ⟨A, 8, none⟩ x8).setCell ⟨A, 9, none⟩ x9) A t #[x0, x1, x2, x3, x4, x5, x6, x7, x8, x9] := h9.set 9 x9
  exact h10
theorem call_off {W : World} {A B : Nat} {t : TypeId} {cs : Array Value} (h0 : BoxC W B t cs) (hne : B ≠ A) (x0 x1 x2 x3 x4 x5 x6 x7 x8 x9 : Value) : BoxC ((((((((((W.setCell ⟨A, 0, none⟩ x0).setCell ⟨A, 1, none⟩ x1).setCell ⟨A, 2, none⟩ x2).setCell ⟨A, 3, none⟩ x3).setCell ⟨A, 4, none⟩ x4).setCell ⟨A, 5, none⟩ x5).setCell ⟨A, 6, none⟩ x6).setCell ⟨A, 7, none⟩ x7).setCell ⟨A, 8, none⟩ x8).setCell ⟨A, 9, none⟩ x9) B t cs := by
  have h1 : BoxC (W.setCell ⟨A, 0, none⟩ x0) B t cs := h0.other hne 0 x0
  have h2 : BoxC ((W.setCell ⟨A, 0, none⟩ x0).setCell ⟨A, 1, none⟩ x1) B t cs := h1.other hne 1 x1
  have h3 : BoxC (((W.setCell ⟨A, 0, none⟩ x0).setCell ⟨A, 1, none⟩ x1).setCell ⟨A, 2, none⟩ x2) B t cs := h2.other hne 2 x2
  have h4 : BoxC ((((W.setCell ⟨A, 0, none⟩ x0).setCell ⟨A, 1, none⟩ x1).setCell ⟨A, 2, none⟩ x2).setCell ⟨A, 3, none⟩ x3) B t cs := h3.other hne 3 x3
  have h5 : BoxC (((((W.setCell ⟨A, 0, none⟩ x0).setCell ⟨A, 1, none⟩ x1).setCell ⟨A, 2, none⟩ x2).setCell ⟨A, 3, none⟩ x3).setCell ⟨A, 4, none⟩ x4) B t cs := h4.other hne 4 x4
  have h6 : BoxC ((((((W.setCell ⟨A, 0, none⟩ x0).setCell ⟨A, 1, none⟩ x1).setCell ⟨A, 2, none⟩ x2).setCell ⟨A, 3, none⟩ x3).setCell ⟨A, 4, none⟩ x4).setCell ⟨A, 5, none⟩ x5) B t cs := h5.other hne 5 x5
  have h7 : BoxC (((((((W.setCell ⟨A, 0, none⟩ x0).setCell ⟨A, 1, none⟩ x1).setCell ⟨A, 2, none⟩ x2).setCell ⟨A, 3, none⟩ x3).setCell ⟨A, 4, none⟩ x4).setCell ⟨A, 5, none⟩ x5).setCell ⟨A, 6, none⟩ x6) B t cs := h6.other hne 6 x6
  have h8 : BoxC ((((((((W.setCell ⟨A, 0, none⟩ x0).setCell ⟨A, 1, none⟩ x1).setCell ⟨A, 2, none⟩ x2).setCell ⟨A, 3, none⟩ x3).setCell ⟨A, 4, none⟩ x4).setCell ⟨A, 5, none⟩ x5).setCell ⟨A, 6, none⟩ x6).setCell ⟨A, 7, none⟩ x7) B t cs := h7.other hne 7 x7
  have h9 : BoxC (((((((((W.setCell ⟨A, 0, none⟩ x0).setCell ⟨A, 1, none⟩ x1).setCell ⟨A, 2, none⟩ x2).setCell ⟨A, 3, none⟩ x3).setCell ⟨A, 4, none⟩ x4).setCell ⟨A, 5, none⟩ x5).setCell ⟨A, 6, none⟩ x6).setCell ⟨A, 7, none⟩ x7).setCell ⟨A, 8, none⟩ x8) B t cs := h8.other hne 8 x8
  have h10 : BoxC ((((((((((W.setCell ⟨A, 0, none⟩ x0).setCell ⟨A, 1, none⟩ x1).setCell ⟨A, 2, none⟩ x2).setCell ⟨A, 3, none⟩ x3).setCell ⟨A, 4, none⟩ x4).setCell ⟨A, 5, none⟩ x5).setCell ⟨A, 6, none⟩ x6).setCell ⟨A, 7, none⟩ x7).setCell ⟨A, 8, none⟩ x8).setCell ⟨A, 9, none⟩ x9) B t cs := h9.other hne 9 x9
  exact h10
theorem call_bel {w W : World} {A n : Nat} (h0 : Below n w W) (hn : n ≤ A) (x0 x1 x2 x3 x4 x5 x6 x7 x8 x9 : Value) : Below n w ((((((((((W.setCell ⟨A, 0, none⟩ x0).setCell ⟨A, 1, none⟩ x1).setCell ⟨A, 2, none⟩ x2).setCell ⟨A, 3, none⟩ x3).setCell ⟨A, 4, none⟩ x4).setCell ⟨A, 5, none⟩ x5).setCell ⟨A, 6, none⟩ x6).setCell ⟨A, 7, none⟩ x7).setCell ⟨A, 8, none⟩ x8).setCell ⟨A, 9, none⟩ x9) := by
  have h1 : Below n w (W.setCell ⟨A, 0, none⟩ x0) := h0.setCell (p := ⟨A, 0, none⟩) hn x0
  have h2 : Below n w ((W.setCell ⟨A, 0, none⟩ x0).setCell ⟨A, 1, none⟩ x1) := h1.setCell (p := ⟨A, 1, none⟩) hn x1
  have h3 : Below n w (((W.setCell ⟨A, 0, none⟩ x0).setCell ⟨A, 1, none⟩ x1).setCell ⟨A, 2, none⟩ x2) := h2.setCell (p := ⟨A, 2, none⟩) hn x2
  have h4 : Below n w ((((W.setCell ⟨A, 0, none⟩ x0).setCell ⟨A, 1, none⟩ x1).setCell ⟨A, 2, none⟩ x2).setCell ⟨A, 3, none⟩ x3) := h3.setCell (p := ⟨A, 3, none⟩) hn x3
  have h5 : Below n w (((((W.setCell ⟨A, 0, none⟩ x0).setCell ⟨A, 1, none⟩ x1).setCell ⟨A, 2, none⟩ x2).setCell ⟨A, 3, none⟩ x3).setCell ⟨A, 4, none⟩ x4) := h4.setCell (p := ⟨A, 4, none⟩) hn x4
  have h6 : Below n w ((((((W.setCell ⟨A, 0, none⟩ x0).setCell ⟨A, 1, none⟩ x1).setCell ⟨A, 2, none⟩ x2).setCell ⟨A, 3, none⟩ x3).setCell ⟨A, 4, none⟩ x4).setCell ⟨A, 5, none⟩ x5) := h5.setCell (p := ⟨A, 5, none⟩) hn x5
  have h7 : Below n w (((((((W.setCell ⟨A, 0, none⟩ x0).setCell ⟨A, 1, none⟩ x1).setCell ⟨A, 2, none⟩ x2).setCell ⟨A, 3, none⟩ x3).setCell ⟨A, 4, none⟩ x4).setCell ⟨A, 5, none⟩ x5).setCell ⟨A, 6, none⟩ x6) := h6.setCell (p := ⟨A, 6, none⟩) hn x6
  have h8 : Below n w ((((((((W.setCell ⟨A, 0, none⟩ x0).setCell ⟨A, 1, none⟩ x1).setCell ⟨A, 2, none⟩ x2).setCell ⟨A, 3, none⟩ x3).setCell ⟨A, 4, none⟩ x4).setCell ⟨A, 5, none⟩ x5).setCell ⟨A, 6, none⟩ x6).setCell ⟨A, 7, none⟩ x7) := h7.setCell (p := ⟨A, 7, none⟩) hn x7
  have h9 : Below n w (((((((((W.setCell ⟨A, 0, none⟩ x0).setCell ⟨A, 1, none⟩ x1).setCell ⟨A, 2, none⟩ x2).setCell ⟨A, 3, none⟩ x3).setCell ⟨A, 4, none⟩ x4).setCell ⟨A, 5, none⟩ x5).setCell ⟨A, 6, none⟩ x6).setCell ⟨A, 7, none⟩ x7).setCell ⟨A, 8, none⟩ x8) := h8.setCell (p := ⟨A, 8, none⟩) hn x8
  have h10 : Below n w ((((((((((W.setCell ⟨A, 0, none⟩ x0).setCell ⟨A, 1, none⟩ x1).setCell ⟨A, 2, none⟩ x2).setCell ⟨A, 3, none⟩ x3).setCell ⟨A, 4, none⟩ x4).setCell ⟨A, 5, none⟩ x5).setCell ⟨A, 6, none⟩ x6).setCell ⟨A, 7, none⟩ x7).setCell ⟨A, 8, none⟩ x8).setCell ⟨A, 9, none⟩ x9) := h9.setCell (p := ⟨A, 9, none⟩) hn x9
  exact h10
theorem ft_set {W : World} {A : Nat} {t : TypeId} {c0 c1 c2 c3 c4 : Value} (h0 : BoxC W A t #[c0, c1, c2, c3, c4]) (x0 x1 x2 x3 x4 : Value) : BoxC (((((W.setCell ⟨A, 0, none⟩ x0).setCell ⟨A, 1, none⟩ x1).setCell ⟨A, 2, none⟩ x2).setCell ⟨A, 3, none⟩ x3).setCell ⟨A, 4, none⟩ x4) A t #[x0, x1, x2, x3, x4] := by
  have h1 : BoxC (W.setCell ⟨A, 0, none⟩ x0) A t #[x0, c1, c2, c3, c4] := h0.set 0 x0
  have h2 : BoxC ((W.setCell ⟨A, 0, none⟩ x0).setCell ⟨A, 1, none⟩ x1) A t #[x0, x1, c2, c3, c4] := h1.set 1 x1
  have h3 : BoxC (((W.setCell ⟨A, 0, none⟩ x0).setCell ⟨A, 1, none⟩ x1).setCell ⟨A, 2, none⟩ x2) A t #[x0, x1, x2, c3, c4] := h2.set 2 x2
  have h4 : BoxC ((((W.setCell ⟨A, 0, none⟩ x0).setCell ⟨A, 1, none⟩ x1).setCell ⟨A, 2, none⟩ x2).setCell ⟨A, 3, none⟩ x3) A t #[x0, x1, x2, x3, c4] := h3.set 3 x3
  have h5 : BoxC (((((W.setCell ⟨A, 0, none⟩ x0).setCell ⟨A, 1, none⟩ x1).setCell ⟨A, 2, none⟩ x2).setCell ⟨A, 3, none⟩ x3).setCell ⟨A, 4, none⟩ x4) A t #[x0, x1, x2, x3, x4] := h4.set 4 x4
  exact h5
theorem ft_off {W : World} {A B : Nat} {t : TypeId} {cs : Array Value} (h0 : BoxC W B t cs) (hne : B ≠ A) (x0 x1 x2 x3 x4 : Value) : BoxC (((((W.setCell ⟨A, 0, none⟩ x0).setCell ⟨A, 1, none⟩ x1).setCell ⟨A, 2, none⟩ x2).setCell ⟨A, 3, none⟩ x3).setCell ⟨A, 4, none⟩ x4) B t cs := by
  have h1 : BoxC (W.setCell ⟨A, 0, none⟩ x0) B t cs := h0.other hne 0 x0
  have h2 : BoxC ((W.setCell ⟨A, 0, none⟩ x0).setCell ⟨A, 1, none⟩ x1) B t cs := h1.other hne 1 x1
  have h3 : BoxC (((W.setCell ⟨A, 0, none⟩ x0).setCell ⟨A, 1, none⟩ x1).setCell ⟨A, 2, none⟩ x2) B t cs := h2.other hne 2 x2
  have h4 : BoxC ((((W.setCell ⟨A, 0, none⟩ x0).setCell ⟨A, 1, none⟩ x1).setCell ⟨A, 2, none⟩ x2).setCell ⟨A, 3, none⟩ x3) B t cs := h3.other hne 3 x3
  have h5 : BoxC (((((W.setCell ⟨A, 0, none⟩ x0).setCell ⟨A, 1, none⟩ x1).setCell ⟨A, 2, none⟩ x2).setCell ⟨A, 3, none⟩ x3).setCell ⟨A, 4, none⟩ x4) B t cs := h4.other hne 4 x4
  exact h5
theorem ft_bel {w W : World} {A n : Nat} (h0 : Below n w W) (hn : n ≤ A) (x0 x1 x2 x3 x4 : Value) : Below n w (((((W.setCell ⟨A, 0, none⟩ x0).setCell ⟨A, 1, none⟩ x1).setCell ⟨A, 2, none⟩ x2).setCell ⟨A, 3, none⟩ x3).setCell ⟨A, 4, none⟩ x4) := by
  have h1 : Below n w (W.setCell ⟨A, 0, none⟩ x0) := h0.setCell (p := ⟨A, 0, none⟩) hn x0
  have h2 : Below n w ((W.setCell ⟨A, 0, none⟩ x0).setCell ⟨A, 1, none⟩ x1) := h1.setCell (p := ⟨A, 1, none⟩) hn x1
  have h3 : Below n w (((W.setCell ⟨A, 0, none⟩ x0).setCell ⟨A, 1, none⟩ x1).setCell ⟨A, 2, none⟩ x2) := h2.setCell (p := ⟨A, 2, none⟩) hn x2
  have h4 : Below n w ((((W.setCell ⟨A, 0, none⟩ x0).setCell ⟨A, 1, none⟩ x1).setCell ⟨A, 2, none⟩ x2).setCell ⟨A, 3, none⟩ x3) := h3.setCell (p := ⟨A, 3, none⟩) hn x3
  have h5 : Below n w (((((W.setCell ⟨A, 0, none⟩ x0).setCell ⟨A, 1, none⟩ x1).setCell ⟨A, 2, none⟩ x2).setCell ⟨A, 3, none⟩ x3).setCell ⟨A, 4, none⟩ x4) := h4.setCell (p := ⟨A, 4, none⟩) hn x4
  exact h5

set_option maxHeartbeats 8000000 in
theorem read6 (w : World) (ao : Option Addr) (cap : Nat) (h : Byts w (.slice ao ex6.length cap) ex6) (hU : Utf8Tabs 0 1 w) (hE : ErrS w) (hcap : ex6.length ≤ cap) :
    Calls Tryz.prog 7 #[.slice ao ex6.length cap] w fun e w' => (∃ ya yn yc yd ye yf zk zs za zn zc zd ze zf, e = .returned (.tuple #[.agg #[.bool true, .int .i64 3, .string sOne, .slice ya yn yc, .slice yd ye yf, .string sM, .int .i64 zk, .string zs, .slice za zn zc, .slice zd ze zf], .agg #[.int .i64 0, .int .i64 0, .string ⟨#[]⟩, .slice none 0 0, .slice none 0 0], .bool true])) ∧ Below w.heap.size w w' := by
  obtain ⟨n, hn⟩ : ∃ n, ex6.length = n := ⟨_, rfl⟩
  have hb : Below w.heap.size w ((w.alloc (.cells #[.bool false, .int .i64 0, .string ⟨#[]⟩, .slice none 0 0, .slice none 0 0, .string ⟨#[]⟩, .int .i64 0, .string ⟨#[]⟩, .slice none 0 0, .slice none 0 0] 29)).alloc (.cells #[.int .i64 0, .int .i64 0, .string ⟨#[]⟩, .slice none 0 0, .slice none 0 0] 31)) := (bel w _).alloc (by simp) _
  have hp := (BoxC.new w 29 #[.bool false, .int .i64 0, .string ⟨#[]⟩, .slice none 0 0, .slice none 0 0, .string ⟨#[]⟩, .int .i64 0, .string ⟨#[]⟩, .slice none 0 0, .slice none 0 0]).alloc (.cells #[.int .i64 0, .int .i64 0, .string ⟨#[]⟩, .slice none 0 0, .slice none 0 0] 31)
  have hq := BoxC.new (w.alloc (.cells #[.bool false, .int .i64 0, .string ⟨#[]⟩, .slice none 0 0, .slice none 0 0, .string ⟨#[]⟩, .int .i64 0, .string ⟨#[]⟩, .slice none 0 0, .slice none 0 0] 29)) 31 #[.int .i64 0, .int .i64 0, .string ⟨#[]⟩, .slice none 0 0, .slice none 0 0]
  rw [World.size_alloc] at hq
  generalize hw0 : (w.alloc (.cells #[.bool false, .int .i64 0, .string ⟨#[]⟩, .slice none 0 0, .slice none 0 0, .string ⟨#[]⟩, .int .i64 0, .string ⟨#[]⟩, .slice none 0 0, .slice none 0 0] 29)).alloc (.cells #[.int .i64 0, .int .i64 0, .string ⟨#[]⟩, .slice none 0 0, .slice none 0 0] 31) = w0 at *
  have HPA := hide (parse6 w0 ao cap (h.below hb) (Utf8Tabs_below hU hb) hcap)
  rw [hn] at HPA ⊢
  have HES : Hid (∀ W, Below w.heap.size w W → ErrS W) := fun W hW => hE.below hW
  have HPC := hide hp
  have HPF := hide hq
  have HW0 := hide hw0
  have HB := hide hb
  clear hw0 hp hq hb h hU hE hcap hn
  go_enter Tryz.func7, Tryz.ntmps7
  go_upto_region 1 with fail
  rw [HW0.out]
  clear HW0
  go_wp2_with fail
  refine HPA.out.mono ?_
  rintro e w1 ⟨⟨⟨xk, xs, xK, xL⟩, rfl, hT⟩, hb9⟩
  obtain ⟨h4, h5⟩ := hT.sl
  simp only at h4 h5
  obtain ⟨xa, xn, xc, rfl⟩ := h4
  obtain ⟨xd, xe, xf, rfl⟩ := h5
  simp only [vagg]
  have HTx := hide hT
  clear hT HPA
  have HB9 := hide (HB.out.trans (hb9.mono HB.out.size))
  clear HB
  have HB := HB9
  clear HB9
  have HPC9 := hide (HPC.out.below hb9)
  clear HPC
  have HPC := HPC9
  clear HPC9
  have HPF9 := hide (HPF.out.below hb9)
  clear HPF
  have HPF := HPF9
  clear HPF9
  clear hb9
  have hb9 := bel w1 (.cells #[.int .i64 xk, .string xs, .slice xa xn xc, .slice xd xe xf] 27)
  have HBx := hide (BoxC.new w1 27 #[.int .i64 xk, .string xs, .slice xa xn xc, .slice xd xe xf])
  have HB9 := hide (HB.out.trans (hb9.mono HB.out.size))
  clear HB
  have HB := HB9
  clear HB9
  have HPC9 := hide (HPC.out.below hb9)
  clear HPC
  have HPC := HPC9
  clear HPC9
  have HPF9 := hide (HPF.out.below hb9)
  clear HPF
  have HPF := HPF9
  clear HPF9
  have HTx9 := hide (HTx.out.bel hb9)
  clear HTx
  have HTx := HTx9
  clear HTx9
  clear hb9
  go_upto_region 4 with fail
  generalize w1.heap.size = Bx at *
  generalize w1.alloc (.cells #[.int .i64 xk, .string xs, .slice xa xn xc, .slice xd xe xf] 27) = w2 at *
  have v0 := HBx.out.cell 0
  have v1 := HBx.out.cell 1
  have v2 := HBx.out.cell 2
  have v3 := HBx.out.cell 3
  simp only [List.getElem?_toArray, List.getElem?_cons_zero, List.getElem?_cons_succ, Nat.reduceAdd] at v0 v1 v2 v3
  have hcall := get_any kId w2 HTx.out tree6_lt
  rw [get6_id] at hcall
  unfold vagg kId at hcall
  simp only at hcall
  go_wp2_with fail
  refine (hcall).mono ?_
  rintro e w3 ⟨⟨yk, ys, yK, yL⟩, rfl, hb9, hT⟩
  rw [Option.map_some, Option.getD_some, clJ_one] at hT
  obtain ⟨ya, yn, yc, yd, ye, yf, hy⟩ := flat_is hT
  obtain ⟨rfl, rfl, rfl, rfl⟩ : yk = 3 ∧ ys = sOne ∧ yK = .slice ya yn yc ∧ yL = .slice yd ye yf := by
    simp only [cOne, Prod.mk.injEq] at hy
    exact hy
  simp only [vagg, Option.isSome_some]
  clear hT hy hcall
  clear v0 v1 v2 v3
  have HB9 := hide (HB.out.trans (hb9.mono HB.out.size))
  clear HB
  have HB := HB9
  clear HB9
  have HPC9 := hide (HPC.out.below hb9)
  clear HPC
  have HPC := HPC9
  clear HPC9
  have HPF9 := hide (HPF.out.below hb9)
  clear HPF
  have HPF := HPF9
  clear HPF9
  have HTx9 := hide (HTx.out.bel hb9)
  clear HTx
  have HTx := HTx9
  clear HTx9
  have HBx9 := hide (HBx.out.below hb9)
  clear HBx
  have HBx := HBx9
  clear HBx9
  clear hb9
  have hb9 := bel w3 (.cells #[.int .i64 3, .string sOne, .slice ya yn yc, .slice yd ye yf] 27)
  have HBy := hide (BoxC.new w3 27 #[.int .i64 3, .string sOne, .slice ya yn yc, .slice yd ye yf])
  have HB9 := hide (HB.out.trans (hb9.mono HB.out.size))
  clear HB
  have HB := HB9
  clear HB9
  have HPC9 := hide (HPC.out.below hb9)
  clear HPC
  have HPC := HPC9
  clear HPC9
  have HPF9 := hide (HPF.out.below hb9)
  clear HPF
  have HPF := HPF9
  clear HPF9
  have HTx9 := hide (HTx.out.bel hb9)
  clear HTx
  have HTx := HTx9
  clear HTx9
  have HBx9 := hide (HBx.out.below hb9)
  clear HBx
  have HBx := HBx9
  clear HBx9
  clear hb9
  go_upto_region 5 with fail
  generalize w3.heap.size = By at *
  generalize w3.alloc (.cells #[.int .i64 3, .string sOne, .slice ya yn yc, .slice yd ye yf] 27) = w4 at *
  have v0 := HBy.out.cell 0
  have v1 := HBy.out.cell 1
  have v2 := HBy.out.cell 2
  have v3 := HBy.out.cell 3
  simp only [List.getElem?_toArray, List.getElem?_cons_zero, List.getElem?_cons_succ, Nat.reduceAdd] at v0 v1 v2 v3
  go_wp2_with fail
  refine (isid_ok w4 _ _ _ _ _ _ (HES.out _ HB.out)).mono ?_
  rintro e w5 ⟨rfl, hb9⟩
  clear v0 v1 v2 v3
  have HB9 := hide (HB.out.trans (hb9.mono HB.out.size))
  clear HB
  have HB := HB9
  clear HB9
  have HPC9 := hide (HPC.out.below hb9)
  clear HPC
  have HPC := HPC9
  clear HPC9
  have HPF9 := hide (HPF.out.below hb9)
  clear HPF
  have HPF := HPF9
  clear HPF9
  have HTx9 := hide (HTx.out.bel hb9)
  clear HTx
  have HTx := HTx9
  clear HTx9
  have HBx9 := hide (HBx.out.below hb9)
  clear HBx
  have HBx := HBx9
  clear HBx9
  have HBy9 := hide (HBy.out.below hb9)
  clear HBy
  have HBy := HBy9
  clear HBy9
  clear hb9
  have v0 := HBy.out.cell 0
  have v1 := HBy.out.cell 1
  have v2 := HBy.out.cell 2
  have v3 := HBy.out.cell 3
  simp only [List.getElem?_toArray, List.getElem?_cons_zero, List.getElem?_cons_succ, Nat.reduceAdd] at v0 v1 v2 v3
  go_upto_region 7 with fail
  have hb9 := bel w5 (.cells #[.int .i64 (-32600), .int .i64 3, .string sOne, .slice ya yn yc, .slice yd ye yf] 31)
  have HBi := hide (BoxC.new w5 31 #[.int .i64 (-32600), .int .i64 3, .string sOne, .slice ya yn yc, .slice yd ye yf])
  have HB9 := hide (HB.out.trans (hb9.mono HB.out.size))
  clear HB
  have HB := HB9
  clear HB9
  have HPC9 := hide (HPC.out.below hb9)
  clear HPC
  have HPC := HPC9
  clear HPC9
  have HPF9 := hide (HPF.out.below hb9)
  clear HPF
  have HPF := HPF9
  clear HPF9
  have HTx9 := hide (HTx.out.bel hb9)
  clear HTx
  have HTx := HTx9
  clear HTx9
  have HBx9 := hide (HBx.out.below hb9)
  clear HBx
  have HBx := HBx9
  clear HBx9
  have HBy9 := hide (HBy.out.below hb9)
  clear HBy
  have HBy := HBy9
  clear HBy9
  clear hb9
  go_upto_region 8 with fail
  generalize w5.heap.size = Bi at *
  generalize w5.alloc (.cells #[.int .i64 (-32600), .int .i64 3, .string sOne, .slice ya yn yc, .slice yd ye yf] 31) = w6 at *
  clear v0 v1 v2 v3
  have v0 := HBx.out.cell 0
  have v1 := HBx.out.cell 1
  have v2 := HBx.out.cell 2
  have v3 := HBx.out.cell 3
  simp only [List.getElem?_toArray, List.getElem?_cons_zero, List.getElem?_cons_succ, Nat.reduceAdd] at v0 v1 v2 v3
  have hcall := hasv_any w6 _ HTx.out tree6_lt get6_ver true (by rw [Option.map_some, Option.getD_some, clJ_ver]; exact eqJ_refl _)
  unfold vagg at hcall
  simp only at hcall
  go_wp2_with fail
  refine hcall.mono ?_
  rintro e w7 ⟨rfl, hb9⟩
  clear hcall
  clear v0 v1 v2 v3
  have HB9 := hide (HB.out.trans (hb9.mono HB.out.size))
  clear HB
  have HB := HB9
  clear HB9
  have HPC9 := hide (HPC.out.below hb9)
  clear HPC
  have HPC := HPC9
  clear HPC9
  have HPF9 := hide (HPF.out.below hb9)
  clear HPF
  have HPF := HPF9
  clear HPF9
  have HTx9 := hide (HTx.out.bel hb9)
  clear HTx
  have HTx := HTx9
  clear HTx9
  have HBx9 := hide (HBx.out.below hb9)
  clear HBx
  have HBx := HBx9
  clear HBx9
  have HBy9 := hide (HBy.out.below hb9)
  clear HBy
  have HBy := HBy9
  clear HBy9
  have HBi9 := hide (HBi.out.below hb9)
  clear HBi
  have HBi := HBi9
  clear HBi9
  clear hb9
  have v0 := HBx.out.cell 0
  have v1 := HBx.out.cell 1
  have v2 := HBx.out.cell 2
  have v3 := HBx.out.cell 3
  simp only [List.getElem?_toArray, List.getElem?_cons_zero, List.getElem?_cons_succ, Nat.reduceAdd] at v0 v1 v2 v3
  have hcall := get_any kMethod w7 HTx.out tree6_lt
  rw [get6_method] at hcall
  unfold vagg kMethod at hcall
  simp only at hcall
  go_wp2_with fail
  refine (hcall).mono ?_
  rintro e w8 ⟨⟨mk, ms, mK, mL⟩, rfl, hb9, hT⟩
  rw [Option.map_some, Option.getD_some, clJ_m] at hT
  obtain ⟨ma, mn, mc, md, me, mf, hy⟩ := flat_is hT
  obtain ⟨rfl, rfl, rfl, rfl⟩ : mk = 4 ∧ ms = sM ∧ mK = .slice ma mn mc ∧ mL = .slice md me mf := by
    simp only [cM, Prod.mk.injEq] at hy
    exact hy
  simp only [vagg, Option.isSome_some]
  clear hT hy hcall
  clear v0 v1 v2 v3
  have HB9 := hide (HB.out.trans (hb9.mono HB.out.size))
  clear HB
  have HB := HB9
  clear HB9
  have HPC9 := hide (HPC.out.below hb9)
  clear HPC
  have HPC := HPC9
  clear HPC9
  have HPF9 := hide (HPF.out.below hb9)
  clear HPF
  have HPF := HPF9
  clear HPF9
  have HTx9 := hide (HTx.out.bel hb9)
  clear HTx
  have HTx := HTx9
  clear HTx9
  have HBx9 := hide (HBx.out.below hb9)
  clear HBx
  have HBx := HBx9
  clear HBx9
  have HBy9 := hide (HBy.out.below hb9)
  clear HBy
  have HBy := HBy9
  clear HBy9
  have HBi9 := hide (HBi.out.below hb9)
  clear HBi
  have HBi := HBi9
  clear HBi9
  clear hb9
  have hb9 := bel w8 (.cells #[.int .i64 4, .string sM, .slice ma mn mc, .slice md me mf] 27)
  have HBm := hide (BoxC.new w8 27 #[.int .i64 4, .string sM, .slice ma mn mc, .slice md me mf])
  have HB9 := hide (HB.out.trans (hb9.mono HB.out.size))
  clear HB
  have HB := HB9
  clear HB9
  have HPC9 := hide (HPC.out.below hb9)
  clear HPC
  have HPC := HPC9
  clear HPC9
  have HPF9 := hide (HPF.out.below hb9)
  clear HPF
  have HPF := HPF9
  clear HPF9
  have HTx9 := hide (HTx.out.bel hb9)
  clear HTx
  have HTx := HTx9
  clear HTx9
  have HBx9 := hide (HBx.out.below hb9)
  clear HBx
  have HBx := HBx9
  clear HBx9
  have HBy9 := hide (HBy.out.below hb9)
  clear HBy
  have HBy := HBy9
  clear HBy9
  have HBi9 := hide (HBi.out.below hb9)
  clear HBi
  have HBi := HBi9
  clear HBi9
  clear hb9
  go_upto_region 11 with fail
  generalize w8.heap.size = Bm at *
  generalize w8.alloc (.cells #[.int .i64 4, .string sM, .slice ma mn mc, .slice md me mf] 27) = w9 at *
  have v0 := HBx.out.cell 0
  have v1 := HBx.out.cell 1
  have v2 := HBx.out.cell 2
  have v3 := HBx.out.cell 3
  simp only [List.getElem?_toArray, List.getElem?_cons_zero, List.getElem?_cons_succ, Nat.reduceAdd] at v0 v1 v2 v3
  have hcall := get_any kParams w9 HTx.out tree6_lt
  rw [get6_params] at hcall
  unfold vagg kParams at hcall
  simp only at hcall
  go_wp2_with fail
  refine (hcall).mono ?_
  rintro e wa ⟨⟨zk, zs, zK, zL⟩, rfl, hb9, hT⟩
  obtain ⟨h4, h5⟩ := hT.sl
  simp only at h4 h5
  obtain ⟨za, zn, zc, rfl⟩ := h4
  obtain ⟨zd, ze, zf, rfl⟩ := h5
  simp only [vagg, Option.isSome_none]
  clear hT hcall
  clear v0 v1 v2 v3
  have HB9 := hide (HB.out.trans (hb9.mono HB.out.size))
  clear HB
  have HB := HB9
  clear HB9
  have HPC9 := hide (HPC.out.below hb9)
  clear HPC
  have HPC := HPC9
  clear HPC9
  have HPF9 := hide (HPF.out.below hb9)
  clear HPF
  have HPF := HPF9
  clear HPF9
  have HTx9 := hide (HTx.out.bel hb9)
  clear HTx
  have HTx := HTx9
  clear HTx9
  have HBx9 := hide (HBx.out.below hb9)
  clear HBx
  have HBx := HBx9
  clear HBx9
  have HBy9 := hide (HBy.out.below hb9)
  clear HBy
  have HBy := HBy9
  clear HBy9
  have HBi9 := hide (HBi.out.below hb9)
  clear HBi
  have HBi := HBi9
  clear HBi9
  have HBm9 := hide (HBm.out.below hb9)
  clear HBm
  have HBm := HBm9
  clear HBm9
  clear hb9
  have hb9 := bel wa (.cells #[.int .i64 zk, .string zs, .slice za zn zc, .slice zd ze zf] 27)
  have HBz := hide (BoxC.new wa 27 #[.int .i64 zk, .string zs, .slice za zn zc, .slice zd ze zf])
  have HB9 := hide (HB.out.trans (hb9.mono HB.out.size))
  clear HB
  have HB := HB9
  clear HB9
  have HPC9 := hide (HPC.out.below hb9)
  clear HPC
  have HPC := HPC9
  clear HPC9
  have HPF9 := hide (HPF.out.below hb9)
  clear HPF
  have HPF := HPF9
  clear HPF9
  have HTx9 := hide (HTx.out.bel hb9)
  clear HTx
  have HTx := HTx9
  clear HTx9
  have HBx9 := hide (HBx.out.below hb9)
  clear HBx
  have HBx := HBx9
  clear HBx9
  have HBy9 := hide (HBy.out.below hb9)
  clear HBy
  have HBy := HBy9
  clear HBy9
  have HBi9 := hide (HBi.out.below hb9)
  clear HBi
  have HBi := HBi9
  clear HBi9
  have HBm9 := hide (HBm.out.below hb9)
  clear HBm
  have HBm := HBm9
  clear HBm9
  clear hb9
  go_upto_region 14 with fail
  generalize wa.heap.size = Bz at *
  generalize wa.alloc (.cells #[.int .i64 zk, .string zs, .slice za zn zc, .slice zd ze zf] 27) = wb at *
  have v0 := HBm.out.cell 0
  have v1 := HBm.out.cell 1
  have v2 := HBm.out.cell 2
  have v3 := HBm.out.cell 3
  simp only [List.getElem?_toArray, List.getElem?_cons_zero, List.getElem?_cons_succ, Nat.reduceAdd] at v0 v1 v2 v3
  go_upto_region 16 with fail
  have u0 := HBy.out.cell 0
  have u1 := HBy.out.cell 1
  have u2 := HBy.out.cell 2
  have u3 := HBy.out.cell 3
  simp only [List.getElem?_toArray, List.getElem?_cons_zero, List.getElem?_cons_succ, Nat.reduceAdd] at u0 u1 u2 u3
  have t0 := HBz.out.cell 0
  have t1 := HBz.out.cell 1
  have t2 := HBz.out.cell 2
  have t3 := HBz.out.cell 3
  simp only [List.getElem?_toArray, List.getElem?_cons_zero, List.getElem?_cons_succ, Nat.reduceAdd] at t0 t1 t2 t3
  have p0 := HPC.out.cell 0
  have p1 := HPC.out.cell 1
  have p2 := HPC.out.cell 2
  have p3 := HPC.out.cell 3
  have p4 := HPC.out.cell 4
  have p5 := HPC.out.cell 5
  have p6 := HPC.out.cell 6
  have p7 := HPC.out.cell 7
  have p8 := HPC.out.cell 8
  have p9 := HPC.out.cell 9
  have q0 := HPF.out.cell 0
  have q1 := HPF.out.cell 1
  have q2 := HPF.out.cell 2
  have q3 := HPF.out.cell 3
  have q4 := HPF.out.cell 4
  simp only [List.getElem?_toArray, List.getElem?_cons_zero, List.getElem?_cons_succ, Nat.reduceAdd] at p0 p1 p2 p3 p4 p5 p6 p7 p8 p9 q0 q1 q2 q3 q4
  have g0 := HPC.out.frozen 0
  have g1 := HPC.out.frozen 1
  have g2 := HPC.out.frozen 2
  have g3 := HPC.out.frozen 3
  have g4 := HPC.out.frozen 4
  have g5 := HPC.out.frozen 5
  have g6 := HPC.out.frozen 6
  have g7 := HPC.out.frozen 7
  have g8 := HPC.out.frozen 8
  have g9 := HPC.out.frozen 9
  have k0 := HPF.out.frozen 0
  have k1 := HPF.out.frozen 1
  have k2 := HPF.out.frozen 2
  have k3 := HPF.out.frozen 3
  have k4 := HPF.out.frozen 4
  have lC := HPC.out.lt
  have lF := HPF.out.lt
  go_wp2
  have hT1 := ft_off (call_set HPC.out (.bool true) (.int .i64 3) (.string sOne) (.slice ya yn yc) (.slice yd ye yf) (.string sM) (.int .i64 zk) (.string zs) (.slice za zn zc) (.slice zd ze zf)) (show w.heap.size ≠ w.heap.size + 1 by omega) (.int .i64 0) (.int .i64 0) (.string ⟨#[]⟩) (.slice none 0 0) (.slice none 0 0)
  have hT2 := ft_set (call_off HPF.out (show w.heap.size + 1 ≠ w.heap.size by omega) (.bool true) (.int .i64 3) (.string sOne) (.slice ya yn yc) (.slice yd ye yf) (.string sM) (.int .i64 zk) (.string zs) (.slice za zn zc) (.slice zd ze zf)) (.int .i64 0) (.int .i64 0) (.string ⟨#[]⟩) (.slice none 0 0) (.slice none 0 0)
  refine bodyPost_ret (results_cf rfl rfl rfl rfl hT1 hT2) rfl ?_
  exact ⟨⟨_, _, _, _, _, _, _, _, _, _, _, _, _, _, rfl⟩, ft_bel (call_bel HB.out (Nat.le_refl _) (.bool true) (.int .i64 3) (.string sOne) (.slice ya yn yc) (.slice yd ye yf) (.string sM) (.int .i64 zk) (.string zs) (.slice za zn zc) (.slice zd ze zf)) (Nat.le_succ _) (.int .i64 0) (.int .i64 0) (.string ⟨#[]⟩) (.slice none 0 0) (.slice none 0 0)⟩

set_option maxHeartbeats 8000000 in
theorem read7 (w : World) (ao : Option Addr) (cap : Nat) (h : Byts w (.slice ao ex7.length cap) ex7) (hU : Utf8Tabs 0 1 w) (hE : ErrS w) (hcap : ex7.length ≤ cap) :
    Calls Tryz.prog 7 #[.slice ao ex7.length cap] w fun e w' => (∃ ya yn yc yd ye yf, e = .returned (.tuple #[.agg #[.bool false, .int .i64 0, .string ⟨#[]⟩, .slice none 0 0, .slice none 0 0, .string ⟨#[]⟩, .int .i64 0, .string ⟨#[]⟩, .slice none 0 0, .slice none 0 0], .agg #[.int .i64 (-32600), .int .i64 0, .string ⟨#[]⟩, .slice ya yn yc, .slice yd ye yf], .bool false])) ∧ Below w.heap.size w w' := by
  obtain ⟨n, hn⟩ : ∃ n, ex7.length = n := ⟨_, rfl⟩
  have hb : Below w.heap.size w ((w.alloc (.cells #[.bool false, .int .i64 0, .string ⟨#[]⟩, .slice none 0 0, .slice none 0 0, .string ⟨#[]⟩, .int .i64 0, .string ⟨#[]⟩, .slice none 0 0, .slice none 0 0] 29)).alloc (.cells #[.int .i64 0, .int .i64 0, .string ⟨#[]⟩, .slice none 0 0, .slice none 0 0] 31)) := (bel w _).alloc (by simp) _
  have hp := (BoxC.new w 29 #[.bool false, .int .i64 0, .string ⟨#[]⟩, .slice none 0 0, .slice none 0 0, .string ⟨#[]⟩, .int .i64 0, .string ⟨#[]⟩, .slice none 0 0, .slice none 0 0]).alloc (.cells #[.int .i64 0, .int .i64 0, .string ⟨#[]⟩, .slice none 0 0, .slice none 0 0] 31)
  have hq := BoxC.new (w.alloc (.cells #[.bool false, .int .i64 0, .string ⟨#[]⟩, .slice none 0 0, .slice none 0 0, .string ⟨#[]⟩, .int .i64 0, .string ⟨#[]⟩, .slice none 0 0, .slice none 0 0] 29)) 31 #[.int .i64 0, .int .i64 0, .string ⟨#[]⟩, .slice none 0 0, .slice none 0 0]
  rw [World.size_alloc] at hq
  generalize hw0 : (w.alloc (.cells #[.bool false, .int .i64 0, .string ⟨#[]⟩, .slice none 0 0, .slice none 0 0, .string ⟨#[]⟩, .int .i64 0, .string ⟨#[]⟩, .slice none 0 0, .slice none 0 0] 29)).alloc (.cells #[.int .i64 0, .int .i64 0, .string ⟨#[]⟩, .slice none 0 0, .slice none 0 0] 31) = w0 at *
  have HPA := hide (parse7 w0 ao cap (h.below hb) (Utf8Tabs_below hU hb) hcap)
  rw [hn] at HPA ⊢
  have HES : Hid (∀ W, Below w.heap.size w W → ErrS W) := fun W hW => hE.below hW
  have HPC := hide hp
  have HPF := hide hq
  have HW0 := hide hw0
  have HB := hide hb
  clear hw0 hp hq hb h hU hE hcap hn
  go_enter Tryz.func7, Tryz.ntmps7
  go_upto_region 1 with fail
  rw [HW0.out]
  clear HW0
  go_wp2_with fail
  refine HPA.out.mono ?_
  rintro e w1 ⟨⟨⟨xk, xs, xK, xL⟩, rfl, hT⟩, hb9⟩
  obtain ⟨h4, h5⟩ := hT.sl
  simp only at h4 h5
  obtain ⟨xa, xn, xc, rfl⟩ := h4
  obtain ⟨xd, xe, xf, rfl⟩ := h5
  simp only [vagg]
  have HTx := hide hT
  clear hT HPA
  have HB9 := hide (HB.out.trans (hb9.mono HB.out.size))
  clear HB
  have HB := HB9
  clear HB9
  have HPC9 := hide (HPC.out.below hb9)
  clear HPC
  have HPC := HPC9
  clear HPC9
  have HPF9 := hide (HPF.out.below hb9)
  clear HPF
  have HPF := HPF9
  clear HPF9
  clear hb9
  have hb9 := bel w1 (.cells #[.int .i64 xk, .string xs, .slice xa xn xc, .slice xd xe xf] 27)
  have HBx := hide (BoxC.new w1 27 #[.int .i64 xk, .string xs, .slice xa xn xc, .slice xd xe xf])
  have HB9 := hide (HB.out.trans (hb9.mono HB.out.size))
  clear HB
  have HB := HB9
  clear HB9
  have HPC9 := hide (HPC.out.below hb9)
  clear HPC
  have HPC := HPC9
  clear HPC9
  have HPF9 := hide (HPF.out.below hb9)
  clear HPF
  have HPF := HPF9
  clear HPF9
  have HTx9 := hide (HTx.out.bel hb9)
  clear HTx
  have HTx := HTx9
  clear HTx9
  clear hb9
  go_upto_region 4 with fail
  generalize w1.heap.size = Bx at *
  generalize w1.alloc (.cells #[.int .i64 xk, .string xs, .slice xa xn xc, .slice xd xe xf] 27) = w2 at *
  have v0 := HBx.out.cell 0
  have v1 := HBx.out.cell 1
  have v2 := HBx.out.cell 2
  have v3 := HBx.out.cell 3
  simp only [List.getElem?_toArray, List.getElem?_cons_zero, List.getElem?_cons_succ, Nat.reduceAdd] at v0 v1 v2 v3
  have hcall := get_any kId w2 HTx.out tree7_lt
  rw [get7] at hcall
  unfold vagg kId at hcall
  simp only at hcall
  go_wp2_with fail
  refine (hcall).mono ?_
  rintro e w3 ⟨⟨yk, ys, yK, yL⟩, rfl, hb9, hT⟩
  rw [Option.map_none, Option.getD_none] at hT
  obtain ⟨ya, yn, yc, yd, ye, yf, hy⟩ := flat_is (x := zeroC) hT
  obtain ⟨rfl, rfl, rfl, rfl⟩ : yk = 0 ∧ ys = ⟨#[]⟩ ∧ yK = .slice ya yn yc ∧ yL = .slice yd ye yf := by
    simp only [zeroC, Prod.mk.injEq] at hy
    exact hy
  simp only [vagg, Option.isSome_none]
  clear hT hy hcall
  clear v0 v1 v2 v3
  have HB9 := hide (HB.out.trans (hb9.mono HB.out.size))
  clear HB
  have HB := HB9
  clear HB9
  have HPC9 := hide (HPC.out.below hb9)
  clear HPC
  have HPC := HPC9
  clear HPC9
  have HPF9 := hide (HPF.out.below hb9)
  clear HPF
  have HPF := HPF9
  clear HPF9
  have HTx9 := hide (HTx.out.bel hb9)
  clear HTx
  have HTx := HTx9
  clear HTx9
  have HBx9 := hide (HBx.out.below hb9)
  clear HBx
  have HBx := HBx9
  clear HBx9
  clear hb9
  have hb9 := bel w3 (.cells #[.int .i64 0, .string ⟨#[]⟩, .slice ya yn yc, .slice yd ye yf] 27)
  have HBy := hide (BoxC.new w3 27 #[.int .i64 0, .string ⟨#[]⟩, .slice ya yn yc, .slice yd ye yf])
  have HB9 := hide (HB.out.trans (hb9.mono HB.out.size))
  clear HB
  have HB := HB9
  clear HB9
  have HPC9 := hide (HPC.out.below hb9)
  clear HPC
  have HPC := HPC9
  clear HPC9
  have HPF9 := hide (HPF.out.below hb9)
  clear HPF
  have HPF := HPF9
  clear HPF9
  have HTx9 := hide (HTx.out.bel hb9)
  clear HTx
  have HTx := HTx9
  clear HTx9
  have HBx9 := hide (HBx.out.below hb9)
  clear HBx
  have HBx := HBx9
  clear HBx9
  clear hb9
  go_upto_region 5 with fail
  generalize w3.heap.size = By at *
  generalize w3.alloc (.cells #[.int .i64 0, .string ⟨#[]⟩, .slice ya yn yc, .slice yd ye yf] 27) = w4 at *
  have v0 := HBy.out.cell 0
  have v1 := HBy.out.cell 1
  have v2 := HBy.out.cell 2
  have v3 := HBy.out.cell 3
  simp only [List.getElem?_toArray, List.getElem?_cons_zero, List.getElem?_cons_succ, Nat.reduceAdd] at v0 v1 v2 v3
  go_upto_region 7 with fail
  have HLF : Hid (w.heap.size + 1 < w4.heap.size) := HPF.out.lt
  have hb9 := bel w4 (.cells #[.int .i64 (-32600), .int .i64 0, .string ⟨#[]⟩, .slice ya yn yc, .slice yd ye yf] 31)
  have HBi := hide (BoxC.new w4 31 #[.int .i64 (-32600), .int .i64 0, .string ⟨#[]⟩, .slice ya yn yc, .slice yd ye yf])
  have HB9 := hide (HB.out.trans (hb9.mono HB.out.size))
  clear HB
  have HB := HB9
  clear HB9
  have HPC9 := hide (HPC.out.below hb9)
  clear HPC
  have HPC := HPC9
  clear HPC9
  have HPF9 := hide (HPF.out.below hb9)
  clear HPF
  have HPF := HPF9
  clear HPF9
  have HTx9 := hide (HTx.out.bel hb9)
  clear HTx
  have HTx := HTx9
  clear HTx9
  have HBx9 := hide (HBx.out.below hb9)
  clear HBx
  have HBx := HBx9
  clear HBx9
  have HBy9 := hide (HBy.out.below hb9)
  clear HBy
  have HBy := HBy9
  clear HBy9
  clear hb9
  have HNI : Hid (w4.heap.size ≠ w.heap.size ∧ w4.heap.size ≠ w.heap.size + 1) := by
    have h := HLF.out
    exact ⟨by omega, by omega⟩
  go_upto_region 8 with fail
  generalize w4.heap.size = Bi at *
  generalize w4.alloc (.cells #[.int .i64 (-32600), .int .i64 0, .string ⟨#[]⟩, .slice ya yn yc, .slice yd ye yf] 31) = w6 at *
  clear v0 v1 v2 v3
  have v0 := HBx.out.cell 0
  have v1 := HBx.out.cell 1
  have v2 := HBx.out.cell 2
  have v3 := HBx.out.cell 3
  simp only [List.getElem?_toArray, List.getElem?_cons_zero, List.getElem?_cons_succ, Nat.reduceAdd] at v0 v1 v2 v3
  have hcall := hasv_any w6 _ HTx.out tree7_lt (get7 kJson) false (by rw [Option.map_none, Option.getD_none]; exact eqJ_kind (by decide))
  unfold vagg at hcall
  simp only at hcall
  go_wp2_with fail
  refine hcall.mono ?_
  rintro e w7 ⟨rfl, hb9⟩
  clear hcall
  clear v0 v1 v2 v3
  have HB9 := hide (HB.out.trans (hb9.mono HB.out.size))
  clear HB
  have HB := HB9
  clear HB9
  have HPC9 := hide (HPC.out.below hb9)
  clear HPC
  have HPC := HPC9
  clear HPC9
  have HPF9 := hide (HPF.out.below hb9)
  clear HPF
  have HPF := HPF9
  clear HPF9
  have HTx9 := hide (HTx.out.bel hb9)
  clear HTx
  have HTx := HTx9
  clear HTx9
  have HBx9 := hide (HBx.out.below hb9)
  clear HBx
  have HBx := HBx9
  clear HBx9
  have HBy9 := hide (HBy.out.below hb9)
  clear HBy
  have HBy := HBy9
  clear HBy9
  have HBi9 := hide (HBi.out.below hb9)
  clear HBi
  have HBi := HBi9
  clear HBi9
  clear hb9
  go_upto_region 9 with fail
  have HSX : Hid (∀ X0 : World, BoxC X0 Bi 31 #[.int .i64 (-32600), .int .i64 0, .string ⟨#[]⟩, .slice ya yn yc, .slice yd ye yf] → (X0.cell? ⟨Bi, 0, none⟩ = some (.int .i64 (-32600)) ∧ X0.cell? ⟨Bi, 1, none⟩ = some (.int .i64 0) ∧ X0.cell? ⟨Bi, 2, none⟩ = some (.string ⟨#[]⟩) ∧ X0.cell? ⟨Bi, 3, none⟩ = some (.slice ya yn yc) ∧ X0.cell? ⟨Bi, 4, none⟩ = some (.slice yd ye yf))) := fun X0 h => ⟨h.cell 0, h.cell 1, h.cell 2, h.cell 3, h.cell 4⟩
  refine wp_region_held_drew (S := fun X0 : World => X0.cell? ⟨Bi, 0, none⟩ = some (.int .i64 (-32600)) ∧ X0.cell? ⟨Bi, 1, none⟩ = some (.int .i64 0) ∧ X0.cell? ⟨Bi, 2, none⟩ = some (.string ⟨#[]⟩) ∧ X0.cell? ⟨Bi, 3, none⟩ = some (.slice ya yn yc) ∧ X0.cell? ⟨Bi, 4, none⟩ = some (.slice yd ye yf)) (by kernel_rfl) (HSX.out _ HBi.out) (fun hHeld => ?_)
  have HPC2 : Hid (BoxC w7.drew w.heap.size 29 #[.bool false, .int .i64 0, .string ⟨#[]⟩, .slice none 0 0, .slice none 0 0, .string ⟨#[]⟩, .int .i64 0, .string ⟨#[]⟩, .slice none 0 0, .slice none 0 0]) := HPC.out
  have HPF2 : Hid (BoxC w7.drew (w.heap.size + 1) 31 #[.int .i64 0, .int .i64 0, .string ⟨#[]⟩, .slice none 0 0, .slice none 0 0]) := HPF.out
  have HBi2 : Hid (BoxC w7.drew Bi 31 #[.int .i64 (-32600), .int .i64 0, .string ⟨#[]⟩, .slice ya yn yc, .slice yd ye yf]) := HBi.out
  have HB2 : Hid (Below w.heap.size w w7.drew) := HB.out.drew
  have HNE : Hid (Bi ≠ w.heap.size ∧ Bi ≠ w.heap.size + 1) := HNI.out
  clear HPC HPF HBi HB HBx HBy HTx
  generalize w7.drew = w8 at *
  refine takeD (i := 0) (v := ?v1) (some 43) rfl (by kernel_rfl) (by kernel_rfl) (by kernel_rfl) (fun _ _ _ h => h) (Or.inl ⟨by rfl, ?hy1⟩) (HSX.out _ HBi2.out) (by rfl) ?rest1
  case hy1 => first | (intro w hSw; (try dsimp only at hSw); obtain ⟨s0, s1, s2, s3, s4⟩ := hSw; go_simp; done) | (intro w hSw; (try dsimp only at hSw); obtain ⟨s0, s1, s2, s3, s4⟩ := hSw; go_simp; with_reducible rfl)
  try simp only [Act.put, List.setIfInBounds_toArray, List.set_cons_zero, List.set_cons_succ, vagg]
  refine takeD (i := 1) (v := ?v2) (some 44) rfl (by kernel_rfl) (by kernel_rfl) (by kernel_rfl) (fun _ _ _ h => h) (Or.inl ⟨by rfl, ?hy2⟩) (HSX.out _ HBi2.out) (by rfl) ?rest2
  case hy2 => first | (intro w hSw; (try dsimp only at hSw); obtain ⟨s0, s1, s2, s3, s4⟩ := hSw; go_simp; done) | (intro w hSw; (try dsimp only at hSw); obtain ⟨s0, s1, s2, s3, s4⟩ := hSw; go_simp; with_reducible rfl)
  try simp only [Act.put, List.setIfInBounds_toArray, List.set_cons_zero, List.set_cons_succ, vagg]
  have p0 := HPC2.out.cell 0
  have p1 := HPC2.out.cell 1
  have p2 := HPC2.out.cell 2
  have p3 := HPC2.out.cell 3
  have p4 := HPC2.out.cell 4
  have p5 := HPC2.out.cell 5
  have p6 := HPC2.out.cell 6
  have p7 := HPC2.out.cell 7
  have p8 := HPC2.out.cell 8
  have p9 := HPC2.out.cell 9
  simp only [List.getElem?_toArray, List.getElem?_cons_zero, List.getElem?_cons_succ, Nat.reduceAdd] at p0 p1 p2 p3 p4 p5 p6 p7 p8 p9
  have g0 := HPC2.out.frozen 0
  have g1 := HPC2.out.frozen 1
  have g2 := HPC2.out.frozen 2
  have g3 := HPC2.out.frozen 3
  have g4 := HPC2.out.frozen 4
  have g5 := HPC2.out.frozen 5
  have g6 := HPC2.out.frozen 6
  have g7 := HPC2.out.frozen 7
  have g8 := HPC2.out.frozen 8
  have g9 := HPC2.out.frozen 9
  have lC := HPC2.out.lt
  have hc9 := call_set HPC2.out (.bool false) (.int .i64 0) (.string ⟨#[]⟩) (.slice none 0 0) (.slice none 0 0) (.string ⟨#[]⟩) (.int .i64 0) (.string ⟨#[]⟩) (.slice none 0 0) (.slice none 0 0)
  have hf9 := call_off HPF2.out (show w.heap.size + 1 ≠ w.heap.size by omega) (.bool false) (.int .i64 0) (.string ⟨#[]⟩) (.slice none 0 0) (.slice none 0 0) (.string ⟨#[]⟩) (.int .i64 0) (.string ⟨#[]⟩) (.slice none 0 0) (.slice none 0 0)
  have hi9 := call_off HBi2.out HNE.out.1 (.bool false) (.int .i64 0) (.string ⟨#[]⟩) (.slice none 0 0) (.slice none 0 0) (.string ⟨#[]⟩) (.int .i64 0) (.string ⟨#[]⟩) (.slice none 0 0) (.slice none 0 0)
  have hb9 := call_bel HB2.out (Nat.le_refl _) (.bool false) (.int .i64 0) (.string ⟨#[]⟩) (.slice none 0 0) (.slice none 0 0) (.string ⟨#[]⟩) (.int .i64 0) (.string ⟨#[]⟩) (.slice none 0 0) (.slice none 0 0)
  have HC9 := hide hc9
  have HF9 := hide hf9
  have HI9 := hide hi9
  have HD9 := hide hb9
  clear hc9 hf9 hi9 hb9
  refine wpAnyH_ready (rs := [2]) (by kernel_rfl) (by simp) ?_
  refine AllReadyH.cons rfl (fun K9 hK => ?_) AllReadyH.nil
  go_simp
  refine hK.out _ _ (HSX.out _ HI9.out) (fun _ => ?_)
  clear hK K9 HPC2 HPF2 HBi2 HB2 lC p0 g0 p1 g1 p2 g2 p3 g3 p4 g4 p5 g5 p6 g6 p7 g7 p8 g8 p9 g9
  try simp only [Act.put, List.setIfInBounds_toArray, List.set_cons_zero, List.set_cons_succ, vagg]
  generalize ((((((((((w8.setCell ⟨w.heap.size, 0, none⟩ (.bool false)).setCell ⟨w.heap.size, 1, none⟩ (.int .i64 0)).setCell ⟨w.heap.size, 2, none⟩ (.string ⟨#[]⟩)).setCell ⟨w.heap.size, 3, none⟩ (.slice none 0 0)).setCell ⟨w.heap.size, 4, none⟩ (.slice none 0 0)).setCell ⟨w.heap.size, 5, none⟩ (.string ⟨#[]⟩)).setCell ⟨w.heap.size, 6, none⟩ (.int .i64 0)).setCell ⟨w.heap.size, 7, none⟩ (.string ⟨#[]⟩)).setCell ⟨w.heap.size, 8, none⟩ (.slice none 0 0)).setCell ⟨w.heap.size, 9, none⟩ (.slice none 0 0)) = wa at *
  have q0 := HF9.out.cell 0
  have q1 := HF9.out.cell 1
  have q2 := HF9.out.cell 2
  have q3 := HF9.out.cell 3
  have q4 := HF9.out.cell 4
  simp only [List.getElem?_toArray, List.getElem?_cons_zero, List.getElem?_cons_succ, Nat.reduceAdd] at q0 q1 q2 q3 q4
  have k0 := HF9.out.frozen 0
  have k1 := HF9.out.frozen 1
  have k2 := HF9.out.frozen 2
  have k3 := HF9.out.frozen 3
  have k4 := HF9.out.frozen 4
  have lF := HF9.out.lt
  have HCa := hide (ft_off HC9.out (show w.heap.size ≠ w.heap.size + 1 by omega) (.int .i64 (-32600)) (.int .i64 0) (.string ⟨#[]⟩) (.slice ya yn yc) (.slice yd ye yf))
  have HFa := hide (ft_set HF9.out (.int .i64 (-32600)) (.int .i64 0) (.string ⟨#[]⟩) (.slice ya yn yc) (.slice yd ye yf))
  have HIa := hide (ft_off HI9.out HNE.out.2 (.int .i64 (-32600)) (.int .i64 0) (.string ⟨#[]⟩) (.slice ya yn yc) (.slice yd ye yf))
  have HDa := hide (ft_bel HD9.out (Nat.le_succ _) (.int .i64 (-32600)) (.int .i64 0) (.string ⟨#[]⟩) (.slice ya yn yc) (.slice yd ye yf))
  refine wpAnyH_ready (rs := [3]) (by kernel_rfl) (by simp) ?_
  refine AllReadyH.cons rfl (fun K9 hK => ?_) AllReadyH.nil
  go_simp
  refine hK.out _ _ (HSX.out _ HIa.out) (fun _ => ?_)
  clear hK K9
  try simp only [Act.put, List.setIfInBounds_toArray, List.set_cons_zero, List.set_cons_succ, vagg]
  refine takeD (i := 4) (v := ?v3) (some 4) rfl (by kernel_rfl) (by kernel_rfl) (by kernel_rfl) (fun _ _ _ h => h) (Or.inl ⟨by rfl, ?hy3⟩) (HSX.out _ HIa.out) (by rfl) ?rest3
  case hy3 => first | (intro w hSw; (try dsimp only at hSw); obtain ⟨s0, s1, s2, s3, s4⟩ := hSw; go_simp; done) | (intro w hSw; (try dsimp only at hSw); obtain ⟨s0, s1, s2, s3, s4⟩ := hSw; go_simp; with_reducible rfl)
  try simp only [Act.put, List.setIfInBounds_toArray, List.set_cons_zero, List.set_cons_succ, vagg]
  refine wpAnyH_done (by kernel_rfl) ?_ _
  go_wp2
  refine bodyPost_ret (results_cf rfl rfl rfl rfl HCa.out HFa.out) rfl ?_
  exact ⟨⟨_, _, _, _, _, _, rfl⟩, HDa.out⟩

end Go.Proofs.YtbdpmpepmjpadaaGreatDoor

namespace Go.Proofs.YtbdpmpepmjpadaaGreatDoor
set_option linter.unusedVariables false
set_option linter.unusedSimpArgs false
set_option maxRecDepth 100000
open Go Go.RowKit Go.Shelf Go.Lib

set_option maxHeartbeats 8000000 in
theorem called_calls (w : World) (hU : Utf8Tabs 0 1 w) (hE : ErrS w) :
    Calls Tryz.prog 6 #[] w fun e w' => e = .returned (.bool true) ∧ Below w.heap.size w w' := by
  obtain ⟨wA, hwA⟩ : ∃ wA, w.alloc (.cells #[.int .u8 123, .int .u8 34, .int .u8 106, .int .u8 115, .int .u8 111, .int .u8 110, .int .u8 114, .int .u8 112, .int .u8 99, .int .u8 34, .int .u8 58, .int .u8 34, .int .u8 50, .int .u8 46, .int .u8 48, .int .u8 34, .int .u8 44, .int .u8 34, .int .u8 105, .int .u8 100, .int .u8 34, .int .u8 58, .int .u8 49, .int .u8 44, .int .u8 34, .int .u8 109, .int .u8 101, .int .u8 116, .int .u8 104, .int .u8 111, .int .u8 100, .int .u8 34, .int .u8 58, .int .u8 34, .int .u8 109, .int .u8 34, .int .u8 125] 5 (37, 38)) = wA := ⟨_, rfl⟩
  have hc1 : (convert 22 22 (.slice (some ⟨w.heap.size, 0, none⟩) 37 37)).run Tryz.prog (w.alloc (.cells #[.int .u8 123, .int .u8 34, .int .u8 106, .int .u8 115, .int .u8 111, .int .u8 110, .int .u8 114, .int .u8 112, .int .u8 99, .int .u8 34, .int .u8 58, .int .u8 34, .int .u8 50, .int .u8 46, .int .u8 48, .int .u8 34, .int .u8 44, .int .u8 34, .int .u8 105, .int .u8 100, .int .u8 34, .int .u8 58, .int .u8 49, .int .u8 44, .int .u8 34, .int .u8 109, .int .u8 101, .int .u8 116, .int .u8 104, .int .u8 111, .int .u8 100, .int .u8 34, .int .u8 58, .int .u8 34, .int .u8 109, .int .u8 34, .int .u8 125] 5)) = .ok (.slice (some ⟨w.heap.size, 0, none⟩) 37 37) wA := by
    rw [← hwA]
    exact run_convert_bytes_const w 22 5 #[.int .u8 123, .int .u8 34, .int .u8 106, .int .u8 115, .int .u8 111, .int .u8 110, .int .u8 114, .int .u8 112, .int .u8 99, .int .u8 34, .int .u8 58, .int .u8 34, .int .u8 50, .int .u8 46, .int .u8 48, .int .u8 34, .int .u8 44, .int .u8 34, .int .u8 105, .int .u8 100, .int .u8 34, .int .u8 58, .int .u8 49, .int .u8 44, .int .u8 34, .int .u8 109, .int .u8 101, .int .u8 116, .int .u8 104, .int .u8 111, .int .u8 100, .int .u8 34, .int .u8 58, .int .u8 34, .int .u8 109, .int .u8 34, .int .u8 125] 37 37 Tryz.underlying22 Tryz.underlying5
  have hbA : Byts wA (.slice (some ⟨w.heap.size, 0, none⟩) ex6.length 37) ex6 := by rw [← hwA]; exact byts_lit w ex6 ex6_small (37, 38)
  have bA : Below w.heap.size w wA := by rw [← hwA]; exact bel w _
  have HR1 := hide (read6 wA _ 37 hbA (Utf8Tabs_below hU bA) (hE.below bA) (by decide))
  have HBA := hide bA
  have HU := hide hU
  have HE := hide hE
  rw [show ex6.length = 37 from rfl] at HR1
  clear hwA hbA bA hU hE
  go_enter Tryz.func6, Tryz.ntmps6
  go_wp2_with fail
  refine HR1.out.mono ?_
  rintro e w1 ⟨⟨ya, yn, yc, yd, ye, yf, zk, zs, za, zn, zc, zd, ze, zf, rfl⟩, hb1⟩
  have hb2 : Below w1.heap.size w1 ((w1.alloc (.cells #[.bool true, .int .i64 3, .string sOne, .slice ya yn yc, .slice yd ye yf, .string sM, .int .i64 zk, .string zs, .slice za zn zc, .slice zd ze zf] 29)).alloc (.cells #[.int .i64 0, .int .i64 0, .string ⟨#[]⟩, .slice none 0 0, .slice none 0 0] 31)) := (bel w1 _).alloc (by simp) _
  have hx2 := (BoxC.new w1 29 #[.bool true, .int .i64 3, .string sOne, .slice ya yn yc, .slice yd ye yf, .string sM, .int .i64 zk, .string zs, .slice za zn zc, .slice zd ze zf]).alloc (.cells #[.int .i64 0, .int .i64 0, .string ⟨#[]⟩, .slice none 0 0, .slice none 0 0] 31)
  have HB2 := hide (HBA.out.trans ((hb1.trans (hb2.mono hb1.size)).mono HBA.out.size))
  have HX2 := hide hx2
  clear hb1 hb2 hx2 hc1 HR1 HBA
  go_upto_region 2 with fail
  generalize w1.heap.size = B1 at *
  generalize (w1.alloc (.cells #[.bool true, .int .i64 3, .string sOne, .slice ya yn yc, .slice yd ye yf, .string sM, .int .i64 zk, .string zs, .slice za zn zc, .slice zd ze zf] 29)).alloc (.cells #[.int .i64 0, .int .i64 0, .string ⟨#[]⟩, .slice none 0 0, .slice none 0 0] 31) = w2 at *
  obtain ⟨wB, hwB⟩ : ∃ wB, w2.alloc (.cells #[.int .u8 91, .int .u8 49, .int .u8 93] 5 (3, 4)) = wB := ⟨_, rfl⟩
  have hc2 : (convert 22 22 (.slice (some ⟨w2.heap.size, 0, none⟩) 3 3)).run Tryz.prog (w2.alloc (.cells #[.int .u8 91, .int .u8 49, .int .u8 93] 5)) = .ok (.slice (some ⟨w2.heap.size, 0, none⟩) 3 3) wB := by
    rw [← hwB]
    exact run_convert_bytes_const w2 22 5 #[.int .u8 91, .int .u8 49, .int .u8 93] 3 3 Tryz.underlying22 Tryz.underlying5
  have hbB : Byts wB (.slice (some ⟨w2.heap.size, 0, none⟩) ex7.length 3) ex7 := by rw [← hwB]; exact byts_lit w2 ex7 ex7_small (3, 4)
  have bB : Below w2.heap.size w2 wB := by rw [← hwB]; exact bel w2 _
  have HBB := hide (HB2.out.trans (bB.mono HB2.out.size))
  have HX3 := hide (HX2.out.below bB)
  have HR2 := hide (read7 wB _ 3 hbB (Utf8Tabs_below HU.out HBB.out) (HE.out.below HBB.out) (by decide))
  rw [show ex7.length = 3 from rfl] at HR2
  clear hwB hbB bB HX2 HB2
  go_wp2_with fail
  refine HR2.out.mono ?_
  rintro e w3 ⟨⟨ra, rn, rc, sa, sn, sc, rfl⟩, hb3⟩
  have hb4 : Below w3.heap.size w3 ((w3.alloc (.cells #[.bool false, .int .i64 0, .string ⟨#[]⟩, .slice none 0 0, .slice none 0 0, .string ⟨#[]⟩, .int .i64 0, .string ⟨#[]⟩, .slice none 0 0, .slice none 0 0] 29)).alloc (.cells #[.int .i64 (-32600), .int .i64 0, .string ⟨#[]⟩, .slice ra rn rc, .slice sa sn sc] 31)) := (bel w3 _).alloc (by simp) _
  have hy4 := BoxC.new (w3.alloc (.cells #[.bool false, .int .i64 0, .string ⟨#[]⟩, .slice none 0 0, .slice none 0 0, .string ⟨#[]⟩, .int .i64 0, .string ⟨#[]⟩, .slice none 0 0, .slice none 0 0] 29)) 31 #[.int .i64 (-32600), .int .i64 0, .string ⟨#[]⟩, .slice ra rn rc, .slice sa sn sc]
  rw [World.size_alloc] at hy4
  have hb34 := hb3.trans (hb4.mono hb3.size)
  have HB4 := hide (HBB.out.trans (hb34.mono HBB.out.size))
  have hx4 := HX3.out.below hb34
  clear hb3 hb4 hb34 hc2 HR2 HX3 HBB
  go_upto_region 3 with fail
  generalize w3.heap.size = B3 at *
  generalize (w3.alloc (.cells #[.bool false, .int .i64 0, .string ⟨#[]⟩, .slice none 0 0, .slice none 0 0, .string ⟨#[]⟩, .int .i64 0, .string ⟨#[]⟩, .slice none 0 0, .slice none 0 0] 29)).alloc (.cells #[.int .i64 (-32600), .int .i64 0, .string ⟨#[]⟩, .slice ra rn rc, .slice sa sn sc] 31) = w4 at *
  have v0 := hx4.cell 0
  have v5 := hx4.cell 5
  have u0 := hy4.cell 0
  have u1 := hy4.cell 1
  simp only [List.getElem?_toArray, List.getElem?_cons_zero, List.getElem?_cons_succ] at v0 v5 u0 u1
  have hs : (sM.toList == [109]) = true := by rw [toList_data]; decide
  clear hx4 hy4
  go_wp2
  go_ret
  exact ⟨rfl, HB4.out⟩

end Go.Proofs.YtbdpmpepmjpadaaGreatDoor

namespace Go.Proofs.YtbdpmpepmjpadaaGreatDoor
set_option linter.unusedVariables false
set_option linter.unusedSimpArgs false
set_option maxRecDepth 100000
open Go Go.RowKit Go.Shelf Go.Lib

/-- The reference's reader in memory: its text, where it stands, how deep, the first error and where. -/
def RQ (w : World) (R : Nat) (sv : Value) (p : Nat) (d e b : Int) : Prop := BoxC w R 80 #[sv, .int .i64 (p : Int), .int .i64 d, .int .i64 e, .int .i64 b]
theorem RQ.below {w w' : World} {R p : Nat} {sv : Value} {d e b : Int} (h : RQ w R sv p d e b) (hb : Below w.heap.size w w') : RQ w' R sv p d e b := BoxC.below h hb

set_option maxHeartbeats 4000000 in
theorem fail_yes (w : World) (R p : Nat) (sv : Value) (d b n m : Int) (h : RQ w R sv p d 0 b) :
    Calls Tryz.prog 34 #[.pointer (some ⟨R, 0, none⟩), .int .i64 n, .int .i64 m] w fun e w' => e = .returned (.tuple #[]) ∧ RQ w' R sv p d n m ∧ Fr R none w w' := by
  have c3 : w.cell? ⟨R, 3, none⟩ = some (.int .i64 0) := h.cell 3
  have c4 : w.cell? ⟨R, 4, none⟩ = some (.int .i64 b) := h.cell 4
  have f3 := h.frozen 3
  have f4 := h.frozen 4
  have lR := h.lt
  have H1 : Hid (RQ ((w.setCell ⟨R, 3, none⟩ (.int .i64 n)).setCell ⟨R, 4, none⟩ (.int .i64 m)) R sv p d n m) := (BoxC.set h 3 _).set 4 _
  have H2 : Hid (Fr R none w ((w.setCell ⟨R, 3, none⟩ (.int .i64 n)).setCell ⟨R, 4, none⟩ (.int .i64 m))) := ((Fr.refl R none w).set 3 _).set 4 _
  clear h
  go_enter Tryz.func34, Tryz.ntmps34
  go_wp2
  go_end0
  exact ⟨rfl, H1.out, H2.out⟩
set_option maxHeartbeats 4000000 in
theorem fail_no (w : World) (R p : Nat) (sv : Value) (d e0 b n m : Int) (h : RQ w R sv p d e0 b) (he : e0 ≠ 0) :
    Calls Tryz.prog 34 #[.pointer (some ⟨R, 0, none⟩), .int .i64 n, .int .i64 m] w fun e w' => e = .returned (.tuple #[]) ∧ w' = w := by
  have c3 : w.cell? ⟨R, 3, none⟩ = some (.int .i64 e0) := h.cell 3
  have lR := h.lt
  have d0 : (e0 == 0) = false := by simpa using he
  clear h he
  go_enter Tryz.func34, Tryz.ntmps34
  go_wp2
  go_end0
  exact ⟨rfl, rfl⟩

set_option maxHeartbeats 4000000 in
theorem see_yes (w : World) (R p : Nat) (d b : Int) (ao : Option Addr) (cap : Nat) (T : List Nat) (h : RQ w R (.slice ao T.length cap) p d 0 b) (hT : TxJ w R ao cap T) (hp : p < T.length) :
    Calls Tryz.prog 55 #[.pointer (some ⟨R, 0, none⟩)] w fun e w' => e = .returned (.int .i64 ((nth T p : Nat) : Int)) ∧ Below w.heap.size w w' := by
  have c0 : w.cell? ⟨R, 0, none⟩ = some (.slice ao T.length cap) := h.cell 0
  have c1 : w.cell? ⟨R, 1, none⟩ = some (.int .i64 (p : Int)) := h.cell 1
  have c3 : w.cell? ⟨R, 3, none⟩ = some (.int .i64 0) := h.cell 3
  have lR := h.lt
  have hx := nth_byt hT.byts.small p
  obtain ⟨ao', cap', e, hb, hc⟩ := hT.byts
  cases e
  obtain ⟨b', off, rfl, cx⟩ := hc p hp
  have d1 : ¬ (p : Int) ≥ (T.length : Int) := by omega
  have d2 : (p : Int) < (T.length : Int) := by omega
  have d0 : (0 : Int) ≤ (p : Int) := by omega
  generalize nth T p = x at *
  have g1 : (x : Int) ≤ 255 := by omega
  generalize T.length = tl at *
  clear h hT hp hc hb
  go_enter Tryz.func55, Tryz.ntmps55
  go_wp2
  go_quiet (fail)
  go_wp2
  go_quiet (fail)
  go_wp2
  go_ret
  exact ⟨rfl, bdrewN (bdrewN (Below.refl _ _) _) _⟩

set_option maxHeartbeats 4000000 in
theorem see_end (w : World) (R : Nat) (d b : Int) (ao : Option Addr) (cap : Nat) (T : List Nat) (h : RQ w R (.slice ao T.length cap) T.length d 0 b) :
    Calls Tryz.prog 55 #[.pointer (some ⟨R, 0, none⟩)] w fun e w' => e = .returned (.int .i64 (-1)) ∧ Below w.heap.size w w' := by
  have c0 : w.cell? ⟨R, 0, none⟩ = some (.slice ao T.length cap) := h.cell 0
  have c1 : w.cell? ⟨R, 1, none⟩ = some (.int .i64 (T.length : Int)) := h.cell 1
  have c3 : w.cell? ⟨R, 3, none⟩ = some (.int .i64 0) := h.cell 3
  have lR := h.lt
  have d1 : (T.length : Int) ≥ (T.length : Int) := by omega
  generalize T.length = tl at *
  clear h
  go_enter Tryz.func55, Tryz.ntmps55
  go_wp2
  go_quiet (fail)
  go_wp2
  go_ret
  exact ⟨rfl, bdrewN (Below.refl _ _) _⟩
set_option maxHeartbeats 4000000 in
theorem see_bad (w : World) (R p : Nat) (d e0 b : Int) (sv : Value) (h : RQ w R sv p d e0 b) (he : e0 ≠ 0) :
    Calls Tryz.prog 55 #[.pointer (some ⟨R, 0, none⟩)] w fun e w' => e = .returned (.int .i64 (-1)) ∧ Below w.heap.size w w' := by
  have c3 : w.cell? ⟨R, 3, none⟩ = some (.int .i64 e0) := h.cell 3
  have lR := h.lt
  have d0 : (e0 == 0) = false := by simpa using he
  have d1 : (e0 != 0) = true := by simpa using he
  clear h he
  go_enter Tryz.func55, Tryz.ntmps55
  go_wp2
  go_quiet (fail)
  go_wp2
  go_ret
  exact ⟨rfl, bdrewN (Below.refl _ _) _⟩

set_option maxHeartbeats 4000000 in
theorem peek_yes (w : World) (R p : Nat) (d b : Int) (ao : Option Addr) (cap : Nat) (T : List Nat) (h : RQ w R (.slice ao T.length cap) p d 0 b) (hT : TxJ w R ao cap T) (hp : p < T.length) :
    Calls Tryz.prog 56 #[.pointer (some ⟨R, 0, none⟩)] w fun e w' => e = .returned (.int .i64 ((nth T p : Nat) : Int)) ∧ Below w.heap.size w w' := by
  have c0 : w.cell? ⟨R, 0, none⟩ = some (.slice ao T.length cap) := h.cell 0
  have c1 : w.cell? ⟨R, 1, none⟩ = some (.int .i64 (p : Int)) := h.cell 1
  have c3 : w.cell? ⟨R, 3, none⟩ = some (.int .i64 0) := h.cell 3
  have lR := h.lt
  have hx := nth_byt hT.byts.small p
  obtain ⟨ao', cap', e, hb, hc⟩ := hT.byts
  cases e
  obtain ⟨b', off, rfl, cx⟩ := hc p hp
  have d1 : ¬ (p : Int) ≥ (T.length : Int) := by omega
  have d2 : (p : Int) < (T.length : Int) := by omega
  have d0 : (0 : Int) ≤ (p : Int) := by omega
  generalize nth T p = x at *
  have g1 : (x : Int) ≤ 255 := by omega
  generalize T.length = tl at *
  clear h hT hp hc hb
  go_enter Tryz.func56, Tryz.ntmps56
  go_wp2
  go_quiet (fail)
  go_wp2
  go_quiet (fail)
  go_wp2
  go_ret
  exact ⟨rfl, bdrewN (bdrewN (Below.refl _ _) _) _⟩
set_option maxHeartbeats 4000000 in
theorem peek_end (w : World) (R : Nat) (d b : Int) (ao : Option Addr) (cap : Nat) (T : List Nat) (h : RQ w R (.slice ao T.length cap) T.length d 0 b) :
    Calls Tryz.prog 56 #[.pointer (some ⟨R, 0, none⟩)] w fun e w' => e = .returned (.int .i64 (-1)) ∧ RQ w' R (.slice ao T.length cap) T.length d 11 (T.length : Int) ∧ Fr R none w w' := by
  have c0 : w.cell? ⟨R, 0, none⟩ = some (.slice ao T.length cap) := h.cell 0
  have c1 : w.cell? ⟨R, 1, none⟩ = some (.int .i64 (T.length : Int)) := h.cell 1
  have c3 : w.cell? ⟨R, 3, none⟩ = some (.int .i64 0) := h.cell 3
  have lR := h.lt
  have HH := hide h
  have d1 : (T.length : Int) ≥ (T.length : Int) := by omega
  generalize T.length = tl at *
  clear h
  go_enter Tryz.func56, Tryz.ntmps56
  go_wp2
  go_quiet (fail)
  go_wp2_with fail
  refine (fail_yes _ R tl (.slice ao tl cap) d b 11 (tl : Int) (HH.out.below (bdrewN (Below.refl _ _) _))).mono ?_
  rintro e w1 ⟨rfl, hr1, hf1⟩
  have HR := hide hr1
  have HF : Hid (Fr R none w w1) := (Fr.of (bdrewN (Below.refl _ _) _)).trans hf1 (.inl rfl)
  clear hr1 hf1
  go_wp2
  go_ret
  exact ⟨rfl, HR.out, HF.out⟩
set_option maxHeartbeats 4000000 in
theorem peek_bad (w : World) (R p : Nat) (d e0 b : Int) (sv : Value) (h : RQ w R sv p d e0 b) (he : e0 ≠ 0) :
    Calls Tryz.prog 56 #[.pointer (some ⟨R, 0, none⟩)] w fun e w' => e = .returned (.int .i64 (-1)) ∧ w' = w := by
  have c3 : w.cell? ⟨R, 3, none⟩ = some (.int .i64 e0) := h.cell 3
  have lR := h.lt
  have d0 : (e0 == 0) = false := by simpa using he
  have d1 : (e0 != 0) = true := by simpa using he
  clear h he
  go_enter Tryz.func56, Tryz.ntmps56
  go_wp2
  go_ret
  exact ⟨rfl, rfl⟩

end Go.Proofs.YtbdpmpepmjpadaaGreatDoor

namespace Go.Proofs.YtbdpmpepmjpadaaGreatDoor
set_option linter.unusedVariables false
set_option linter.unusedSimpArgs false
set_option maxRecDepth 100000
open Go Go.RowKit Go.Shelf Go.Lib

theorem RQ.at {w : World} {R p : Nat} {sv : Value} {d e b : Int} (h : RQ w R sv p d e b) : rdAt w R = p := by
  unfold rdAt
  have c1 : w.cell? ⟨R, 1, none⟩ = some (.int .i64 (p : Int)) := BoxC.cell h 1
  rw [c1]
  simp
theorem RQ.sets {w : World} {R p q : Nat} {sv : Value} {d e b : Int} (h : RQ w R sv p d e b) : RQ (w.setCell ⟨R, 1, none⟩ (.int .i64 (q : Int))) R sv q d e b := BoxC.set h 1 _

/-- How deep it may stand: no deeper than it has come. -/
def DB (d e : Int) (p : Nat) : Prop := -(p : Int) - 1 ≤ d ∧ d ≤ (p : Int) + 1 ∧ (e = 0 → -(p : Int) ≤ d ∧ d ≤ (p : Int))
theorem DB.mono {d e e' : Int} {p q : Nat} (h : DB d e p) (hq : p ≤ q) (he : e = 0 → e' = 0 ∨ True) (h0 : e' = 0 → e = 0) : DB d e' q := by
  obtain ⟨h1, h2, h3⟩ := h
  exact ⟨by omega, by omega, fun h => by have := h3 (h0 h); omega⟩
/-- Where it stands behind a call: further, and broken if it was. -/
def QA (T : List Nat) (w : World) (R : Nat) (sv : Value) (p : Nat) (e : Int) (w' : World) : Prop :=
  ∃ (p' : Nat) (d' e' b' : Int), RQ w' R sv p' d' e' b' ∧ Fr R none w w' ∧ p ≤ p' ∧ p' ≤ T.length ∧ DB d' e' p' ∧ (e ≠ 0 → e' ≠ 0)
theorem QA.trans {T : List Nat} {w w1 w2 : World} {R p p1 : Nat} {sv : Value} {e e1 : Int} (hf : Fr R none w w1) (hp : p ≤ p1) (he : e ≠ 0 → e1 ≠ 0) (h : QA T w1 R sv p1 e1 w2) : QA T w R sv p e w2 := by
  obtain ⟨p', d', e', b', h1, h2, h3, h4, h5, h6⟩ := h
  exact ⟨p', d', e', b', h1, hf.trans h2 (.inl rfl), Nat.le_trans hp h3, h4, h5, fun h => h6 (he h)⟩

/-- What see tells. -/
def SeeV (T : List Nat) (p : Nat) (e c : Int) : Prop := (c = -1 ∧ ¬ (e = 0 ∧ p < T.length)) ∨ (e = 0 ∧ p < T.length ∧ c = ((nth T p : Nat) : Int))
theorem see_any (w : World) (R p : Nat) (d e b : Int) (ao : Option Addr) (cap : Nat) (T : List Nat) (h : RQ w R (.slice ao T.length cap) p d e b) (hT : TxJ w R ao cap T) (hp : p ≤ T.length) :
    Calls Tryz.prog 55 #[.pointer (some ⟨R, 0, none⟩)] w fun r w' => ∃ c : Int, r = .returned (.int .i64 c) ∧ SeeV T p e c ∧ -1 ≤ c ∧ c ≤ 255 ∧ Below w.heap.size w w' := by
  by_cases he : e = 0
  · subst he
    by_cases hlt : p < T.length
    · refine (see_yes w R p d b ao cap T h hT hlt).mono ?_
      rintro r w' ⟨rfl, hb⟩
      have := nth_byt hT.byts.small p
      exact ⟨_, rfl, .inr ⟨rfl, hlt, rfl⟩, by omega, by omega, hb⟩
    · obtain rfl : p = T.length := by omega
      refine (see_end w R d b ao cap T h).mono ?_
      rintro r w' ⟨rfl, hb⟩
      exact ⟨_, rfl, .inl ⟨rfl, fun h => by omega⟩, by omega, by omega, hb⟩
  · refine (see_bad w R p d e b _ h he).mono ?_
    rintro r w' ⟨rfl, hb⟩
    exact ⟨_, rfl, .inl ⟨rfl, fun h => he h.1⟩, by omega, by omega, hb⟩
theorem peek_any (w : World) (R p : Nat) (d e b : Int) (ao : Option Addr) (cap : Nat) (T : List Nat) (h : RQ w R (.slice ao T.length cap) p d e b) (hT : TxJ w R ao cap T) (hp : p ≤ T.length) :
    Calls Tryz.prog 56 #[.pointer (some ⟨R, 0, none⟩)] w fun r w' => ∃ c e' b' : Int, r = .returned (.int .i64 c) ∧ RQ w' R (.slice ao T.length cap) p d e' b' ∧ Fr R none w w' ∧ -1 ≤ c ∧ c ≤ 255 ∧ ((c = -1 ∧ e' ≠ 0) ∨ (e' = 0 ∧ e = 0 ∧ p < T.length ∧ 0 ≤ c)) := by
  by_cases he : e = 0
  · subst he
    by_cases hlt : p < T.length
    · refine (peek_yes w R p d b ao cap T h hT hlt).mono ?_
      rintro r w' ⟨rfl, hb⟩
      have := nth_byt hT.byts.small p
      exact ⟨_, 0, b, rfl, h.below hb, Fr.of hb, by omega, by omega, .inr ⟨rfl, rfl, hlt, by omega⟩⟩
    · obtain rfl : p = T.length := by omega
      refine (peek_end w R d b ao cap T h).mono ?_
      rintro r w' ⟨rfl, hr, hf⟩
      exact ⟨_, 11, _, rfl, hr, hf, by omega, by omega, .inl ⟨rfl, by omega⟩⟩
  · refine (peek_bad w R p d e b _ h he).mono ?_
    rintro r w' ⟨rfl, rfl⟩
    exact ⟨_, e, b, rfl, h, Fr.refl _ _ _, by omega, by omega, .inl ⟨rfl, he⟩⟩
theorem fail_any (w : World) (R p : Nat) (d e b n m : Int) (sv : Value) (h : RQ w R sv p d e b) (hn : n ≠ 0) :
    Calls Tryz.prog 34 #[.pointer (some ⟨R, 0, none⟩), .int .i64 n, .int .i64 m] w fun r w' => ∃ e' b' : Int, r = .returned (.tuple #[]) ∧ RQ w' R sv p d e' b' ∧ Fr R none w w' ∧ e' ≠ 0 := by
  by_cases he : e = 0
  · subst he
    refine (fail_yes w R p sv d b n m h).mono ?_
    rintro r w' ⟨rfl, hr, hf⟩
    exact ⟨n, m, rfl, hr, hf, hn⟩
  · refine (fail_no w R p sv d e b n m h he).mono ?_
    rintro r w' ⟨rfl, rfl⟩
    exact ⟨e, b, rfl, h, Fr.refl _ _ _, he⟩

/-- A reader on its way: what its walks keep. -/
structure QS (T : List Nat) (w W : World) (R : Nat) (ao : Option Addr) (cap : Nat) (p : Nat) (d e b : Int) : Prop where
  rq : RQ W R (.slice ao T.length cap) p d e b
  tx : TxJ W R ao cap T
  fr : Fr R none w W
  le : p ≤ T.length
  db : DB d e p
theorem QS.go {T : List Nat} {w W W' : World} {R : Nat} {ao : Option Addr} {cap p q : Nat} {d d' e e' b b' : Int} (h : QS T w W R ao cap p d e b) (hr : RQ W' R (.slice ao T.length cap) q d' e' b') (hf : Fr R none W W') (hq : q ≤ T.length) (hd : DB d' e' q) : QS T w W' R ao cap q d' e' b' :=
  ⟨hr, h.tx.fr hf, h.fr.trans hf (.inl rfl), hq, hd⟩
theorem QS.below {T : List Nat} {w W W' : World} {R : Nat} {ao : Option Addr} {cap p : Nat} {d e b : Int} (h : QS T w W R ao cap p d e b) (hb : Below W.heap.size W W') : QS T w W' R ao cap p d e b := h.go (h.rq.below hb) (Fr.of hb) h.le h.db
theorem QS.step {T : List Nat} {w W : World} {R : Nat} {ao : Option Addr} {cap p q : Nat} {d e b : Int} (h : QS T w W R ao cap p d e b) (hpq : p ≤ q) (hq : q ≤ T.length) : QS T w (W.setCell ⟨R, 1, none⟩ (.int .i64 (q : Int))) R ao cap q d e b :=
  h.go h.rq.sets ((Fr.refl R none W).set 1 _) hq (h.db.mono hpq (fun _ => .inr trivial) (fun h => h))

set_option maxHeartbeats 8000000 in
theorem blank_any (w : World) (R p : Nat) (d e b : Int) (ao : Option Addr) (cap : Nat) (T : List Nat) (h : QS T w w R ao cap p d e b) :
    Calls Tryz.prog 32 #[.pointer (some ⟨R, 0, none⟩)] w fun r w' => r = .returned (.tuple #[]) ∧ ∃ q, p ≤ q ∧ QS T w w' R ao cap q d e b := by
  have HL := hide h.tx.len
  have HS := hide (see_any w R p d e b ao cap T h.rq h.tx h.le)
  have H0 := hide h
  clear h
  go_enter Tryz.func32, Tryz.ntmps32
  go_wp2_with fail
  refine HS.out.mono ?_
  rintro r w1 ⟨c, rfl, hc, hc1, hc2, hb1⟩
  have HI : Hid (∃ (q : Nat) (x : Int), p ≤ q ∧ Value.int .i64 c = .int .i64 x ∧ SeeV T q e x ∧ -1 ≤ x ∧ x ≤ 255 ∧ QS T w w1 R ao cap q d e b) := ⟨p, c, Nat.le_refl _, rfl, hc, hc1, hc2, H0.out.below hb1⟩
  clear hc hc1 hc2 hb1 H0 HS
  go_wp2
  go_loopw [2] (fun cv wr => ∃ (q : Nat) (x : Int), p ≤ q ∧ cv = .int .i64 x ∧ SeeV T q e x ∧ -1 ≤ x ∧ x ≤ 255 ∧ QS T w wr R ao cap q d e b) (fun _ wr => T.length - rdAt wr R)
  case atStart => exact HI.out
  case round =>
    obtain ⟨q, x, hpq, rfl, hx, hx1, hx2, hs⟩ := hrel
    have HS := hide hs
    have HPQ := hide hpq
    have HAT := hide hs.rq.at
    have HX := hide hx
    clear HI hs hpq hx
    by_cases hbl : x = 32 ∨ x = 9 ∨ x = 10 ∨ x = 13
    · have hq : e = 0 ∧ q < T.length := by
        rcases HX.out with h | h
        · have := h.1; omega
        · exact ⟨h.1, h.2.1⟩
      obtain ⟨q1, hq1⟩ : ∃ q1, q + 1 = q1 := ⟨_, rfl⟩
      have e1 : (q : Int) + 1 = (q1 : Int) := by omega
      have g1 : (q1 : Int) ≤ 1000000000 := by have := HL.out; omega
      have hs1 := HS.out.step (show q ≤ q1 by omega) (by omega)
      have HQ1 := hide (And.intro hq1 hq.2)
      have HS1 := hide hs1
      have HSE := hide (see_any _ R q1 d e b ao cap T hs1.rq hs1.tx hs1.le)
      have c1 : wr.cell? ⟨R, 1, none⟩ = some (.int .i64 (q : Int)) := HS.out.rq.cell 1
      have f1 : wr.frozen? ⟨R, 1, none⟩ = false := HS.out.rq.frozen 1
      have lR : R < wr.heap.size := HS.out.rq.lt
      clear hs1 hq hq1 HX
      rcases hbl with rfl | rfl | rfl | rfl
      all_goals
        go_wp2_with fail
        refine HSE.out.mono ?_
        rintro r w2 ⟨c, rfl, hc, hc1, hc2, hb2⟩
        have HREL : Hid (∃ (q : Nat) (x : Int), p ≤ q ∧ Value.int .i64 c = .int .i64 x ∧ SeeV T q e x ∧ -1 ≤ x ∧ x ≤ 255 ∧ QS T w w2 R ao cap q d e b) := ⟨q1, c, by have := HPQ.out; have := HQ1.out; omega, rfl, hc, hc1, hc2, HS1.out.below hb2⟩
        have HM : Hid (rdAt w2 R = q1) := (HS1.out.below hb2).rq.at
        clear hc hc1 hc2 hb2 c1 f1 lR
        go_wp2
        go_roundw
        case rel => exact HREL.out
        case measure => rw [HM.out, HAT.out]; have := HQ1.out; omega
    · have x1 : (x == 32) = false := by rw [beq_eq_false_iff_ne]; omega
      have x2 : (x == 9) = false := by rw [beq_eq_false_iff_ne]; omega
      have x3 : (x == 10) = false := by rw [beq_eq_false_iff_ne]; omega
      have x4 : (x == 13) = false := by rw [beq_eq_false_iff_ne]; omega
      clear hbl
      go_wp2
      go_end0
      exact ⟨rfl, q, HPQ.out, HS.out⟩

end Go.Proofs.YtbdpmpepmjpadaaGreatDoor

namespace Go.Proofs.YtbdpmpepmjpadaaGreatDoor
set_option linter.unusedVariables false
set_option linter.unusedSimpArgs false
set_option maxRecDepth 100000
open Go Go.RowKit Go.Shelf Go.Lib

/-- A call of the reader is over: it stands no earlier, and stays broken. -/
def QM (T : List Nat) (w : World) (R : Nat) (ao : Option Addr) (cap p : Nat) (e : Int) (w' : World) : Prop :=
  ∃ (q : Nat) (d' e' b' : Int), p ≤ q ∧ QS T w w' R ao cap q d' e' b' ∧ (e ≠ 0 → e' ≠ 0)
theorem QS.keep {T : List Nat} {w W W' : World} {R : Nat} {ao : Option Addr} {cap p : Nat} {d e e' b b' : Int} (h : QS T w W R ao cap p d e b) (hr : RQ W' R (.slice ao T.length cap) p d e' b') (hf : Fr R none W W') (he : e ≠ 0 → e' ≠ 0) : QS T w W' R ao cap p d e' b' :=
  h.go hr hf h.le (h.db.mono (Nat.le_refl _) (fun _ => .inr trivial) (fun h0 => Decidable.byContradiction fun hn => he hn h0))
theorem peek_q (w W : World) (R p : Nat) (d e b : Int) (ao : Option Addr) (cap : Nat) (T : List Nat) (h : QS T w W R ao cap p d e b) :
    Calls Tryz.prog 56 #[.pointer (some ⟨R, 0, none⟩)] W fun r w' => ∃ c e' b' : Int, r = .returned (.int .i64 c) ∧ QS T w w' R ao cap p d e' b' ∧ -1 ≤ c ∧ c ≤ 255 ∧ ((c = -1 ∧ e' ≠ 0) ∨ (e' = 0 ∧ e = 0 ∧ p < T.length ∧ 0 ≤ c)) := by
  refine (peek_any W R p d e b ao cap T h.rq h.tx h.le).mono ?_
  rintro r w' ⟨c, e', b', rfl, hr, hf, h1, h2, h3⟩
  refine ⟨c, e', b', rfl, h.keep hr hf ?_, h1, h2, h3⟩
  intro hn
  rcases h3 with h | h
  · exact h.2
  · exact absurd h.2.1 hn
theorem see_q (w W : World) (R p : Nat) (d e b : Int) (ao : Option Addr) (cap : Nat) (T : List Nat) (h : QS T w W R ao cap p d e b) :
    Calls Tryz.prog 55 #[.pointer (some ⟨R, 0, none⟩)] W fun r w' => ∃ c : Int, r = .returned (.int .i64 c) ∧ QS T w w' R ao cap p d e b ∧ SeeV T p e c ∧ -1 ≤ c ∧ c ≤ 255 := by
  refine (see_any W R p d e b ao cap T h.rq h.tx h.le).mono ?_
  rintro r w' ⟨c, rfl, h1, h2, h3, hb⟩
  exact ⟨c, rfl, h.below hb, h1, h2, h3⟩
theorem fail_q (w W : World) (R p : Nat) (d e b n m : Int) (ao : Option Addr) (cap : Nat) (T : List Nat) (h : QS T w W R ao cap p d e b) (hn : n ≠ 0) :
    Calls Tryz.prog 34 #[.pointer (some ⟨R, 0, none⟩), .int .i64 n, .int .i64 m] W fun r w' => ∃ e' b' : Int, r = .returned (.tuple #[]) ∧ QS T w w' R ao cap p d e' b' ∧ e' ≠ 0 := by
  refine (fail_any W R p d e b n m _ h.rq hn).mono ?_
  rintro r w' ⟨e', b', rfl, hr, hf, he⟩
  exact ⟨e', b', rfl, h.keep hr hf (fun _ => he), he⟩

set_option maxHeartbeats 8000000 in
theorem must_any (w W : World) (R p : Nat) (d e b c : Int) (ao : Option Addr) (cap : Nat) (T : List Nat) (h : QS T w W R ao cap p d e b) :
    Calls Tryz.prog 82 #[.pointer (some ⟨R, 0, none⟩), .int .i64 c] W fun r w' => r = .returned (.tuple #[]) ∧ QM T w R ao cap p e w' := by
  have HL := hide h.tx.len
  have HP := hide (peek_q w W R p d e b ao cap T h)
  clear h
  go_enter Tryz.func82, Tryz.ntmps82
  go_wp2_with fail
  refine HP.out.mono ?_
  rintro r w1 ⟨x, e1, b1, rfl, hq1, hx1, hx2, hx⟩
  clear HP
  have HQ := hide hq1
  have HX := hide hx
  have c3 : w1.cell? ⟨R, 3, none⟩ = some (.int .i64 e1) := hq1.rq.cell 3
  have c1 : w1.cell? ⟨R, 1, none⟩ = some (.int .i64 (p : Int)) := hq1.rq.cell 1
  have f1 : w1.frozen? ⟨R, 1, none⟩ = false := hq1.rq.frozen 1
  have lR : R < w1.heap.size := hq1.rq.lt
  clear hq1 hx
  by_cases he : e1 = 0
  · subst he
    have h0 : e = 0 ∧ p < T.length := by
      rcases HX.out with h | h
      · exact absurd rfl h.2
      · exact ⟨h.2.1, h.2.2.1⟩
    have H0 := hide h0
    have g0 : (p : Int) ≤ 1000000 := by have := HL.out; omega
    clear h0
    obtain ⟨p1, hp1⟩ : ∃ p1, p + 1 = p1 := ⟨_, rfl⟩
    have e2 : (p : Int) + 1 = (p1 : Int) := by omega
    have HP1 := hide hp1
    clear hp1
    by_cases hc : x = c
    · subst hc
      have d1 : (x != x) = false := by simp
      have HE := hide (HQ.out.step (q := p1) (by have := HP1.out; omega) (by have := HP1.out; have := H0.out; omega))
      go_wp2
      go_end0
      exact ⟨rfl, p1, _, _, _, by have := HP1.out; omega, HE.out, fun h => absurd H0.out.1 h⟩
    · have d1 : (x != c) = true := by simpa using hc
      go_wp2_with fail
      refine (fail_q w w1 R p d 0 b1 6 (p : Int) ao cap T HQ.out (by omega)).mono ?_
      rintro r w2 ⟨e2, b2, rfl, hq2, he2⟩
      have HQ2 := hide hq2
      have HE2 := hide he2
      have c3 : w2.cell? ⟨R, 3, none⟩ = some (.int .i64 e2) := hq2.rq.cell 3
      have lR : R < w2.heap.size := hq2.rq.lt
      have d2 : (e2 == 0) = false := by simpa using he2
      clear hq2 he2
      go_wp2
      go_end0
      exact ⟨rfl, p, _, _, _, Nat.le_refl _, HQ2.out, fun _ => HE2.out⟩
  · have d1 : (e1 == 0) = false := by simpa using he
    have HE := hide he
    clear he
    go_wp2
    go_end0
    exact ⟨rfl, p, _, _, _, Nat.le_refl _, HQ.out, fun _ => HE.out⟩

end Go.Proofs.YtbdpmpepmjpadaaGreatDoor

namespace Go.Proofs.YtbdpmpepmjpadaaGreatDoor
set_option linter.unusedVariables false
set_option linter.unusedSimpArgs false
set_option maxRecDepth 100000
open Go Go.RowKit Go.Shelf Go.Lib

theorem blank_q (w W : World) (R p : Nat) (d e b : Int) (ao : Option Addr) (cap : Nat) (T : List Nat) (h : QS T w W R ao cap p d e b) :
    Calls Tryz.prog 32 #[.pointer (some ⟨R, 0, none⟩)] W fun r w' => r = .returned (.tuple #[]) ∧ ∃ q, p ≤ q ∧ QS T w w' R ao cap q d e b := by
  refine (blank_any W R p d e b ao cap T ⟨h.rq, h.tx, Fr.refl _ _ _, h.le, h.db⟩).mono ?_
  rintro r w' ⟨rfl, q, hq, hs⟩
  exact ⟨rfl, q, hq, ⟨hs.rq, hs.tx, h.fr.trans hs.fr (.inl rfl), hs.le, hs.db⟩⟩

set_option maxHeartbeats 8000000 in
theorem digits_any (w W : World) (R p : Nat) (d e b : Int) (ao : Option Addr) (cap : Nat) (T : List Nat) (h : QS T w W R ao cap p d e b) :
    Calls Tryz.prog 85 #[.pointer (some ⟨R, 0, none⟩)] W fun r w' => r = .returned (.tuple #[]) ∧ QM T w R ao cap p e w' := by
  have HL := hide h.tx.len
  have HQ0 := hide h
  clear h
  go_enter Tryz.func85, Tryz.ntmps85
  go_wp2_with fail
  refine (peek_q w W R p d e b ao cap T HQ0.out).mono ?_
  rintro r W1 ⟨x1, e1, b1, rfl, hq, h1_1, h2_1, hx⟩
  have HQ1 := hide hq
  have HX1 := hide hx
  clear hq hx
  have c1_1 : W1.cell? ⟨R, 1, none⟩ = some (.int .i64 (p : Int)) := HQ1.out.rq.cell 1
  have c3_1 : W1.cell? ⟨R, 3, none⟩ = some (.int .i64 e1) := HQ1.out.rq.cell 3
  have lR_1 : R < W1.heap.size := HQ1.out.rq.lt
  by_cases he : e1 = 0
  · subst he
    have E0 : Hid (e = 0) := by
      rcases HX1.out with h | h
      · exact absurd rfl h.2
      · exact hide h.2.1
    by_cases hd : 48 ≤ x1 ∧ x1 ≤ 57
    · have d1 : ¬ x1 < 48 := by omega
      have d2 : ¬ x1 > 57 := by omega
      clear hd HX1
      go_wp2_with fail
      refine (see_q w W1 R p d 0 b1 ao cap T HQ1.out).mono ?_
      rintro r W2 ⟨x2, rfl, hq, hx, h1_2, h2_2⟩
      have HQ2 := hide hq
      have HX2 := hide hx
      clear hq hx
      have HI : Hid (∃ (q : Nat) (x : Int), p ≤ q ∧ Value.int .i64 x2 = .int .i64 x ∧ SeeV T q 0 x ∧ -1 ≤ x ∧ x ≤ 255 ∧ QS T w W2 R ao cap q d 0 b1) := ⟨p, x2, Nat.le_refl _, rfl, HX2.out, h1_2, h2_2, HQ2.out⟩
      clear HQ2 HX2 h1_2 h2_2
      go_wp2
      go_loopw [2] (fun cv wr => ∃ (q : Nat) (x : Int), p ≤ q ∧ cv = .int .i64 x ∧ SeeV T q 0 x ∧ -1 ≤ x ∧ x ≤ 255 ∧ QS T w wr R ao cap q d 0 b1) (fun _ wr => T.length - rdAt wr R)
      case atStart => exact HI.out
      case round =>
        obtain ⟨q, x, hpq, rfl, hx, hx1, hx2, hs⟩ := hrel
        have HS := hide hs
        have HPQ := hide hpq
        have HAT := hide hs.rq.at
        have HX := hide hx
        clear HI hs hpq hx
        by_cases hbl : 48 ≤ x ∧ x ≤ 57
        · have hq : 0 = (0 : Int) ∧ q < T.length := by
            rcases HX.out with h | h
            · have := h.1; omega
            · exact ⟨h.1, h.2.1⟩
          have LT := hide hq.2
          clear hq
          obtain ⟨hb1, hb2⟩ := hbl
          have c1_2 : wr.cell? ⟨R, 1, none⟩ = some (.int .i64 (q : Int)) := HS.out.rq.cell 1
          have f1_2 : wr.frozen? ⟨R, 1, none⟩ = false := HS.out.rq.frozen 1
          have lR_2 : R < wr.heap.size := HS.out.rq.lt
          obtain ⟨q3, hq3⟩ : ∃ qz, q + 1 = qz := ⟨_, rfl⟩
          have e1_3 : (q : Int) + 1 = (q3 : Int) := by omega
          have g3 : (q : Int) ≤ 1000000 := by have := HL.out; have := HS.out.le; omega
          have HP3 := hide hq3
          clear hq3
          have HQ3 := hide (HS.out.step (q := q3) (by have := HP3.out; omega) (by have := HP3.out; have := LT.out; omega))
          clear HX
          go_wp2_with fail
          refine (see_q w (wr.setCell ⟨R, 1, none⟩ (.int .i64 (q3 : Int))) R q3 d 0 b1 ao cap T HQ3.out).mono ?_
          rintro r W4 ⟨x4, rfl, hq, hx, h1_4, h2_4⟩
          have HQ4 := hide hq
          have HX4 := hide hx
          clear hq hx
          have HREL : Hid (∃ (q : Nat) (x : Int), p ≤ q ∧ Value.int .i64 x4 = .int .i64 x ∧ SeeV T q 0 x ∧ -1 ≤ x ∧ x ≤ 255 ∧ QS T w W4 R ao cap q d 0 b1) := ⟨q3, x4, by have := HPQ.out; have := HP3.out; omega, rfl, HX4.out, h1_4, h2_4, HQ4.out⟩
          have HM : Hid (rdAt W4 R = q3) := HQ4.out.rq.at
          clear HQ4 HX4 h1_4 h2_4
          go_wp2
          go_roundw
          case rel => exact HREL.out
          case measure => rw [HM.out, HAT.out]; have := HP3.out; have := LT.out; omega
        · by_cases hx3 : 48 ≤ x
          · have hx4 : ¬ x ≤ 57 := by omega
            clear hbl
            go_wp2
            go_end0
            exact ⟨rfl, q, _, _, _, HPQ.out, HS.out, fun h => absurd E0.out h⟩
          · skip
            clear hbl
            go_wp2
            go_end0
            exact ⟨rfl, q, _, _, _, HPQ.out, HS.out, fun h => absurd E0.out h⟩
    · by_cases d1 : x1 < 48
      · skip
        clear hd HX1
        go_wp2_with fail
        refine (fail_q w W1 R p d 0 b1 6 (p : Int) ao cap T HQ1.out (by omega)).mono ?_
        rintro r W2 ⟨e2, b2, rfl, hq, he⟩
        have HQ2 := hide hq
        have HE2 := hide he
        have dn2 : (e2 == 0) = false := by simpa using he
        have dm2 : (e2 != 0) = true := by simpa using he
        clear hq he
        go_wp2_with fail
        refine (see_q w W2 R p d e2 b2 ao cap T HQ2.out).mono ?_
        rintro r W3 ⟨x3, rfl, hq, hx, h1_3, h2_3⟩
        have HQ3 := hide hq
        have HX3 := hide hx
        clear hq hx
        have HI : Hid (∃ (q : Nat) (x : Int), p ≤ q ∧ Value.int .i64 x3 = .int .i64 x ∧ SeeV T q e2 x ∧ -1 ≤ x ∧ x ≤ 255 ∧ QS T w W3 R ao cap q d e2 b2) := ⟨p, x3, Nat.le_refl _, rfl, HX3.out, h1_3, h2_3, HQ3.out⟩
        clear HQ3 HX3 h1_3 h2_3
        go_wp2
        go_loopw [2] (fun cv wr => ∃ (q : Nat) (x : Int), p ≤ q ∧ cv = .int .i64 x ∧ SeeV T q e2 x ∧ -1 ≤ x ∧ x ≤ 255 ∧ QS T w wr R ao cap q d e2 b2) (fun _ wr => T.length - rdAt wr R)
        case atStart => exact HI.out
        case round =>
          obtain ⟨q, x, hpq, rfl, hx, hx1, hx2, hs⟩ := hrel
          have HS := hide hs
          have HPQ := hide hpq
          have HAT := hide hs.rq.at
          have HX := hide hx
          clear HI hs hpq hx
          by_cases hbl : 48 ≤ x ∧ x ≤ 57
          · have hq : e2 = (0 : Int) ∧ q < T.length := by
              rcases HX.out with h | h
              · have := h.1; omega
              · exact ⟨h.1, h.2.1⟩
            have LT := hide hq.2
            clear hq
            obtain ⟨hb1, hb2⟩ := hbl
            have c1_3 : wr.cell? ⟨R, 1, none⟩ = some (.int .i64 (q : Int)) := HS.out.rq.cell 1
            have f1_3 : wr.frozen? ⟨R, 1, none⟩ = false := HS.out.rq.frozen 1
            have lR_3 : R < wr.heap.size := HS.out.rq.lt
            obtain ⟨q4, hq4⟩ : ∃ qz, q + 1 = qz := ⟨_, rfl⟩
            have e1_4 : (q : Int) + 1 = (q4 : Int) := by omega
            have g4 : (q : Int) ≤ 1000000 := by have := HL.out; have := HS.out.le; omega
            have HP4 := hide hq4
            clear hq4
            have HQ4 := hide (HS.out.step (q := q4) (by have := HP4.out; omega) (by have := HP4.out; have := LT.out; omega))
            clear HX
            go_wp2_with fail
            refine (see_q w (wr.setCell ⟨R, 1, none⟩ (.int .i64 (q4 : Int))) R q4 d e2 b2 ao cap T HQ4.out).mono ?_
            rintro r W5 ⟨x5, rfl, hq, hx, h1_5, h2_5⟩
            have HQ5 := hide hq
            have HX5 := hide hx
            clear hq hx
            have HREL : Hid (∃ (q : Nat) (x : Int), p ≤ q ∧ Value.int .i64 x5 = .int .i64 x ∧ SeeV T q e2 x ∧ -1 ≤ x ∧ x ≤ 255 ∧ QS T w W5 R ao cap q d e2 b2) := ⟨q4, x5, by have := HPQ.out; have := HP4.out; omega, rfl, HX5.out, h1_5, h2_5, HQ5.out⟩
            have HM : Hid (rdAt W5 R = q4) := HQ5.out.rq.at
            clear HQ5 HX5 h1_5 h2_5
            go_wp2
            go_roundw
            case rel => exact HREL.out
            case measure => rw [HM.out, HAT.out]; have := HP4.out; have := LT.out; omega
          · by_cases hx3 : 48 ≤ x
            · have hx4 : ¬ x ≤ 57 := by omega
              clear hbl
              go_wp2
              go_end0
              exact ⟨rfl, q, _, _, _, HPQ.out, HS.out, fun h => HE2.out⟩
            · skip
              clear hbl
              go_wp2
              go_end0
              exact ⟨rfl, q, _, _, _, HPQ.out, HS.out, fun h => HE2.out⟩
      · have d2 : x1 > 57 := by omega
        clear hd HX1
        go_wp2_with fail
        refine (fail_q w W1 R p d 0 b1 6 (p : Int) ao cap T HQ1.out (by omega)).mono ?_
        rintro r W2 ⟨e2, b2, rfl, hq, he⟩
        have HQ2 := hide hq
        have HE2 := hide he
        have dn2 : (e2 == 0) = false := by simpa using he
        have dm2 : (e2 != 0) = true := by simpa using he
        clear hq he
        go_wp2_with fail
        refine (see_q w W2 R p d e2 b2 ao cap T HQ2.out).mono ?_
        rintro r W3 ⟨x3, rfl, hq, hx, h1_3, h2_3⟩
        have HQ3 := hide hq
        have HX3 := hide hx
        clear hq hx
        have HI : Hid (∃ (q : Nat) (x : Int), p ≤ q ∧ Value.int .i64 x3 = .int .i64 x ∧ SeeV T q e2 x ∧ -1 ≤ x ∧ x ≤ 255 ∧ QS T w W3 R ao cap q d e2 b2) := ⟨p, x3, Nat.le_refl _, rfl, HX3.out, h1_3, h2_3, HQ3.out⟩
        clear HQ3 HX3 h1_3 h2_3
        go_wp2
        go_loopw [2] (fun cv wr => ∃ (q : Nat) (x : Int), p ≤ q ∧ cv = .int .i64 x ∧ SeeV T q e2 x ∧ -1 ≤ x ∧ x ≤ 255 ∧ QS T w wr R ao cap q d e2 b2) (fun _ wr => T.length - rdAt wr R)
        case atStart => exact HI.out
        case round =>
          obtain ⟨q, x, hpq, rfl, hx, hx1, hx2, hs⟩ := hrel
          have HS := hide hs
          have HPQ := hide hpq
          have HAT := hide hs.rq.at
          have HX := hide hx
          clear HI hs hpq hx
          by_cases hbl : 48 ≤ x ∧ x ≤ 57
          · have hq : e2 = (0 : Int) ∧ q < T.length := by
              rcases HX.out with h | h
              · have := h.1; omega
              · exact ⟨h.1, h.2.1⟩
            have LT := hide hq.2
            clear hq
            obtain ⟨hb1, hb2⟩ := hbl
            have c1_3 : wr.cell? ⟨R, 1, none⟩ = some (.int .i64 (q : Int)) := HS.out.rq.cell 1
            have f1_3 : wr.frozen? ⟨R, 1, none⟩ = false := HS.out.rq.frozen 1
            have lR_3 : R < wr.heap.size := HS.out.rq.lt
            obtain ⟨q4, hq4⟩ : ∃ qz, q + 1 = qz := ⟨_, rfl⟩
            have e1_4 : (q : Int) + 1 = (q4 : Int) := by omega
            have g4 : (q : Int) ≤ 1000000 := by have := HL.out; have := HS.out.le; omega
            have HP4 := hide hq4
            clear hq4
            have HQ4 := hide (HS.out.step (q := q4) (by have := HP4.out; omega) (by have := HP4.out; have := LT.out; omega))
            clear HX
            go_wp2_with fail
            refine (see_q w (wr.setCell ⟨R, 1, none⟩ (.int .i64 (q4 : Int))) R q4 d e2 b2 ao cap T HQ4.out).mono ?_
            rintro r W5 ⟨x5, rfl, hq, hx, h1_5, h2_5⟩
            have HQ5 := hide hq
            have HX5 := hide hx
            clear hq hx
            have HREL : Hid (∃ (q : Nat) (x : Int), p ≤ q ∧ Value.int .i64 x5 = .int .i64 x ∧ SeeV T q e2 x ∧ -1 ≤ x ∧ x ≤ 255 ∧ QS T w W5 R ao cap q d e2 b2) := ⟨q4, x5, by have := HPQ.out; have := HP4.out; omega, rfl, HX5.out, h1_5, h2_5, HQ5.out⟩
            have HM : Hid (rdAt W5 R = q4) := HQ5.out.rq.at
            clear HQ5 HX5 h1_5 h2_5
            go_wp2
            go_roundw
            case rel => exact HREL.out
            case measure => rw [HM.out, HAT.out]; have := HP4.out; have := LT.out; omega
          · by_cases hx3 : 48 ≤ x
            · have hx4 : ¬ x ≤ 57 := by omega
              clear hbl
              go_wp2
              go_end0
              exact ⟨rfl, q, _, _, _, HPQ.out, HS.out, fun h => HE2.out⟩
            · skip
              clear hbl
              go_wp2
              go_end0
              exact ⟨rfl, q, _, _, _, HPQ.out, HS.out, fun h => HE2.out⟩
  · have d1 : (e1 == 0) = false := by simpa using he
    have HE := hide he
    clear he HX1
    go_wp2_with fail
    refine (see_q w W1 R p d e1 b1 ao cap T HQ1.out).mono ?_
    rintro r W2 ⟨x2, rfl, hq, hx, h1_2, h2_2⟩
    have HQ2 := hide hq
    have HX2 := hide hx
    clear hq hx
    have HI : Hid (∃ (q : Nat) (x : Int), p ≤ q ∧ Value.int .i64 x2 = .int .i64 x ∧ SeeV T q e1 x ∧ -1 ≤ x ∧ x ≤ 255 ∧ QS T w W2 R ao cap q d e1 b1) := ⟨p, x2, Nat.le_refl _, rfl, HX2.out, h1_2, h2_2, HQ2.out⟩
    clear HQ2 HX2 h1_2 h2_2
    go_wp2
    go_loopw [2] (fun cv wr => ∃ (q : Nat) (x : Int), p ≤ q ∧ cv = .int .i64 x ∧ SeeV T q e1 x ∧ -1 ≤ x ∧ x ≤ 255 ∧ QS T w wr R ao cap q d e1 b1) (fun _ wr => T.length - rdAt wr R)
    case atStart => exact HI.out
    case round =>
      obtain ⟨q, x, hpq, rfl, hx, hx1, hx2, hs⟩ := hrel
      have HS := hide hs
      have HPQ := hide hpq
      have HAT := hide hs.rq.at
      have HX := hide hx
      clear HI hs hpq hx
      by_cases hbl : 48 ≤ x ∧ x ≤ 57
      · have hq : e1 = (0 : Int) ∧ q < T.length := by
          rcases HX.out with h | h
          · have := h.1; omega
          · exact ⟨h.1, h.2.1⟩
        have LT := hide hq.2
        clear hq
        obtain ⟨hb1, hb2⟩ := hbl
        have c1_2 : wr.cell? ⟨R, 1, none⟩ = some (.int .i64 (q : Int)) := HS.out.rq.cell 1
        have f1_2 : wr.frozen? ⟨R, 1, none⟩ = false := HS.out.rq.frozen 1
        have lR_2 : R < wr.heap.size := HS.out.rq.lt
        obtain ⟨q3, hq3⟩ : ∃ qz, q + 1 = qz := ⟨_, rfl⟩
        have e1_3 : (q : Int) + 1 = (q3 : Int) := by omega
        have g3 : (q : Int) ≤ 1000000 := by have := HL.out; have := HS.out.le; omega
        have HP3 := hide hq3
        clear hq3
        have HQ3 := hide (HS.out.step (q := q3) (by have := HP3.out; omega) (by have := HP3.out; have := LT.out; omega))
        clear HX
        go_wp2_with fail
        refine (see_q w (wr.setCell ⟨R, 1, none⟩ (.int .i64 (q3 : Int))) R q3 d e1 b1 ao cap T HQ3.out).mono ?_
        rintro r W4 ⟨x4, rfl, hq, hx, h1_4, h2_4⟩
        have HQ4 := hide hq
        have HX4 := hide hx
        clear hq hx
        have HREL : Hid (∃ (q : Nat) (x : Int), p ≤ q ∧ Value.int .i64 x4 = .int .i64 x ∧ SeeV T q e1 x ∧ -1 ≤ x ∧ x ≤ 255 ∧ QS T w W4 R ao cap q d e1 b1) := ⟨q3, x4, by have := HPQ.out; have := HP3.out; omega, rfl, HX4.out, h1_4, h2_4, HQ4.out⟩
        have HM : Hid (rdAt W4 R = q3) := HQ4.out.rq.at
        clear HQ4 HX4 h1_4 h2_4
        go_wp2
        go_roundw
        case rel => exact HREL.out
        case measure => rw [HM.out, HAT.out]; have := HP3.out; have := LT.out; omega
      · by_cases hx3 : 48 ≤ x
        · have hx4 : ¬ x ≤ 57 := by omega
          clear hbl
          go_wp2
          go_end0
          exact ⟨rfl, q, _, _, _, HPQ.out, HS.out, fun h => HE.out⟩
        · skip
          clear hbl
          go_wp2
          go_end0
          exact ⟨rfl, q, _, _, _, HPQ.out, HS.out, fun h => HE.out⟩

end Go.Proofs.YtbdpmpepmjpadaaGreatDoor
