/- Frame: isLength: bytes.EqualFold with the one name. -/
import Derived.Test.YtnflbplhokodjaaDoorFMem
import Derived.Test.YtnflbplhokodjaaDoorFHead
import Derived.Test.YtnflbplhokodjaaDoorURune
import Derived.Lib.TrimU
import Derived.Lib.QuoteLoop
import Derived.Lib.SlBytesConst
import Derived.ScopeJumps
import Derived.WalkMore
import Derived.Shelf.Strings.Fold
namespace Go.Proofs.YtnflbplhokodjaaDoor
set_option linter.unusedVariables false
set_option linter.unusedSimpArgs false
set_option maxRecDepth 100000
open Go Go.RowKit Go.Shelf Go.Lib

theorem dec_high {T : List Nat} (hT : ∀ x ∈ T, x < 256) (h0 : 0 < T.length) (h : 128 ≤ nth T 0) : 128 ≤ (decL T).1 ∧ (decL T).1 ≤ 1114111 ∧ 1 ≤ (decL T).2 ∧ (decL T).2 ≤ T.length := by
  unfold decL
  rw [if_neg (by omega)]
  refine ⟨?_, decodeN_rune_le _ _ _ _ _ (nth_lt hT 0), decodeN_ge1 _ _ _ _ _, decodeN_width_le _ _ _ _ _ (by omega)⟩
  generalize nth T 0 = b0 at *
  generalize nth T 1 = b1
  generalize nth T 2 = b2
  generalize nth T 3 = b3
  generalize T.length = n
  unfold decodeN
  rw [if_neg (by omega)]
  repeat' split
  all_goals (first | omega | (simp only []; omega))

/-- Small letters of great ones and the other way, of 128 letters (k and s go elsewhere). -/
def foldL : List Nat := [0, 1, 2, 3, 4, 5, 6, 7, 8, 9, 10, 11, 12, 13, 14, 15, 16, 17, 18, 19, 20, 21, 22, 23, 24, 25, 26, 27, 28, 29, 30, 31, 32, 33, 34, 35, 36, 37, 38, 39, 40, 41, 42, 43, 44, 45, 46, 47, 48, 49, 50, 51, 52, 53, 54, 55, 56, 57, 58, 59, 60, 61, 62, 63, 64, 97, 98, 99, 100, 101, 102, 103, 104, 105, 106, 107, 108, 109, 110, 111, 112, 113, 114, 115, 116, 117, 118, 119, 120, 121, 122, 91, 92, 93, 94, 95, 96, 65, 66, 67, 68, 69, 70, 71, 72, 73, 74, 8490, 76, 77, 78, 79, 80, 81, 82, 383, 84, 85, 86, 87, 88, 89, 90, 123, 124, 125, 126, 127]
/-- What the tables hold. -/
def Folds (w : World) : Prop := ∀ c, c < 128 → w.cell? ⟨4, c, none⟩ = some (.int .u16 ((nth foldL c : Nat) : Int))
def Know (w : World) : Prop := Utf8Tabs 7 8 w ∧ Folds w ∧ ∃ m : Int, w.cell? ⟨1, 0, none⟩ = some (.int .i64 m)
theorem tabs_keep {w w' : World} (h : Utf8Tabs 7 8 w) (hc : ∀ p v, w.cell? p = some v → (p.block = 7 ∨ p.block = 8) → w'.cell? p = some v) : Utf8Tabs 7 8 w' :=
  ⟨fun c h1 => hc _ _ (h.1 c h1) (.inl rfl), fun i hi => ⟨hc _ _ (h.2 i hi).1 (.inr rfl), hc _ _ (h.2 i hi).2 (.inr rfl)⟩⟩
theorem Know.keep {w w' : World} (h : Know w) (hc : ∀ p v, w.cell? p = some v → p.block < 16 → w'.cell? p = some v) : Know w' :=
  ⟨tabs_keep h.1 fun p v hp hq => hc p v hp (by rcases hq with q | q <;> rw [q] <;> decide), fun c h1 => hc _ _ (h.2.1 c h1) (by show (4 : Nat) < 16; decide), by obtain ⟨m, hm⟩ := h.2.2; exact ⟨m, hc _ _ hm (by show (1 : Nat) < 16; decide)⟩⟩
theorem Know.below {w w' : World} (h : Know w) (hb : Below w.heap.size w w') : Know w' := h.keep fun p v hp _ => (hb.cell (p := p) (block_lt_of_cell hp)).trans hp
theorem Know.lt {w : World} (h : Know w) : 7 < w.heap.size ∧ 4 < w.heap.size ∧ 1 < w.heap.size ∧ 8 < w.heap.size := by
  obtain ⟨m, hm⟩ := h.2.2
  exact ⟨block_lt (h.1.1 0 (by decide)), block_lt (h.2.1 0 (by decide)), block_lt hm, block_lt (h.1.2 0 (by decide)).1⟩

set_option maxHeartbeats 2000000 in
theorem fold_calls (w : World) (y : Nat) (hy : y < 128) (hz : nth foldL y < 65536) (h : Folds w) :
    Calls Tryd.prog 56 #[.int .i32 (y : Int)] w fun e w' => e = .returned (.int .i32 ((nth foldL y : Nat) : Int)) ∧ w' = w := by
  have hcell := h y hy
  clear h
  generalize nth foldL y = z at *
  have d1 : ¬ (y : Int) < 0 := by omega
  have d2 : ¬ (1114111 : Int) < (y : Int) := by omega
  have d3 : IntKind.i64.wrap (y : Int) = (y : Int) := by rw [IntKind.wrap_i64]; omega
  have d4 : (y : Int) < 128 := by omega
  have d5 : (0 : Int) ≤ (y : Int) := by omega
  have d6 : IntKind.i32.wrap (z : Int) = (z : Int) := by rw [IntKind.wrap_i32]; omega
  go_enter Tryd.func56, Tryd.ntmps56
  go_wp2
  go_ret
  exact ⟨rfl, rfl⟩

theorem cap_all : ∀ i : Fin 14, nth capName i.val < 128 ∧ nth foldL (nth capName i.val) < 128 ∧ nth foldL (nth foldL (nth capName i.val)) = nth capName i.val := by decide
theorem lenName_eq : lenName = capName.map lowL := by decide
theorem low_same {x y : Nat} (hx : x < 128) (hy : y < 128) : lowL x = lowL y ↔ (y = x ∨ (y < x ∧ 65 ≤ y ∧ y ≤ 90 ∧ x = y + 32) ∨ (x < y ∧ 65 ≤ x ∧ x ≤ 90 ∧ y = x + 32)) := by
  unfold lowL
  split <;> split <;> omega
theorem low_high {x y : Nat} (hx : 128 ≤ x) (hy : y < 128) : lowL x ≠ lowL y := by
  unfold lowL
  split <;> split <;> omega
theorem isLen_all {T : List Nat} (hl : T.length = 14) (h : ∀ j, j < 14 → lowL (nth T j) = lowL (nth capName j)) : isLenL T = true := by
  unfold isLenL
  rw [lenName_eq, beq_iff_eq]
  refine List.ext_getElem? fun j => ?_
  rw [List.getElem?_map, List.getElem?_map]
  by_cases hj : j < 14
  · have h1 : T[j]? = some (nth T j) := by simp [nth, show j < T.length by omega]
    have h2 : capName[j]? = some (nth capName j) := by simp [nth, show j < capName.length from hj]
    rw [h1, h2]
    simp [h j hj]
  · rw [List.getElem?_eq_none (by omega), List.getElem?_eq_none (by show 14 ≤ j; omega)]
theorem isLen_size {T : List Nat} (hl : T.length ≠ 14) : isLenL T = false := by
  unfold isLenL
  rw [beq_eq_false_iff_ne]
  intro e
  have := congrArg List.length e
  rw [List.length_map] at this
  exact hl this
theorem isLen_not {T : List Nat} {j : Nat} (hj : j < 14) (hl : j < T.length) (h : lowL (nth T j) ≠ lowL (nth capName j)) : isLenL T = false := by
  unfold isLenL
  rw [beq_eq_false_iff_ne]
  intro e
  apply h
  have := congrArg (·[j]?) e
  simp only [lenName_eq, List.getElem?_map] at this
  have h1 : T[j]? = some (nth T j) := by simp [nth, hl]
  have h2 : capName[j]? = some (nth capName j) := by simp [nth, show j < capName.length from hj]
  rw [h1, h2] at this
  simpa using this

/-- The name is in memory. -/
def NameAt (w : World) (tb : Nat) : Prop := ∀ j, j < 14 → w.cell? ⟨tb, j, none⟩ = some (.int .u8 ((nth capName j : Nat) : Int))

/-- The frame at the jump. -/
def mkF (s : Value) (tb i : Nat) (u : Nat → Value) : Act := { tmps := #[s, .slice (some ⟨tb, 0, none⟩) 14 14, u 2, u 3, u 4, .int .i64 (i : Int), u 6, u 7, u 8, u 9, u 10, u 11, u 12, u 13, u 14, u 15, u 16, u 17, u 18, u 19, u 20, u 21, u 22, u 23, u 24, u 25, u 26, u 27, u 28, u 29, u 30, u 31, u 32, u 33, u 34, u 35, u 36, u 37, u 38, u 39, u 40, u 41, u 42, u 43, u 44, u 45, u 46, u 47, u 48, u 49, u 50, u 51, u 52, u 53, u 54, u 55, u 56, u 57, u 58, u 59, u 60, u 61, u 62, u 63, u 64, u 65, u 66, u 67, u 68, u 69, u 70, u 71, u 72, u 73, u 74, u 75, u 76, u 77, u 78, u 79, u 80, u 81, u 82, u 83, u 84, u 85, u 86, u 87, u 88, u 89, u 90, u 91, u 92, u 93, u 94, u 95, u 96, u 97, u 98, u 99, u 100, u 101, u 102, u 103, u 104, u 105, u 106, u 107, u 108, u 109, u 110, u 111, u 112, u 113, u 114, u 115, u 116, u 117, u 118, u 119, u 120, u 121, u 122, u 123, u 124, u 125, u 126, u 127, u 128, u 129, u 130, u 131, u 132, u 133], defers := [] }
def JumpF (w : World) (s : Value) (tb m : Nat) (T : List Nat) (a' : Act) (w' : World) : Prop := w' = w ∧ ∃ (i : Nat) (u : Nat → Value), i < m ∧ 128 ≤ nth T i ∧ a' = mkF s tb i u
theorem jumpF {w : World} {s : Value} {tb m i : Nat} {T : List Nat} {a : Act} (h1 : i < m) (h2 : 128 ≤ nth T i) (h : a = mkF s tb i (fun k => a.tmps.getD k undef)) : JumpF w s tb m T a w := ⟨rfl, i, _, h1, h2, h⟩

set_option maxHeartbeats 8000000 in
theorem equalFold_calls (w : World) (ao : Option Addr) (cap tb : Nat) (T : List Nat) (h : Byts w (.slice ao T.length cap) T) (hcap : T.length ≤ cap) (hlen : T.length ≤ 1000000000) (hK : Know w) (hN : NameAt w tb) :
    Calls Tryd.prog 47 #[.slice ao T.length cap, .slice (some ⟨tb, 0, none⟩) 14 14] w fun e w' => e = .returned (.bool (isLenL T)) ∧ Below w.heap.size w w' := by
  have H := hide h
  have HK := hide hK
  have HN := hide hN
  clear hK hN h
  obtain ⟨m, hm⟩ : ∃ m : Nat, min (T.length : Int) 14 = (m : Int) := ⟨min T.length 14, by omega⟩
  have hm14 : m ≤ 14 ∧ m ≤ T.length ∧ (m = 14 ∨ m = T.length) := by omega
  have HM := hide hm
  go_enter Tryd.func47, Tryd.ntmps47
  go_wp2
  refine wp_scope_jumps 0 (JumpF w (.slice ao T.length cap) tb m T) (fun _ _ => 0) rfl ?_ ?_
  · go_wp2
    try rw [HM.out]
    clear hm HM
    go_loopw [5] (fun iv wr => ∃ i : Nat, i ≤ m ∧ iv = .int .i64 (i : Int) ∧ (∀ j, j < i → lowL (nth T j) = lowL (nth capName j)) ∧ wr = w) (fun iv _ => m - (RowKit.intOf iv).toNat)
    case atStart => exact ⟨0, Nat.zero_le _, rfl, fun j hj => by omega, rfl⟩
    case round =>
      obtain ⟨i, hi, rfl, hpre, hwr⟩ := hrel
      rw [hwr]
      clear hwr
      have HP := hide hpre
      clear hpre
      by_cases hlt : i < m
      · have d1 : (i : Int) < (m : Int) := by omega
        have d0 : (0 : Int) ≤ (i : Int) := by omega
        have d14 : (i : Int) < 14 := by omega
        have dT : (i : Int) < (T.length : Int) := by omega
        have hT := H.out
        obtain ⟨ao', c', e', hb, hc⟩ := hT
        cases e'
        obtain ⟨b, off, rfl, hcell⟩ := hc i (by omega)
        have hx := nth_lt hb i
        have hcy := HN.out i (by omega)
        obtain ⟨hy, hz1, hz2⟩ := cap_all ⟨i, by omega⟩
        dsimp only at hy hz1 hz2
        have HX : Hid (lowL (nth T i) = lowL (nth capName i) → ∀ j, j < i + 1 → lowL (nth T j) = lowL (nth capName j)) := fun q j hj => by
          rcases Nat.lt_succ_iff_lt_or_eq.1 hj with h | h
          · exact HP.out j h
          · rw [h]; exact q
        have HNO : Hid (lowL (nth T i) ≠ lowL (nth capName i) → isLenL T = false) := fun q => isLen_not (by omega) (by omega) q
        have HJ : Hid (128 ≤ nth T i → ∀ a : Act, a = mkF (.slice (some ⟨b, off, none⟩) T.length cap) tb i (fun k => a.tmps.getD k undef) → JumpF w (.slice (some ⟨b, off, none⟩) T.length cap) tb m T a w) := fun q a h => jumpF hlt q h
        clear hc
        generalize hgx : nth T i = x at *
        generalize hgy : nth capName i = y at *
        clear hgx hgy hz1 hz2
        have hor : bits .or .u8 (x : Int) (y : Int) = ((x ||| y : Nat) : Int) := u8_or_nat _ _ (by omega) (by omega)
        by_cases hx8 : x < 128
        · have LS := hide (low_same hx8 hy)
          have hor128 : ¬ ((128 : Int) ≤ ((x ||| y : Nat) : Int)) := by have := Nat.or_lt_two_pow (n := 7) hx8 hy; omega
          clear HJ
          go_wp2
          all_goals (try simp only [beq_iff_eq, beq_eq_false_iff_ne, ne_eq] at *)
          all_goals first
            | (go_roundw
               case measure => simp [RowKit.intOf]; omega
               case rel => exact ⟨i + 1, by omega, by first | rfl | simp, HX.out (LS.out.2 (by omega)), by first | rfl | trivial⟩)
            | (simp only [Exit.jump]
               go_ret
               refine ⟨?_, Below.refl _ _⟩
               rw [HNO.out (fun q => by have := LS.out.1 q; omega)]
               rfl)
        · have hor128 : ((128 : Int) ≤ ((x ||| y : Nat) : Int)) := by have := Nat.left_le_or (n := x) (m := y); omega
          have HJ' := hide (HJ.out (by omega))
          clear HJ HX HNO HP
          go_wp2
          go_step3
          exact ⟨rfl, HJ'.out _ rfl⟩
      · obtain rfl : i = m := by omega
        have d1 : ¬ (i : Int) < (i : Int) := by omega
        by_cases q14 : T.length = 14
        · have HE := hide (isLen_all q14 (fun j hj => HP.out j (by omega)))
          have e1 : ((T.length : Int) == 14) = true := beq_iff_eq.2 (by omega)
          clear HP hlt q14
          go_wp2
          simp only [Exit.jump]
          go_ret
          exact ⟨by rw [HE.out]; rfl, Below.refl _ _⟩
        · have HE := hide (isLen_size q14)
          have e1 : ((T.length : Int) == 14) = false := beq_eq_false_iff_ne.2 (by omega)
          clear HP hlt q14
          go_wp2
          simp only [Exit.jump]
          go_ret
          exact ⟨by rw [HE.out]; rfl, Below.refl _ _⟩
  · rintro a' w' ⟨hw, i, u, him, hx8, rfl⟩
    rw [hw]
    unfold mkF
    clear hw hm HM
    have hNB : Byts w (.slice (some ⟨tb, 0, none⟩) 14 14) capName := ⟨some ⟨tb, 0, none⟩, 14, rfl, by decide, fun j hj => ⟨tb, 0, rfl, by rw [Nat.zero_add]; exact HN.out j hj⟩⟩
    have hTB := H.out
    have HTall : Hid (∀ x ∈ T, x < 256) := by obtain ⟨_, _, _, hb, _⟩ := H.out; exact hb
    have HS1 := hide (hTB.rest (f := i) (by omega) hcap)
    have HS2 : Hid (Byts w (.slice (if 14 = i then some (⟨tb, 0, none⟩ : Addr) else (some (⟨tb, 0, none⟩ : Addr)).map (·.add i)) (14 - i) (14 - i)) (capName.drop i)) := Byts.rest (T := capName) (cap := 14) (f := i) (ao := some ⟨tb, 0, none⟩) hNB (by show i ≤ 14; omega) (by decide)
    have q1 := fun W : World => cut_rest W ao T.length cap i (by omega) hcap
    have q2 := fun W : World => cut_rest W (some ⟨tb, 0, none⟩) 14 14 i (by omega) (by omega)
    have HE := hide (isLen_not (T := T) (j := i) (by omega) (by omega) (low_high hx8 (cap_all ⟨i, by omega⟩).1))
    obtain ⟨hy, hz1, hz2⟩ := cap_all ⟨i, by omega⟩
    dsimp only at hy hz1 hz2
    have hd := dec_high (T := T.drop i) (fun x hx => HTall.out x (List.mem_of_mem_drop hx)) (by simp; omega) (by rw [nth_drop]; exact hx8)
    have hd2 : decL (capName.drop i) = (nth capName i, 1) := by
      have e0 : nth (capName.drop i) 0 = nth capName i := by rw [nth_drop]; rfl
      rw [decL_ascii (by simp [capName]; omega) (by rw [e0]; exact hy), e0]
    have hl1 : (T.drop i).length = T.length - i := by simp
    have hl2 : (capName.drop i).length = 14 - i := by rw [List.length_drop]; rfl
    rw [hl1] at hd
    generalize (if cap = i then ao else ao.map (·.add i)) = aS at *
    generalize (if 14 = i then some (⟨tb, 0, none⟩ : Addr) else (some (⟨tb, 0, none⟩ : Addr)).map (·.add i)) = aT at *
    have HD1 := hide (drune_calls w _ _ HS1.out HK.out.1)
    have HD2 := hide (fun (W : World) (hb : Below w.heap.size w W) => drune_calls W _ _ (HS2.out.below hb) (HK.out.below hb).1)
    rw [hd2] at HD2
    have dz1 : 0 < T.length - i := by omega
    have dz2 : 0 < 14 - i := by omega
    have dlim : T.length - i ≤ cap - i := by omega
    have dle : T.length - i ≤ 1000000000 := by omega
    generalize hr : (decL (T.drop i)).1 = r at *
    generalize hs : (decL (T.drop i)).2 = sz at *
    have HF := fun (W : World) (hb : Below w.heap.size w W) => fold_calls W (nth capName i) hy (by omega) (HK.out.below hb).2.1
    have HF2 := fun (W : World) (hb : Below w.heap.size w W) => fold_calls W (nth foldL (nth capName i)) hz1 (by rw [hz2]; omega) (HK.out.below hb).2.1
    rw [hz2] at HF2
    generalize nth capName i = y at *
    generalize nth foldL y = z at *
    have HFA := hide HF
    have HFB := hide HF2
    clear HF HF2 hNB hTB hl1 hl2 hd2 hx8 hz2
    clear hr hs
    obtain ⟨r1, r2, r3, r4⟩ := hd
    have q3 := fun W : World => cut_rest W aS (T.length - i) (cap - i) sz r4 dlim
    have q4 : ∀ W : World, (Instr.slice 25 (.slice aT (14 - i) (14 - i)) (some (.int .i64 1)) none none).run Tryd.prog W = .ok (.slice (if 14 - i = 1 then aT else aT.map (·.add 1)) (14 - i - 1) (14 - i - 1)) W := fun W => cut_rest W aT (14 - i) (14 - i) 1 (by omega) (by omega)
    generalize (if cap - i = sz then aS else aS.map (·.add sz)) = aS2 at *
    generalize (if 14 - i = 1 then aT else aT.map (·.add 1)) = aT2 at *
    generalize T.length - i = n1 at *
    generalize cap - i = c1 at *
    generalize 14 - i = k1 at *
    generalize k1 - 1 = k2 at *
    have ez : (0 : Int) < (k1 : Int) := by omega
    have en : (0 : Int) < (n1 : Int) := by omega
    have en1 : ((n1 : Int) != 0) = true := by simp; omega
    have ek1 : ((k1 : Int) != 0) = true := by simp; omega
    have ey : ((y : Int) == (r : Int)) = false := beq_eq_false_iff_ne.2 (by omega)
    have el : (y : Int) < (r : Int) := by omega
    have e128 : ¬ (r : Int) < 128 := by omega
    have ezr : (z : Int) < (r : Int) := by omega
    go_wp2
    try (go_step3; go_wp2)
    go_loopw [0, 1] (fun s0 s1 wr => s0 = .slice aS n1 c1 ∧ s1 = .slice aT k1 k1 ∧ wr = w) (fun _ _ _ => 0)
    case atStart => exact ⟨rfl, rfl, rfl⟩
    case round =>
      obtain ⟨rfl, rfl, hwr⟩ := hrel
      rw [hwr]
      clear hwr
      go_wp2_with fail
      refine HD1.out.mono ?_
      rintro e w1 ⟨rfl, hb1⟩
      have HB1 := hide hb1
      clear hb1
      go_wp2_with fail
      refine (HD2.out _ HB1.out).mono ?_
      rintro e w2 ⟨rfl, hb2⟩
      have HB2 := hide (bafter HB1.out hb2 (Nat.le_refl _))
      clear hb2
      dsimp only
      go_wp2_with fail
      refine (HFA.out _ HB2.out).mono ?_
      rintro e w3 ⟨rfl, hw3⟩
      rw [hw3]
      clear hw3
      go_wp2
      go_loopw [12] (fun sv wr => (sv = .int .i32 (z : Int) ∨ sv = .int .i32 (y : Int)) ∧ wr = w2) (fun sv _ => (RowKit.intOf sv - (y : Int)).natAbs)
      case atStart => exact ⟨.inl rfl, rfl⟩
      case round =>
        obtain ⟨hsv, hwr⟩ := hrel
        rw [hwr]
        clear hwr
        have ezr' : ((z : Int) == (r : Int)) = false := beq_eq_false_iff_ne.2 (by omega)
        have eyy : ((y : Int) != (y : Int)) = false := by simp
        by_cases hzy : z = y
        · have hsv' : u12 = .int .i32 (y : Int) := by
            rcases hsv with h | h
            · rw [h, hzy]
            · exact h
          subst hsv'
          clear hsv
          go_wp2
          simp only [Exit.jump]
          go_ret
          exact ⟨by rw [HE.out]; rfl, HB2.out⟩
        · have ezy : ((z : Int) != (y : Int)) = true := by simp; omega
          rcases hsv with rfl | rfl
          · go_wp2_with fail
            refine (HFB.out _ HB2.out).mono ?_
            rintro e w4 ⟨rfl, hw4⟩
            rw [hw4]
            clear hw4
            go_wp2
            go_roundw
            case rel => exact ⟨.inr rfl, by first | rfl | trivial⟩
            case measure =>
              simp [RowKit.intOf]
              omega
          · go_wp2
            simp only [Exit.jump]
            go_ret
            exact ⟨by rw [HE.out]; rfl, HB2.out⟩

def arName : Array Value := #[.int .u8 67, .int .u8 111, .int .u8 110, .int .u8 116, .int .u8 101, .int .u8 110, .int .u8 116, .int .u8 45, .int .u8 76, .int .u8 101, .int .u8 110, .int .u8 103, .int .u8 116, .int .u8 104]

set_option maxHeartbeats 2000000 in
theorem isLength_calls (w : World) (ao : Option Addr) (cap : Nat) (T : List Nat) (h : Byts w (.slice ao T.length cap) T) (hcap : T.length ≤ cap) (hlen : T.length ≤ 1000000000) (hK : Know w) :
    Calls Tryd.prog 38 #[.slice ao T.length cap] w fun e w' => e = .returned (.bool (isLenL T)) ∧ Below w.heap.size w w' := by
  obtain ⟨wA, hwA⟩ : ∃ wA, w.alloc (.cells arName 5 (14, 15)) = wA := ⟨_, rfl⟩
  have hc1 : (convert 25 25 (.slice (some ⟨w.heap.size, 0, none⟩) 14 14)).run Tryd.prog (w.alloc (.cells arName 5)) = .ok (.slice (some ⟨w.heap.size, 0, none⟩) 14 14) wA := by
    rw [← hwA]; exact run_convert_bytes_const w 25 5 arName 14 14 Tryd.underlying25 Tryd.underlying5
  have hR : NameAt wA w.heap.size := by
    have h1 := byts_lit w capName (by decide) (14, 15)
    obtain ⟨a1, c1, e1, _, h2⟩ := h1
    cases e1
    intro j hj
    obtain ⟨b', off', e', hx⟩ := h2 j hj
    cases e'
    rw [← hwA]
    rw [Nat.zero_add] at hx
    exact hx
  have hb1 : Below w.heap.size w wA := by rw [← hwA]; exact bel _ _
  have HB := hide hb1
  have HC := hide (equalFold_calls wA ao cap w.heap.size T (h.below hb1) hcap hlen (hK.below hb1) hR)
  clear hb1 hR h hK hwA
  unfold arName at hc1
  go_enter Tryd.func38, Tryd.ntmps38
  go_wp2_with fail
  refine HC.out.mono ?_
  rintro e w1 ⟨rfl, hb1⟩
  have HB1 := hide (bafter HB.out hb1 (Nat.le_refl _))
  clear hb1
  go_wp2
  go_ret
  exact ⟨rfl, HB1.out⟩

end Go.Proofs.YtnflbplhokodjaaDoor
