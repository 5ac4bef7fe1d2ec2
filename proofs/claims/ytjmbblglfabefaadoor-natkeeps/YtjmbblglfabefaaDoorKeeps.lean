/- The law NatKeeps: the walk. -/
import Derived.Test.YtjmbblglfabefaaDoorKeepMem
namespace Go.Proofs.YtjmbblglfabefaaDoor
set_option linter.unusedVariables false
set_option linter.unusedSimpArgs false
open Go Go.RowKit Go.Shelf Go.Lib

/-- What is kept while the six lists are written into. -/
def KeepInv (w6 : World) (gl : Nat) (vals : List Value) (W : World) : Prop :=
  Below w6.heap.size w6 W ∧ W.heap[gl]? = some (.cells vals.toArray 22 (0, 0)) ∧ (∀ v ∈ vals, Spot w6.heap.size gl W v) ∧ w6.heap.size ≤ gl

theorem KeepInv.set {w6 : World} {gl : Nat} {vals : List Value} {W : World} (h : KeepInv w6 gl vals W) {g : Nat} (hg : w6.heap.size ≤ g) (hl : g < gl) (j : Nat) : KeepInv w6 gl vals (W.setCell ⟨g, j, none⟩ (.int .u32 5)) := by
  obtain ⟨h1, h2, h3, h4⟩ := h
  refine ⟨h1.setCell (p := ⟨g, j, none⟩) hg _, (heap_setCell_other W ⟨g, j, none⟩ gl _ (by show gl ≠ g; omega)).trans h2, fun v hv => (h3 v hv).set g j 5, h4⟩

theorem KeepInv.at {w6 : World} {gl : Nat} {vals : List Value} {W : World} (h : KeepInv w6 gl vals W) {i : Nat} {v : Value} (hi : vals[i]? = some v) : W.cell? ⟨gl, i, none⟩ = some v := by
  rw [cell_of_row W gl i _ _ _ h.2.1]
  simpa using hi

theorem lit_one (w : World) (t : Nat) (ht : t < 4294967296) : Limbs (w.alloc (.cells #[.int .u32 (t : Int)] 46)) (.slice (some ⟨w.heap.size, 0, none⟩) 1 1) [t] := by
  have := lit_limbs w [t] (fun x hx => by rw [List.mem_singleton.1 hx, R_eq]; exact ht) (by simp)
  simpa using this

theorem appB {w W W' : World} {o : Obj} {v : Value} {gs : List Nat} (h : Below w.heap.size w W) (ho : OwnU w.heap.size (W.alloc o) v gs) (hg : (W.alloc o).grownBy W' v.ownBlock) : Below w.heap.size w W' :=
  below_grown (h.alloc h.size o) (Nat.le_refl _) hg (fun k hk => (ho.lt k hk).1)

set_option maxRecDepth 100000 in
set_option maxHeartbeats 2000000 in
theorem keeps_calls (w : World) (sa sb : Value) (xs ys : List Nat) (ha0 : Limbs w sa xs) (hb0 : Limbs w sb ys) (htab : TabIs Tryd.prog w "internal/strconv.uint64pow10" .u64 pow10Tab) :
    Calls Tryd.prog 6 #[sa, sb] w fun e w' => e = .returned (.bool true) ∧ Below w.heap.size w w' := by
  obtain ⟨aa, ca, rfl⟩ := ha0.len
  obtain ⟨ab, cb, rfl⟩ := hb0.len
  by_cases h1 : xs.length > 12
  · have d1 : decide ((xs.length : Int) > 12) = true := decide_eq_true (by omega)
    go_enter Tryd.func6, Tryd.ntmps6
    go_wp2_with fail
    refine (counted_calls _ htab).mono ?_
    rintro e w1 ⟨rfl, k1⟩
    go_wp2_with fail
    refine (counted_calls _ (tab_keep htab k1)).mono ?_
    rintro e w2 ⟨rfl, k2⟩
    go_wp2
    go_ret
    exact ⟨rfl, bthn k1 k2⟩
  have d1 : decide ((xs.length : Int) > 12) = false := decide_eq_false (by omega)
  by_cases h2 : ys.length > 12
  · have d2 : decide ((ys.length : Int) > 12) = true := decide_eq_true (by omega)
    go_enter Tryd.func6, Tryd.ntmps6
    go_wp2_with fail
    refine (counted_calls _ htab).mono ?_
    rintro e w1 ⟨rfl, k1⟩
    go_wp2_with fail
    refine (counted_calls _ (tab_keep htab k1)).mono ?_
    rintro e w2 ⟨rfl, k2⟩
    go_wp2
    go_ret
    exact ⟨rfl, bthn k1 k2⟩
  have d2 : decide ((ys.length : Int) > 12) = false := decide_eq_false (by omega)
  have hsx := hide ha0.small
  have hsy := hide hb0.small
  go_enter Tryd.func6, Tryd.ntmps6
  go_wp2_with fail
  refine (counted_calls _ htab).mono ?_
  rintro e w1 ⟨rfl, k1⟩
  have A1 := hide (ha0.below k1)
  have B1 := hide (hb0.below k1)
  have K1 := hide k1
  clear ha0 hb0 k1 htab
  have A1' := hide (A1.out.below ((Below.refl _ _).alloc (Nat.le_refl _) (.cells #[] 46)))
  go_wp2_with (first
    | (at_builtin; go_must (first
      | (refine wpList_appU _ rfl (.tmp 40) (.tmp 41) rfl w3.heap.size _ ys rfl O3.out _ [9] rfl (lit_one w4 9 (by decide)) (by simp; omega) (by have := b34.out.size; simp; omega) ?_
         intro v4 w5 o4 g4
         have b35 := hide (appB b34.out O3.out g4)
         obtain ⟨gy, cy, rfl, hgy, hgy2, hcy, hcy2⟩ := o4.front hsy.out (by omega)
         have O4 := hide o4
         clear o4 g4)
      | (refine wpList_appU _ rfl (.tmp 38) (.tmp 39) rfl w3.heap.size _ [] rfl (OwnU.empty w3) _ ys rfl B3.out (by simp; omega) (by simp) ?_
         intro v3 w4 o3 g3
         have b34 := hide (appB (Below.refl _ w3) (OwnU.empty w3) g3)
         have O3 := hide (World.ownsRow.alloc o3 (.cells #[.int .u32 9] 46))
         clear o3 g3)
      | (refine wpList_appU _ rfl (.tmp 32) (.tmp 33) rfl w1.heap.size _ xs rfl O1.out _ [7] rfl (lit_one w2 7 (by decide)) (by simp; omega) (by have := b12.out.size; simp; omega) ?_
         intro v2 w3 o2 g2
         have b13 := hide (appB b12.out O1.out g2)
         obtain ⟨gx, cx, rfl, hgx, hgx2, hcx, hcx2⟩ := o2.front hsx.out (by omega)
         have O2 := hide o2
         have B3 := hide ((B1.out.below b13.out).below ((Below.refl _ _).alloc (Nat.le_refl _) (.cells #[] 46)))
         clear o2 g2)
      | (refine wpList_appU _ rfl (.tmp 30) (.tmp 31) rfl w1.heap.size _ [] rfl (OwnU.empty w1) _ xs rfl A1'.out (by simp; omega) (by simp) ?_
         intro v1 w2 o1 g1
         have b12 := hide (appB (Below.refl _ w1) (OwnU.empty w1) g1)
         have O1 := hide (World.ownsRow.alloc o1 (.cells #[.int .u32 7] 46))
         clear o1 g1)))
    | fail)
  have X5 := hide ((O2.out.limbsFront hsx.out (by omega) hcx).below b35.out)
  have Y5 := hide (O4.out.limbsFront hsy.out (by omega) hcy)
  have O2' := hide (O2.out.keep b35.out)
  have A5 := hide ((A1.out.below b13.out).below b35.out)
  have B5 := hide ((B1.out.below b13.out).below b35.out)
  have K5 := hide (bthn (bthn K1.out b13.out) b35.out)
  have hgx5 : gx < w5.heap.size := Nat.lt_of_lt_of_le hgx2 b35.out.size
  clear O1 O2 O3 B3 A1 A1' B1 K1 b12 b13 b34 b35 hgx hgy hgx2
  refine (add_fresh X5.out Y5.out (by omega) (by omega)).mono ?_
  rintro e w6 ⟨s, rfl, fs, k6⟩
  have X6 := hide (X5.out.below k6)
  have Y6 := hide (Y5.out.below k6)
  have Fs := hide fs
  have K6 := hide k6
  clear fs k6
  go_wp2_with fail
  refine (mul_fresh X6.out Y6.out (by omega) (by omega)).mono ?_
  rintro e w7 ⟨p, rfl, fp, k7⟩
  have X7 := hide (X6.out.below k7)
  have Y7 := hide (Y6.out.below k7)
  have Fs7 := hide (Fs.out.below k7)
  have Fp := hide (fp.mono K6.out.size)
  have K7 := hide (bthn K6.out k7)
  clear fp k7 X6 Y6 Fs K6
  go_wp2_with fail
  refine (norm_fresh X7.out (by omega)).mono ?_
  rintro e w8 ⟨n, rfl, fn, k8⟩
  have X8 := hide (X7.out.below k8)
  have Y8 := hide (Y7.out.below k8)
  have Fs8 := hide (Fs7.out.below k8)
  have Fp8 := hide (Fp.out.below k8)
  have Fn := hide (fn.mono K7.out.size)
  have K8 := hide (bthn K7.out k8)
  clear fn k8 X7 Y7 Fs7 Fp K7
  go_wp2_with fail
  refine (divMod_fresh X8.out Y8.out (by omega) (by omega)).mono ?_
  rintro e w9 ⟨q, r, c, rfl, fq, fr, k9⟩
  have X9 := hide (X8.out.below k9)
  have Y9 := hide (Y8.out.below k9)
  have Fs9 := hide (Fs8.out.below k9)
  have Fp9 := hide (Fp8.out.below k9)
  have Fn9 := hide (Fn.out.below k9)
  have Fq := hide (fq.mono K8.out.size)
  have Fr := hide (fr.mono K8.out.size)
  have K9 := hide (bthn K8.out k9)
  clear fq fr k9 X8 Y8 Fs8 Fp8 Fn K8
  go_wp2_with fail
  refine (gcd_fresh X9.out Y9.out (by omega) (by omega)).mono ?_
  rintro e w10 ⟨g, rfl, fg, k10⟩
  have Ss := hide (Fs9.out.below k10).spot
  have Sp := hide (Fp9.out.below k10).spot
  have Sn := hide (Fn9.out.below k10).spot
  have Sq := hide (Fq.out.below k10).spot
  have Sr := hide (Fr.out.below k10).spot
  have Sg := hide (fg.mono K9.out.size).spot
  have K10 := hide (bthn K9.out k10)
  clear fg k10 X9 Y9 Fs9 Fp9 Fn9 Fq Fr K9
  obtain ⟨a0, Ls, cs, rfl, hLs⟩ := Ss.out.shape
  obtain ⟨ap, Lp, cp, rfl, hLp⟩ := Sp.out.shape
  obtain ⟨an, Ln, cn, rfl, hLn⟩ := Sn.out.shape
  obtain ⟨aq, Lq, cq, rfl, hLq⟩ := Sq.out.shape
  obtain ⟨ar, Lr, cr, rfl, hLr⟩ := Sr.out.shape
  obtain ⟨ag, Lg, cg, rfl, hLg⟩ := Sg.out.shape
  go_wp2
  have hvals : ∃ vals : List Value, vals = [.slice a0 Ls cs, .slice ap Lp cp, .slice an Ln cn, .slice aq Lq cq, .slice ar Lr cr, .slice ag Lg cg] := ⟨_, rfl⟩
  obtain ⟨vals, hvals⟩ := hvals
  have hlen : Hid (vals.length = 6) := by show _ = _; rw [hvals]; rfl
  have hinv : Hid (KeepInv w5 w10.heap.size vals (w10.alloc (.cells #[.slice a0 Ls cs, .slice ap Lp cp, .slice an Ln cn, .slice aq Lq cq, .slice ar Lr cr, .slice ag Lg cg] 22))) := by
    refine ⟨K10.out.alloc K10.out.size _, ?_, ?_, K10.out.size⟩
    · rw [hvals]; exact World.alloc_heap_new _ _
    · rw [hvals]
      intro v hv
      simp only [List.mem_cons, List.not_mem_nil, or_false] at hv
      rcases hv with rfl | rfl | rfl | rfl | rfl | rfl
      · exact Ss.out.alloc _
      · exact Sp.out.alloc _
      · exact Sn.out.alloc _
      · exact Sq.out.alloc _
      · exact Sr.out.alloc _
      · exact Sg.out.alloc _
  clear Ss Sp Sn Sq Sr Sg hLs hLp hLn hLq hLr hLg hvals
  go_loopw [15] (fun iv wr => ∃ i : Nat, i ≤ 6 ∧ iv = .int .i64 (i : Int) ∧ Hid (KeepInv w5 w10.heap.size vals wr)) (fun iv _ => 6 - (RowKit.intOf iv).toNat)
  case atStart => exact ⟨0, by omega, rfl, hinv⟩
  case round =>
    obtain ⟨i, hi, rfl, hI⟩ := hrel
    by_cases hi6 : i < 6
    · have hil : i < vals.length := by rw [hlen.out]; exact hi6
      obtain ⟨ai, Li, ci, hv, hLi⟩ := (hI.out.2.2.1 _ (List.getElem_mem hil)).shape
      have Hmem : Hid (.slice ai Li ci ∈ vals) := by show _ ∈ _; rw [← hv]; exact List.getElem_mem hil
      have Hat : Hid (vals[i]? = some (.slice ai Li ci)) := by show _ = _; rw [← hv]; exact List.getElem?_eq_getElem hil
      clear hv hil
      go_wp2
      go_loopw [16] (fun kv wr' => ∃ k : Nat, k ≤ Li ∧ kv = .int .i64 (k : Int) ∧ Hid (KeepInv w5 w10.heap.size vals wr')) (fun kv _ => Li - (RowKit.intOf kv).toNat)
      case atStart => exact ⟨0, by omega, rfl, hI⟩
      case round =>
        obtain ⟨k, hk, rfl, hJ⟩ := hrel
        have ct := hJ.out.at Hat.out
        by_cases hkL : k < Li
        · rcases hJ.out.2.2.1 _ Hmem.out with h0 | ⟨g', full, L, cap, e, hg1, hg2, hg3, hg4, hg5, hrow⟩
          · cases h0
            omega
          · cases e
            have hcell := hrow.cell (j := k) (by omega)
            have hfro := hrow.frozen k
            go_wp2
            go_roundw
            case rel => exact ⟨k + 1, by omega, by go_num, hJ.out.set hg1 hg2 k⟩
            case measure => simp [RowKit.intOf]; omega
        · obtain rfl : k = Li := by omega
          go_wp2
          go_roundw
          case rel => exact ⟨i + 1, by omega, by go_num, hJ⟩
          case measure => simp [RowKit.intOf]; omega
    · obtain rfl : i = 6 := by omega
      have kI := hide hI.out.1
      have XF := hide (X5.out.below kI.out)
      have AF := hide (A5.out.below kI.out)
      have YF := hide (Y5.out.below kI.out)
      have BF := hide (B5.out.below kI.out)
      have c7 := hide (O2'.out.keep kI.out).cellLast
      have c9 := hide (O4.out.keep kI.out).cellLast
      have KF := hide (bthn K5.out kI.out)
      clear hI hinv K10 K5 X5 A5 Y5 B5 O2' O4 kI
      go_wp2_with fail
      refine (words_eq XF.out AF.out).mono ?_
      rintro e w11 ⟨rfl, k11⟩
      have YF' := hide (YF.out.below k11)
      have BF' := hide (BF.out.below k11)
      have K11 := hide k11
      clear k11
      go_wp2_with fail
      refine (words_eq YF'.out BF'.out).mono ?_
      rintro e w12 ⟨rfl, k12⟩
      have kk := bthn K11.out k12
      have d7 := (kk.cell (p := ⟨gx, xs.length, none⟩) (block_lt_of_cell c7.out)).trans c7.out
      have d9 := (kk.cell (p := ⟨gy, ys.length, none⟩) (block_lt_of_cell c9.out)).trans c9.out
      have KZ := hide (bthn KF.out kk)
      clear kk k12 K11
      go_wp2
      go_ret
      exact ⟨rfl, KZ.out⟩

end Go.Proofs.YtjmbblglfabefaaDoor
